import Derived.Test.YtjhnlmedmpcgoaaBrd
set_option linter.unusedVariables false
set_option linter.unusedSimpArgs false
namespace Go.Proofs.Ytjhnlmedmpcgoaa
open Go.RowKit
namespace C
variable {B b : Nat} {L : List Tk} {now : Nat} {w w' : World} {D Dc : Nat → Prop} {c : Nat} {n : Int} {ts : List Int}
theorem bo_ct (h : Bo D B b L now w) (h' : Ct Dc B c n ts w) : ∀ j, D j → ¬ Dc j := by
  intro j q q'
  obtain ⟨cs, t, r, h1, h2⟩ := h.kind q
  obtain ⟨cs', t', r', h3, h4⟩ := h'.kind q'
  rw [h1] at h3
  cases h3
  rcases h2 with rfl | rfl <;> rcases h4 with h4 | h4 <;> cases h4
def ptr (c : Nat) : Nat × Value := (24, .pointer (some ⟨c, 0, none⟩))
/-- a pick that is no step -/
theorem pick_none (k : Int) (h : Bo D B b L now w) (hk : en L k ≠ -1 ∨ hs L k = false) (hn : now < 9000000000000000) : Calls Try.prog 34 #[.pointer (some ⟨b, 0, none⟩), .int .i64 k] w fun e w' => e = .returned (.bool false) ∧ Bo D B b L (now + 1) w' ∧ Turn D w w' := by
  refine (pick_of (D := D) (B := B) (now := now) (L' := L) (Q := fun r w' => r = false ∧ Bo D B b L (now + 1) w' ∧ Turn D w w') k hn ?_).mono ?_
  · refine (step_none k h hk).mono ?_
    rintro e w1 ⟨rfl, rfl⟩
    exact ⟨false, L, rfl, h, fun w2 h2 t2 => ⟨rfl, h2, t2⟩⟩
  · rintro e w1 ⟨r, rfl, rfl, h1, t1⟩
    exact ⟨rfl, h1, t1⟩
/-- a pick that is a step of a counter -/
theorem pick_step (i : Nat) (h : Bo D B b L now w) (hc : Ct Dc B c n ts w) (hi : L[i]? = some (ptr c, -1)) (hB : B ≤ w.heap.size) (hts : ts.length < 17592186043904) (hn : now < 9000000000000000) :
    Calls Try.prog 34 #[.pointer (some ⟨b, 0, none⟩), .int .i64 (i : Int)] w fun e w' => e = .returned (.bool true) ∧ Bo D B b (if lst n (stp n ts now) then L.set i (ptr c, (now : Int)) else L) (now + 1) w' ∧ Turn (fun j => D j ∨ Dc j) w w' ∧ ∃ Dc', Ct Dc' B c n (stp n ts now) w' ∧ ∀ j, Dc' j → Dc j ∨ w.heap.size ≤ j := by
  have hdis := bo_ct h hc
  refine (pick_of (D := D) (B := B) (now := now) (L' := L) (Q := fun r w' => r = true ∧ Bo D B b (if lst n (stp n ts now) then L.set i (ptr c, (now : Int)) else L) (now + 1) w' ∧ Turn (fun j => D j ∨ Dc j) w w' ∧ ∃ Dc', Ct Dc' B c n (stp n ts now) w' ∧ ∀ j, Dc' j → Dc j ∨ w.heap.size ≤ j) (i : Int) hn ?_).mono ?_
  · have hcd : Ct Dc B c n ts w.drew := hc.kept ((Turn.refl (fun _ => False) w).drew) (fun _ _ q => q)
    refine (step_some c i h hi (S := Dc) (Q := fun r w1 => r = lst n (stp n ts now) ∧ ∃ Dc', Ct Dc' B c n (stp n ts now) w1 ∧ ∀ j, Dc' j → Dc j ∨ w.heap.size ≤ j) hdis ?_).mono ?_
    · refine (step_any (now : Int) hcd hB hts).mono ?_
      rintro e w1 ⟨rfl, Dc', h1, t1, hd⟩
      exact ⟨_, rfl, ((Turn.refl Dc w).drew).trans t1, rfl, Dc', h1, hd⟩
    · rintro e w1 ⟨rfl, r, w2, ⟨rfl, Dc', h2, hd2⟩, t2, h3, t3⟩
      refine ⟨true, _, rfl, h3, fun w4 h4 t4 => ⟨rfl, h4, ?_, Dc', ?_, hd2⟩⟩
      · exact ((t2.mono (S' := fun j => D j ∨ Dc j) (fun j _ q => .inr q)).trans (t3.mono (fun j _ q => .inl q))).trans (t4.mono (fun j _ q => .inl q))
      · have hlow : ∀ j, Dc' j → ¬ D j := fun j q q' => by
          rcases hd2 j q with q2 | q2
          · exact hdis j q' q2
          · have := (h.lo q').2; omega
        exact (h2.kept t3 hlow).kept t4 hlow
  · rintro e w1 ⟨r, rfl, rfl, h1⟩
    exact ⟨rfl, h1⟩
end C
end Go.Proofs.Ytjhnlmedmpcgoaa
