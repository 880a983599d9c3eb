import Derived.Test.YtjhnlmedmpcgoaaTbp
set_option linter.unusedVariables false
set_option linter.unusedSimpArgs false
namespace Go.Proofs.Ytjhnlmedmpcgoaa
open Go.RowKit
namespace C
variable {B b : Nat} {ao : Option Addr} {cap : Nat} {L : List Tk} {now : Nat} {w w' : World} {D Dc : Nat → Prop} {c : Nat} {n : Int} {ts : List Int}
set_option maxRecDepth 100000 in
set_option maxHeartbeats 4000000 in
/-- a step, whatever the machine does with it -/
theorem step_someW (c : Nat) (i : Nat) (h : Bo D B b L now w) (hi : L[i]? = some ((76, .pointer (some ⟨c, 0, none⟩)), -1)) {Q : Bool → World → Prop} {S : Nat → Prop} (hS : ∀ j, D j → ¬ S j)
    (hc : Calls Try.prog 83 #[.pointer (some ⟨c, 0, none⟩), .int .i64 (now : Nat)] w.drew fun e w' => ∃ r, e = .returned (.bool r) ∧ Turn S w w' ∧ Q r w') : Calls Try.prog 55 #[.pointer (some ⟨b, 0, none⟩), .int .i64 (i : Nat)] w fun e w' => e = .returned (.bool true) ∧ ∃ r w1, Q r w1 ∧ Turn S w w1 ∧ Bo D B b (if r then L.set i ((76, .pointer (some ⟨c, 0, none⟩)), (now : Int)) else L) now w' ∧ Turn D w1 w' := by
  have hm : ∀ w : World, (method 222 76 (.pointer (some ⟨c, 0, none⟩)) "Step").run Try.prog w = .ok (83, .pointer (some ⟨c, 0, none⟩)) w := fun _ => by kernel_rfl
  have HH := hide' (has_any (i : Int) h)
  have hlt : i < L.length := (List.getElem?_eq_some_iff.1 hi).1
  rw [show hs L (i : Int) = true from decide_eq_true (by omega)] at HH
  obtain ⟨ao, cap, hb, hd⟩ := h
  obtain ⟨g, rfl, q1, q2, q3, q4, q5⟩ := hb.cells hi
  have c0 := hb.c0
  have c1 := hb.c1
  have HC := hide' hc
  have hlt' : (i : Int) < (L.length : Int) := by omega
  have Hi := hide' hi
  have Hb := hide' hb
  have nb := hS b ((hd b).2 (.inl rfl))
  have ng := hS g ((hd g).2 (.inr ⟨_, rfl, rfl⟩))
  have bl := hb.lt
  have HK := hide' (fun w3 (t3 : Turn S w w3) => hb.kept t3 (fun j hj => hS j ((hd j).2 hj)))
  clear hc hb q3 q4 hi hS
  go_enter Try.func55, Try.ntmps55
  go_wp2_with fail
  refine HH.out.mono ?_
  rintro e w2 ⟨rfl, rfl⟩
  go_wp2_with fail
  replace q1 : w2.cell? ⟨g, i * 2, none⟩ = some (.iface 76 (.pointer (some ⟨c, 0, none⟩))) := q1
  have q1' : w2.drew.cell? ⟨g, i * 2, none⟩ = some (.iface 76 (.pointer (some ⟨c, 0, none⟩))) := q1
  go_region_held3 (fun w' => w'.cell? ⟨b, 0, none⟩ = some (.slice (some ⟨g, 0, none⟩) L.length cap) ∧ w'.cell? ⟨b, 1, none⟩ = some (.int .i64 (now : Nat)) ∧ w'.cell? ⟨g, i * 2, none⟩ = some (.iface 76 (.pointer (some ⟨c, 0, none⟩)))) (first | go_keep | exact ⟨c0, c1, q1⟩ | exact ⟨k0, k1, k2⟩) ((refine HC.out.mono ?_; rintro e w3 ⟨r, rfl, t3, hq3⟩; have k0 := (t3.cell (p := ⟨b, 0, none⟩) bl nb).trans c0; have k1 := (t3.cell (p := ⟨b, 1, none⟩) bl nb).trans c1; have k2 := (t3.cell (p := ⟨g, i * 2, none⟩) q5 ng).trans q1))
  rename_i hHeld
  clear hHeld
  have K := hide' (And.intro hq3 t3)
  have hb3 := HK.out w3 t3
  clear q1 q1' q2 c0 c1 HC HH bl nb ng q5 hq3 t3
  cases r with
  | false =>
    have H3 := hide' hb3
    clear hb3 k0 k1 k2
    go_wp2
    go_ret
    exact ⟨rfl, false, w3, K.out.1, K.out.2, ⟨_, _, H3.out, hd⟩, Turn.refl _ _⟩
  | true =>
    have H3 := hide' (hb3.put Hi.out (now : Int))
    obtain ⟨g', hg', _, j2, jf, _, _⟩ := hb3.cells Hi.out
    cases hg'
    have j2 : w3.cell? ⟨g, i * 2 + 1, none⟩ = some (.int .i64 (-1)) := j2
    have f2 := jf (i * 2 + 1)
    clear hb3 jf k2
    go_wp2_with fail
    go_region
    go_wp2
    go_ret
    exact ⟨rfl, true, w3, K.out.1, K.out.2, ⟨_, _, by first | exact H3.out.1 | exact H3.out.1.kept ((Turn.refl (fun _ => False) _).drew) (fun _ _ q => q), hd⟩, by first | exact Turn.own hd H3.out.2 | exact (Turn.own hd H3.out.2).drew⟩

theorem bo_ctW (h : Bo D B b L now w) (h' : W.Ct Dc B c n ts w) : ∀ j, D j → ¬ Dc j := by
  intro j q q'
  obtain ⟨cs, t, r, h1, h2⟩ := h.kind q
  obtain ⟨cs', t', r', h3, h4⟩ := h'.kind q'
  rw [h1] at h3
  cases h3
  rcases h2 with rfl | rfl <;> rcases h4 with h4 | h4 <;> cases h4
def ptw (c : Nat) : Nat × Value := (76, .pointer (some ⟨c, 0, none⟩))
/-- a pick that is a step of a counter -/
theorem pick_stepW (i : Nat) (h : Bo D B b L now w) (hc : W.Ct Dc B c n ts w) (hi : L[i]? = some (ptw c, -1)) (hB : B ≤ w.heap.size) (hts : ts.length < 17592186043904) (hn : now < 9000000000000000) :
    Calls Try.prog 34 #[.pointer (some ⟨b, 0, none⟩), .int .i64 (i : Int)] w fun e w' => e = .returned (.bool true) ∧ Bo D B b (if W.fn n (ts ++ [(now : Int)]).length then L.set i (ptw c, (now : Int)) else L) (now + 1) w' ∧ Turn (fun j => D j ∨ Dc j) w w' ∧ ∃ Dc', W.Ct Dc' B c n ((ts ++ [(now : Int)])) w' ∧ ∀ j, Dc' j → Dc j ∨ w.heap.size ≤ j := by
  have hdis := bo_ctW h hc
  refine (pick_of (D := D) (B := B) (now := now) (L' := L) (Q := fun r w' => r = true ∧ Bo D B b (if W.fn n (ts ++ [(now : Int)]).length then L.set i (ptw c, (now : Int)) else L) (now + 1) w' ∧ Turn (fun j => D j ∨ Dc j) w w' ∧ ∃ Dc', W.Ct Dc' B c n ((ts ++ [(now : Int)])) w' ∧ ∀ j, Dc' j → Dc j ∨ w.heap.size ≤ j) (i : Int) hn ?_).mono ?_
  · have hcd : W.Ct Dc B c n ts w.drew := hc.kept ((Turn.refl (fun _ => False) w).drew) (fun _ _ q => q)
    refine (step_someW c i h hi (S := Dc) (Q := fun r w1 => r = W.fn n (ts ++ [(now : Int)]).length ∧ ∃ Dc', W.Ct Dc' B c n ((ts ++ [(now : Int)])) w1 ∧ ∀ j, Dc' j → Dc j ∨ w.heap.size ≤ j) hdis ?_).mono ?_
    · refine (W.step_any (now : Int) hcd hB hts).mono ?_
      rintro e w1 ⟨rfl, Dc', h1, t1, hd⟩
      exact ⟨_, rfl, ((Turn.refl Dc w).drew).trans t1, rfl, Dc', h1, hd⟩
    · rintro e w1 ⟨rfl, r, w2, ⟨rfl, Dc', h2, hd2⟩, t2, h3, t3⟩
      refine ⟨true, _, rfl, h3, fun w4 h4 t4 => ⟨rfl, h4, ?_, Dc', ?_, hd2⟩⟩
      · exact ((t2.mono (S' := fun j => D j ∨ Dc j) (fun j _ q => .inr q)).trans (t3.mono (fun j _ q => .inl q))).trans (t4.mono (fun j _ q => .inl q))
      · have hlow : ∀ j, Dc' j → ¬ D j := fun j q q' => by
          rcases hd2 j q with q2 | q2
          · exact hdis j q' q2
          · have := (h.lo q').2; omega
        exact (h2.kept t3 hlow).kept t4 hlow
  · rintro e w1 ⟨r, rfl, rfl, h1⟩
    exact ⟨rfl, h1⟩

set_option maxRecDepth 100000 in
set_option maxHeartbeats 400000 in
theorem join_nil (w : World) : Calls Try.prog 33 #[.pointer (some ⟨b, 0, none⟩), .nilIface] w fun e w' => e = .returned (.tuple #[.int .i64 0, .int .i64 2]) ∧ w' = w := by
  go_enter Try.func33, Try.ntmps33
  go_wp2
  go_ret2
  exact ⟨rfl, rfl⟩
end C
end Go.Proofs.Ytjhnlmedmpcgoaa
