import Derived.Test.YtkipcdjadmocaaaMade
set_option linter.unusedVariables false
set_option linter.unusedSimpArgs false
namespace Go.Proofs.Ytkipcdjadmocaaa
open Go.RowKit
def bools (p : Nat → Bool) (n : Nat) : List Value := (List.range n).map fun i => Value.bool (p i)
theorem bools_len (p : Nat → Bool) (n : Nat) : (bools p n).length = n := by simp [bools]
theorem bools_succ (p : Nat → Bool) (n : Nat) : bools p (n + 1) = bools p n ++ [.bool (p n)] := by simp [bools, List.range_succ]
theorem bools_at (p : Nat → Bool) (n j : Nat) (h : j < n) : (bools p n)[j]? = some (.bool (p j)) := by simp [bools, h]
/-- BLOCK x IS A SET OF THE DOCUMENT's, of that room, that holds p; its row is ao's -/
structure Rs (B x : Nat) (ao : Option Addr) (cap R : Nat) (p : Nat → Bool) (w : World) : Prop where
  hB : B ≤ x
  hx : w.heap[x]? = some (.cells #[.slice ao R cap] 72 (0, 0))
  row : w.ownsRow B 4 1 (.slice ao R cap) R (bools p R)
  out : ∀ i, R ≤ i → p i = false
  le : R ≤ 65536
theorem Rs.lt {B x : Nat} {ao : Option Addr} {cap R : Nat} {p : Nat → Bool} {w : World} (h : Rs B x ao cap R p w) : x < w.heap.size := (Array.getElem?_eq_some_iff.1 h.hx).1
theorem Rs.c0 {B x : Nat} {ao : Option Addr} {cap R : Nat} {p : Nat → Bool} {w : World} (h : Rs B x ao cap R p w) : w.cell? ⟨x, 0, none⟩ = some (.slice ao R cap) := by rw [Lib.cell_of_heap h.hx]; rfl
theorem Rs.drewN {B x : Nat} {ao : Option Addr} {cap R : Nat} {p : Nat → Bool} {w : World} (h : Rs B x ao cap R p w) (n : Nat) : Rs B x ao cap R p (w.drewN n) := ⟨h.hB, h.hx, h.row, h.out, h.le⟩
/-- the row's block -/
def Rrow (ao : Option Addr) (j : Nat) : Prop := ∃ a, ao = some a ∧ j = a.block
theorem Rs.kept {S : Nat → Prop} {B x : Nat} {ao : Option Addr} {cap R : Nat} {p : Nat → Bool} {w w' : World} (h : Rs B x ao cap R p w) (t : Turn S w w') (h1 : ¬ S x) (h2 : ∀ j, Rrow ao j → ¬ S j) : Rs B x ao cap R p w' :=
  ⟨h.hB, (t.block x h.lt h1).trans h.hx, t.row h.row (fun g hg => h2 g (by cases ao with
    | none => cases hg
    | some a => cases hg; exact ⟨a, rfl, rfl⟩)), h.out, h.le⟩
/-- where the row lies, if there is one -/
theorem Rs.at' {B x : Nat} {ao : Option Addr} {cap R : Nat} {p : Nat → Bool} {w : World} (h : Rs B x ao cap R p w) (hR : 0 < R) : ∃ g, ao = some ⟨g, 0, none⟩ ∧ B ≤ g ∧ g < w.heap.size ∧ (∀ j, j < R → w.cell? ⟨g, j, none⟩ = some (.bool (p j))) ∧ (∀ j, w.frozen? ⟨g, j, none⟩ = false) ∧ g ≠ x := by
  have hr := h.row
  rcases hr.2 with ⟨hv, h0⟩ | ⟨g, cap', cur, hv, hb, hg, h1, h2, h3, h4⟩
  · omega
  · simp only [Value.slice.injEq] at hv
    obtain ⟨rfl, _, rfl⟩ := hv
    refine ⟨g, rfl, hb, (Array.getElem?_eq_some_iff.1 hg).1, fun j hj => row_at hr j _ (bools_at p R j hj), fun j => Lib.frozen_of_heap hg j, fun e => ?_⟩
    have := h.hx
    rw [← e, hg] at this
    simp at this
theorem Rs.put {B x g cap R : Nat} {p p' : Nat → Bool} {w : World} (h : Rs B x (some ⟨g, 0, none⟩) cap R p w) (i : Nat) (hi : i < R) (hp : ∀ j, j ≠ i → p' j = p j) (hgx : g ≠ x) (b : Bool) (hb : p' i = b) : Rs B x (some ⟨g, 0, none⟩) cap R p' (w.setCell ⟨g, i, none⟩ (.bool b)) := by
  have hr := h.row
  refine ⟨h.hB, ?_, ?_, fun j hj => ?_, h.le⟩
  · rw [Below.heap_setCell _ _ _ _ (fun q => hgx q.symm)]; exact h.hx
  · have e : bools p' R = (bools p R).set i (.bool b) := by
      apply List.ext_getElem?
      intro j
      rw [List.getElem?_set, bools_len]
      by_cases hji : i = j
      · subst hji; rw [bools_at p' R i hi, hb]; simp [hi]
      · by_cases hjR : j < R
        · rw [bools_at p' R j hjR, bools_at p R j hjR, hp j (fun q => hji q.symm)]; simp [hji]
        · simp [bools, hjR, hji]
    rw [e]
    exact (hr.stored i (.bool b)).1
  · rw [hp j (by omega)]; exact h.out j hj
set_option maxHeartbeats 1000000 in
set_option maxRecDepth 100000 in
theorem rroom_any {B x : Nat} {ao : Option Addr} {cap R : Nat} {p : Nat → Bool} {w : World} (h : Rs B x ao cap R p w) : Calls Try.prog 41 #[.pointer (some ⟨x, 0, none⟩)] w fun e w' => e = .returned (.int .i64 (R : Nat)) ∧ w' = w := by
  have c0 := h.c0
  go_enter Try.func41, Try.ntmps41
  go_wp2
  go_ret
  exact ⟨rfl, rfl⟩
set_option maxHeartbeats 1000000 in
set_option maxRecDepth 100000 in
theorem rhas_any {B x : Nat} {ao : Option Addr} {cap R : Nat} {p : Nat → Bool} {w : World} (i : Int) (h : Rs B x ao cap R p w) : Calls Try.prog 39 #[.pointer (some ⟨x, 0, none⟩), .int .i64 i] w fun e w' => e = .returned (.bool (hasB p i)) ∧ w' = w := by
  have c0 := h.c0
  by_cases h0 : 0 ≤ i
  · obtain ⟨k, rfl⟩ : ∃ k : Nat, i = (k : Int) := ⟨i.toNat, by omega⟩
    have hr : hasB p (k : Int) = p k := by simp [hasB]
    rw [hr]
    by_cases hk : k < R
    · obtain ⟨g, rfl, hb, hl, hc, hf, hgx⟩ := h.at' (by omega)
      have ck := hc k hk
      have e1 : (k : Int) < (R : Int) := by omega
      generalize p k = b at *
      clear hc hf h hr
      go_enter Try.func39, Try.ntmps39
      go_wp2
      go_ret
      exact ⟨rfl, rfl⟩
    · rw [h.out k (by omega)]
      have e1 : ¬ (k : Int) < (R : Int) := by omega
      clear h hr
      go_enter Try.func39, Try.ntmps39
      go_wp2
      go_ret
      exact ⟨rfl, rfl⟩
  · have hr : hasB p i = false := by simp [hasB, h0]
    rw [hr]
    clear h hr
    go_enter Try.func39, Try.ntmps39
    go_wp2
    go_ret
    exact ⟨rfl, rfl⟩
theorem setRow {g i : Nat} {b : Bool} {w : World} : Turn (Rrow (some ⟨g, 0, none⟩)) w (w.setCell ⟨g, i, none⟩ (.bool b)) := (Turn.refl _ w).setCell (p := ⟨g, i, none⟩) (fun _ => ⟨_, rfl, rfl⟩) _
set_option maxHeartbeats 1000000 in
set_option maxRecDepth 100000 in
theorem radd_any {B x : Nat} {ao : Option Addr} {cap R : Nat} {p : Nat → Bool} {w : World} (i : Int) (h : Rs B x ao cap R p w) : Calls Try.prog 37 #[.pointer (some ⟨x, 0, none⟩), .int .i64 i] w fun e w' => e = .returned (.bool (fitB R i && !hasB p i)) ∧ Rs B x ao cap R (addP R p i) w' ∧ Turn (Rrow ao) w w' := by
  have c0 := h.c0
  have H := hide' h
  by_cases h0 : 0 ≤ i
  · obtain ⟨k, rfl⟩ : ∃ k : Nat, i = (k : Int) := ⟨i.toNat, by omega⟩
    have hr : hasB p (k : Int) = p k := by simp [hasB]
    rw [hr]
    have e0 : ¬ (k : Int) < 0 := by omega
    by_cases hk : k < R
    · obtain ⟨g, rfl, hb, hl, hc, hf, hgx⟩ := h.at' (by omega)
      have ck := hc k hk
      have fk := hf k
      have e1 : (k : Int) < (R : Int) := by omega
      have hfit : fitB R (k : Int) = true := by simp only [fitB]; simp; omega
      rw [hfit]
      have Hgx := hide' hgx
      cases hp : p k
      · rw [hp] at ck
        have hadd : ∀ j, j ≠ k → addP R p (k : Int) j = p j := fun j hj => by unfold addP; rw [decide_eq_false (show ¬ (j : Int) = (k : Int) by omega)]; simp
        have hak : addP R p (k : Int) k = true := by unfold addP; simp [hk]
        have Hput := hide' (H.out.put k hk hadd hgx true hak)
        clear hc hf h hr hfit hp hadd hak
        go_enter Try.func37, Try.ntmps37
        go_wp2
        go_ret
        exact ⟨rfl, Hput.out, setRow⟩
      · rw [hp] at ck
        have hadd : addP R p (k : Int) = p := by
          funext j; unfold addP
          by_cases e : j = k
          · subst e; simp [hp]
          · rw [decide_eq_false (show ¬ (j : Int) = (k : Int) by omega)]; simp
        rw [hadd]
        clear hc hf h hr hfit hp hadd
        go_enter Try.func37, Try.ntmps37
        go_wp2
        go_ret
        exact ⟨rfl, H.out, Turn.refl _ _⟩
    · have hpk := h.out k (by omega)
      have hfit : fitB R (k : Int) = false := by simp only [fitB]; simp; omega
      have hadd : addP R p (k : Int) = p := by
        funext j; unfold addP
        by_cases e : j < R
        · rw [decide_eq_false (show ¬ (j : Int) = (k : Int) by omega)]; simp
        · simp [e]
      rw [hfit, hadd]
      have e1 : ¬ (k : Int) < (R : Int) := by omega
      clear h hr hpk hfit hadd
      go_enter Try.func37, Try.ntmps37
      go_wp2
      go_ret
      exact ⟨rfl, H.out, Turn.refl _ _⟩
  · have hfit : fitB R i = false := by simp only [fitB]; simp; omega
    have hadd : addP R p i = p := by
      funext j; unfold addP
      rw [decide_eq_false (show ¬ (j : Int) = i by omega)]; simp
    rw [hfit, hadd]
    clear h hfit hadd
    go_enter Try.func37, Try.ntmps37
    go_wp2
    go_ret
    exact ⟨rfl, H.out, Turn.refl _ _⟩
set_option maxHeartbeats 1000000 in
set_option maxRecDepth 100000 in
theorem rdrop_any {B x : Nat} {ao : Option Addr} {cap R : Nat} {p : Nat → Bool} {w : World} (i : Int) (h : Rs B x ao cap R p w) : Calls Try.prog 38 #[.pointer (some ⟨x, 0, none⟩), .int .i64 i] w fun e w' => e = .returned (.bool (hasB p i)) ∧ Rs B x ao cap R (dropP p i) w' ∧ Turn (Rrow ao) w w' := by
  have c0 := h.c0
  have H := hide' h
  by_cases h0 : 0 ≤ i
  · obtain ⟨k, rfl⟩ : ∃ k : Nat, i = (k : Int) := ⟨i.toNat, by omega⟩
    have hr : hasB p (k : Int) = p k := by simp [hasB]
    rw [hr]
    have e0 : ¬ (k : Int) < 0 := by omega
    have hsame : p k = false → dropP p (k : Int) = p := fun hp => by
      funext j; unfold dropP
      by_cases e : j = k
      · subst e; simp [hp]
      · rw [decide_eq_false (show ¬ (j : Int) = (k : Int) by omega)]; simp
    by_cases hk : k < R
    · obtain ⟨g, rfl, hb, hl, hc, hf, hgx⟩ := h.at' (by omega)
      have ck := hc k hk
      have fk := hf k
      have e1 : (k : Int) < (R : Int) := by omega
      cases hp : p k
      · rw [hsame hp]
        rw [hp] at ck
        clear hc hf h hr hp hsame
        go_enter Try.func38, Try.ntmps38
        go_wp2
        go_ret
        exact ⟨rfl, H.out, Turn.refl _ _⟩
      · rw [hp] at ck
        have hadd : ∀ j, j ≠ k → dropP p (k : Int) j = p j := fun j hj => by unfold dropP; rw [decide_eq_false (show ¬ (j : Int) = (k : Int) by omega)]; simp
        have hak : dropP p (k : Int) k = false := by unfold dropP; simp
        have Hput := hide' (H.out.put k hk hadd hgx false hak)
        clear hc hf h hr hp hadd hak hsame
        go_enter Try.func38, Try.ntmps38
        go_wp2
        go_ret
        exact ⟨rfl, Hput.out, setRow⟩
    · have hpk := h.out k (by omega)
      rw [hpk, hsame hpk]
      have e1 : ¬ (k : Int) < (R : Int) := by omega
      clear h hr hpk hsame
      go_enter Try.func38, Try.ntmps38
      go_wp2
      go_ret
      exact ⟨rfl, H.out, Turn.refl _ _⟩
  · have hr : hasB p i = false := by simp [hasB, h0]
    have hadd : dropP p i = p := by
      funext j; unfold dropP
      rw [decide_eq_false (show ¬ (j : Int) = i by omega)]; simp
    rw [hr, hadd]
    clear h hr hadd
    go_enter Try.func38, Try.ntmps38
    go_wp2
    go_ret
    exact ⟨rfl, H.out, Turn.refl _ _⟩
end Go.Proofs.Ytkipcdjadmocaaa
