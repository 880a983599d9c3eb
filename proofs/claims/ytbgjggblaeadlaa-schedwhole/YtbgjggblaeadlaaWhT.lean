import Derived.Test.YtbgjggblaeadlaaWgP
import Derived.Laws.ResultCell
set_option linter.unusedVariables false
set_option linter.unusedSimpArgs false
namespace Go.Proofs.Ytbgjggblaeadlaa
open Go.RowKit
attribute [local go_sem] Oper.semAt_some
namespace X
open C F A
theorem turn_b (b off : Nat) (v : Value) (w : World) : Turn (fun j => j = b) w (w.setCell ⟨b, off, none⟩ v) := (Turn.refl (fun k => k = b) w).setCell (p := ⟨b, off, none⟩) (fun _ => rfl) _
/-- the boxes of the picks and of the answer -/
structure Sq (w : World) (x3 x4 : Nat) (pv : Value) (X : World) : Prop where
  bel : Below w.heap.size w X
  h3 : X.heap[x3]? = some (.cells #[pv] 23 (0, 0))
  h4 : X.heap[x4]? = some (.cells #[.bool false] 4 (0, 0))
  l3 : w.heap.size ≤ x3
  l4 : w.heap.size ≤ x4
variable {w X X' : World} {x3 x4 : Nat} {pv : Value}
theorem Sq.kept {S : Nat → Prop} (h : Sq w x3 x4 pv X) (t : Turn S X X') (n3 : ¬ S x3) (n4 : ¬ S x4) (hS : ∀ j, S j → w.heap.size ≤ j) : Sq w x3 x4 pv X' :=
  ⟨h.bel.trans (t.below hS h.bel.size), (t.block x3 (lt_of_heap h.h3) n3).trans h.h3, (t.block x4 (lt_of_heap h.h4) n4).trans h.h4, h.l3, h.l4⟩
theorem Sq.below (h : Sq w x3 x4 pv X) (b : Below X.heap.size X X') : Sq w x3 x4 pv X' := h.kept (turn_below (S := fun _ => False) b) id id (fun j q => q.elim)
/-- and the number of lists -/
structure Sm (w : World) (x3 x4 x7 : Nat) (pv : Value) (M : Nat) (X : World) : Prop where
  sq : Sq w x3 x4 pv X
  h7 : X.heap[x7]? = some (.cells #[.int .i64 (M : Int)] 3 (0, 0))
  l7 : w.heap.size ≤ x7
variable {x7 M : Nat}
theorem Sm.below (h : Sm w x3 x4 x7 pv M X) (b : Below X.heap.size X X') : Sm w x3 x4 x7 pv M X' := ⟨h.sq.below b, (b.block x7 (lt_of_heap h.h7)).trans h.h7, h.l7⟩
theorem Sm.put (h : Sm w x3 x4 x7 pv M X) (N : Nat) : Sm w x3 x4 x7 pv N (X.setCell ⟨x7, 0, none⟩ (.int .i64 (N : Int))) :=
  ⟨h.sq.kept (turn_b x7 0 _ X) (fun e => cells_ne h.sq.h3 h.h7 (by decide) e) (fun e => cells_ne h.sq.h4 h.h7 (by decide) e) (fun j e => by rw [e]; exact h.l7), set_block h.h7, h.l7⟩
theorem Sm.c (h : Sm w x3 x4 x7 pv M X) : X.cell? ⟨x3, 0, none⟩ = some pv ∧ X.cell? ⟨x4, 0, none⟩ = some (.bool false) ∧ X.cell? ⟨x7, 0, none⟩ = some (.int .i64 (M : Int)) ∧ X.frozen? ⟨x4, 0, none⟩ = false ∧ X.frozen? ⟨x7, 0, none⟩ = false :=
  ⟨Lib.cell_of_heap h.sq.h3 0, Lib.cell_of_heap h.sq.h4 0, Lib.cell_of_heap h.h7 0, Lib.frozen_of_heap h.sq.h4 0, Lib.frozen_of_heap h.h7 0⟩
/-- the answer is laid -/
theorem Sq.ans (h : Sq w x3 x4 pv X) (b : Bool) : (X.setCell ⟨x4, 0, none⟩ (.bool b)).heap[x4]? = some (.cells #[.bool b] 4 (0, 0)) ∧ Below w.heap.size w (X.setCell ⟨x4, 0, none⟩ (.bool b)) :=
  ⟨set_block h.h4, h.bel.trans ((turn_b x4 0 _ X).below (fun j e => by rw [e]; exact h.l4) h.bel.size)⟩
theorem fa8 : ∀ n, n ≤ 8 → fa n ≤ 40320 := by decide
theorem mn_le {zs : List Int} {k : Nat} (hk : k ≤ zs.length) (h : sm (zs.take k) ≤ 8) : mn zs k ≤ 40320 := by
  have q := mn_pf zs k hk h
  have p := pf_pos (fz zs k)
  have := fa8 _ h
  have : mn zs k ≤ mn zs k * pf (fz zs k) := Nat.le_mul_of_pos_right _ p
  omega
/-- the product of one round -/
theorem mn_more {zs : List Int} {k : Nat} (hk : k < zs.length) {u : Int} (hu : u = zs.getD k 0) (h0 : 0 < u) (h : sm (zs.take k) + u.toNat ≤ 8) : mn zs k * bn (sm (zs.take k)) u.toNat = mn zs (k + 1) ∧ mn zs (k + 1) ≤ 40320 ∧ sm (zs.take (k + 1)) = sm (zs.take k) + u.toNat := by
  have e : (max (zs.getD k 0) 0).toNat = u.toNat := by rw [← hu]; omega
  have e2 := sm_take hk
  rw [e] at e2
  refine ⟨?_, mn_le (by omega) (by omega), e2⟩
  show _ = mn zs k * bn (sm (zs.take k)) (max (zs.getD k 0) 0).toNat
  rw [e]
theorem mn_none {zs : List Int} {k : Nat} (hk : k < zs.length) {u : Int} (hu : u = zs.getD k 0) (h0 : ¬ 0 < u) : mn zs (k + 1) = mn zs k ∧ sm (zs.take (k + 1)) = sm (zs.take k) := by
  have e : (max (zs.getD k 0) 0).toNat = 0 := by rw [← hu]; omega
  refine ⟨?_, by rw [sm_take hk, e]; rfl⟩
  show mn zs k * bn (sm (zs.take k)) (max (zs.getD k 0) 0).toNat = _
  rw [e]
  exact Nat.mul_one _
theorem wmul {a b : Nat} (h : a * b ≤ 40320) : wrap64 ((a : Int) * (b : Int)) = ((a * b : Nat) : Int) := by
  have e : (a : Int) * (b : Int) = ((a * b : Nat) : Int) := by simp
  rw [e]
  generalize a * b = c at *
  unfold wrap64
  omega
theorem wadu {a : Nat} {u : Int} (h : a ≤ 8) (h0 : 0 < u) (h1 : u ≤ 8) : wrap64 ((a : Int) + u) = ((a + u.toNat : Nat) : Int) := by unfold wrap64; omega
end X
end Go.Proofs.Ytbgjggblaeadlaa
