import Derived.Test.YtbgjggblaeadlaaMuP
import Derived.Test.YtbgjggblaeadlaaBlW
set_option linter.unusedVariables false
namespace Go.Proofs.Ytbgjggblaeadlaa
open Go.RowKit
namespace X
open C F A
/-- the next list, as a cut: behind x all falls, y is the last above x -/
def Np (l l' : List Int) : Prop := ∃ (A E F : List Int) (x y : Int), x < y ∧ (E ++ y :: F).Pairwise (· ≥ ·) ∧ (∀ v ∈ F, v ≤ x) ∧ l = A ++ x :: (E ++ y :: F) ∧ l' = A ++ y :: (E ++ x :: F).reverse
theorem Np.nx {l l' : List Int} (h : Np l l') : Nx l l' := by
  obtain ⟨A, E, F, x, y, h1, h2, h3, rfl, rfl⟩ := h
  exact nx_mk h1 h2 h3
theorem Np.cons {l l' : List Int} (i : Int) (h : Np l l') : Np (i :: l) (i :: l') := by
  obtain ⟨A, E, F, x, y, h1, h2, h3, rfl, rfl⟩ := h
  exact ⟨i :: A, E, F, x, y, h1, h2, h3, rfl, rfl⟩
theorem Np.perm {l l' : List Int} (h : Np l l') : l'.Perm l := by
  obtain ⟨A, E, F, x, y, h1, h2, h3, rfl, rfl⟩ := h
  refine List.Perm.append_left A ?_
  refine (List.Perm.cons y (List.reverse_perm _)).trans ?_
  refine (List.Perm.cons y List.perm_middle).trans ?_
  refine (List.Perm.swap x y _).trans ?_
  exact List.Perm.cons x List.perm_middle.symm
/-- so many steps from one list to another -/
inductive Pt : Nat → List Int → List Int → Prop
  | zero (l : List Int) : Pt 0 l l
  | succ {k : Nat} {a b c : List Int} : Pt k a b → Np b c → Pt (k + 1) a c
theorem Pt.trans {k m : Nat} {a b c : List Int} (h : Pt k a b) (h' : Pt m b c) : Pt (k + m) a c := by
  induction h' with
  | zero _ => exact h
  | succ _ hn ih => exact .succ (ih h) hn
theorem Pt.cons {k : Nat} {a b : List Int} (i : Int) (h : Pt k a b) : Pt k (i :: a) (i :: b) := by
  induction h with
  | zero _ => exact .zero _
  | succ _ hn ih => exact .succ ih (hn.cons i)
theorem Pt.perm {k : Nat} {a b : List Int} (h : Pt k a b) : b.Perm a := by
  induction h with
  | zero _ => exact List.Perm.refl _
  | succ _ hn ih => exact hn.perm.trans ih
theorem Pt.chn {zs : List Int} {k : Nat} {a b : List Int} (h : Pt k a b) (ha : a = fz zs zs.length) : Chn zs k b := by
  induction h with
  | zero _ => rw [ha]; exact .zero
  | succ _ hn ih => exact .succ (ih ha) hn.nx
/-- from the rising list to the falling one: the iterator tells one list more than there are steps -/
theorem Pt.fin {zs : List Int} {k : Nat} {b : List Int} (h : Pt k (fz zs zs.length) b) (hb : b.Pairwise (· ≥ ·)) : Fin zs (k + 1) := ⟨k, b, rfl, h.chn rfl, falls_all hb⟩
/-- the step from the last list that begins with x to the first that begins with y -/
theorem np_head {x y : Int} {E F : List Int} (h1 : x < y) (h2 : (E ++ y :: F).Pairwise (· ≥ ·)) (h3 : ∀ v ∈ F, v ≤ x) : Np (x :: (E ++ y :: F)) (y :: (E ++ x :: F).reverse) := ⟨[], E, F, x, y, h1, h2, h3, rfl, rfl⟩
def fa : Nat → Nat
  | 0 => 1
  | n + 1 => (n + 1) * fa n
theorem bn_fa : ∀ d, d ≤ 8 → ∀ k, k ≤ 8 - d → bn d k * (fa k * fa d) = fa (d + k) := by decide
end X
end Go.Proofs.Ytbgjggblaeadlaa
