import Derived.Test.YtfeehnfpfheojaaHpP
import Derived.Test.YtfeehnfpfheojaaNote
set_option linter.unusedVariables false
set_option linter.unusedSimpArgs false
namespace Go.Proofs.Ytfeehnfpfheojaa
open Go.RowKit
namespace Hp
variable {β : Type} {f : β → List Value} {m : Nat}
theorem flat_len (hf : ∀ z, (f z).length = m) (zs : List β) : (zs.flatMap f).length = zs.length * m := by
  induction zs with
  | nil => simp
  | cons a r ih => simp only [List.flatMap_cons, List.length_append, List.length_cons, hf, ih, Nat.add_mul]; omega
theorem flat_at (hf : ∀ z, (f z).length = m) : ∀ (zs : List β) (i : Nat) (z : β) (r : Nat), zs[i]? = some z → r < m → (zs.flatMap f)[i * m + r]? = (f z)[r]? := by
  intro zs
  induction zs with
  | nil => intro i z r h; simp at h
  | cons a l ih =>
    intro i z r h hr
    rw [List.flatMap_cons]
    cases i with
    | zero =>
      simp at h
      subst h
      rw [Nat.zero_mul, Nat.zero_add, List.getElem?_append_left (by rw [hf]; exact hr)]
    | succ i =>
      rw [List.getElem?_cons_succ] at h
      rw [List.getElem?_append_right (by rw [hf, Nat.add_mul]; omega), hf, show (i + 1) * m + r - m = i * m + r by rw [Nat.add_mul]; omega]
      exact ih i z r h hr
/-- a row of values written over -/
def putL (xs : List Value) : Nat → List Value → List Value
  | _, [] => xs
  | k, v :: r => putL (xs.set k v) (k + 1) r
theorem putL_mid : ∀ (vs us pre rest : List Value), us.length = vs.length → putL (pre ++ (us ++ rest)) pre.length vs = pre ++ (vs ++ rest) := by
  intro vs
  induction vs with
  | nil => intro us pre rest h; simp at h; subst h; rfl
  | cons v r ih =>
    intro us pre rest h
    cases us with
    | nil => simp at h
    | cons u l =>
      show putL ((pre ++ (u :: l ++ rest)).set pre.length v) (pre.length + 1) r = _
      rw [show (pre ++ (u :: l ++ rest)).set pre.length v = (pre ++ [v]) ++ (l ++ rest) by simp]
      have := ih l (pre ++ [v]) rest (by simpa using h)
      rw [show (pre ++ [v]).length = pre.length + 1 by simp] at this
      rw [this]
      simp
theorem flat_put (hf : ∀ z, (f z).length = m) (zs : List β) (i : Nat) (z' : β) (h : i < zs.length) : putL (zs.flatMap f) (i * m) (f z') = (zs.set i z').flatMap f := by
  have e1 : zs = zs.take i ++ (zs[i] :: zs.drop (i + 1)) := by rw [List.getElem_cons_drop, List.take_append_drop]
  have e2 : zs.set i z' = zs.take i ++ (z' :: zs.drop (i + 1)) := by
    rw [List.set_eq_take_append_cons_drop, if_pos h]
  rw [e2]
  have := putL_mid (f z') (f zs[i]) ((zs.take i).flatMap f) ((zs.drop (i + 1)).flatMap f) (by rw [hf, hf])
  rw [flat_len hf, List.length_take, Nat.min_eq_left (by omega)] at this
  rw [List.flatMap_append, List.flatMap_cons, ← this]
  congr 1
  conv => lhs; rw [e1]
  rw [List.flatMap_append, List.flatMap_cons]
/-- cells of a block written over -/
def stc (w : World) (g : Nat) : Nat → List Value → World
  | _, [] => w
  | k, v :: r => stc (w.setCell ⟨g, k, none⟩ v) g (k + 1) r
theorem stc_row {B e size n cap g : Nat} : ∀ (vs xs : List Value) (k : Nat) (w : World), w.ownsRow B e size (.slice (some ⟨g, 0, none⟩) n cap) n xs → (stc w g k vs).ownsRow B e size (.slice (some ⟨g, 0, none⟩) n cap) n (putL xs k vs) ∧ Turn (fun j => j = g) w (stc w g k vs) := by
  intro vs
  induction vs with
  | nil => intro xs k w h; exact ⟨h, Turn.refl _ _⟩
  | cons v r ih =>
    intro xs k w h
    obtain ⟨h1, h2⟩ := ih _ (k + 1) _ (h.stored k v).1
    exact ⟨h1, ((Turn.refl (fun j => j = g) w).setCell (p := ⟨g, k, none⟩) (fun _ => rfl) v).trans h2⟩
theorem stc_heap {g h : Nat} (vs : List Value) : ∀ (k : Nat) (w : World), h ≠ g → (stc w g k vs).heap[h]? = w.heap[h]? := by
  induction vs with
  | nil => intro k w _; rfl
  | cons v r ih => intro k w hne; exact (ih (k + 1) _ hne).trans (Below.heap_setCell _ _ _ _ hne)
/-- a row cut short -/
theorem own_cut {B e size n cap g k : Nat} {xs : List Value} {w : World} (h : w.ownsRow B e size (.slice (some ⟨g, 0, none⟩) n cap) n xs) (hk : k ≤ n) : w.ownsRow B e size (.slice (some ⟨g, 0, none⟩) k cap) k (xs.take (k * size)) := by
  have hm : k * size ≤ n * size := Nat.mul_le_mul_right _ hk
  obtain ⟨h1, h2⟩ := h
  refine ⟨by rw [List.length_take]; omega, ?_⟩
  rcases h2 with ⟨hv, _⟩ | ⟨g', cap', cur, hv, hb, hg, hnc, hcm, hcs, htake⟩
  · cases hv
  · simp only [Value.slice.injEq] at hv
    obtain ⟨hv1, _, rfl⟩ := hv
    refine .inr ⟨g', cap, cur, by rw [hv1], hb, hg, by omega, hcm, hcs, ?_⟩
    rw [← htake, List.take_take, Nat.min_eq_left hm]
theorem flat_take (hf : ∀ z, (f z).length = m) (zs : List β) (k : Nat) (hk : k ≤ zs.length) : (zs.flatMap f).take (k * m) = (zs.take k).flatMap f := by
  conv => lhs; rw [← List.take_append_drop k zs, List.flatMap_append]
  rw [List.take_append_of_le_length (by rw [flat_len hf, List.length_take, Nat.min_eq_left hk]; exact Nat.le_refl _)]
  rw [List.take_of_length_le (by rw [flat_len hf, List.length_take, Nat.min_eq_left hk]; exact Nat.le_refl _)]
end Hp
end Go.Proofs.Ytfeehnfpfheojaa
