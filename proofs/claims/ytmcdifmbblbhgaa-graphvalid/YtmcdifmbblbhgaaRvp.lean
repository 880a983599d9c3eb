import Derived.Test.YtmcdifmbblbhgaaRv4
set_option linter.unusedVariables false
set_option linter.unusedSimpArgs false
namespace Go.Proofs.Ytmcdifmbblbhgaa
open Go.RowKit Go.Maps
namespace V
open U D
theorem pr_eq (g h : Nat → Nat) : pr g = pr h ↔ ∀ t, t < 64 → g t = h t := by
  unfold pr
  constructor
  · intro e t ht
    have q : ((List.range 64).map g)[t]? = ((List.range 64).map h)[t]? := by rw [e]
    simpa [List.getElem?_map, List.getElem?_range ht] using q
  · intro e
    apply List.map_congr_left
    intro t ht
    exact e t (List.mem_range.1 ht)
theorem unl_iff (g : Nat → Nat) (n : Nat) : unl g n = true ↔ ∀ a b, a < b → b < n → ¬ ∀ t, t < 64 → g (a * 64 + t) = g (b * 64 + t) := by
  have hl : (pfs g n).length = n := by simp [pfs]
  have e1 : unl g n = true ↔ (pfs g n).Nodup := by
    unfold unl
    rw [beq_iff_eq, ← dst_eq, hl]
  have hat : ∀ i (h : i < (pfs g n).length), (pfs g n)[i] = pf g i := fun i h => by simp [pfs]
  rw [e1]
  unfold List.Nodup
  rw [List.pairwise_iff_getElem]
  constructor
  · intro q a b hab hb
    have := q a b (by omega) (by omega) hab
    rw [hat, hat] at this
    unfold pf at this
    rw [Ne, pr_eq] at this
    exact this
  · intro q a b ha hb hab
    rw [hat, hat]
    unfold pf
    rw [Ne, pr_eq]
    exact q a b hab (by omega)
def rowL (ms : List Mr) (a : Nat) : List Nat := (ms.getD a mr0).l
theorem sq_row (ms : List Mr) (a t : Nat) (ht : t < 64) : sq ms (a * 64 + t) = (rowL ms a).getD t 0 := by
  unfold sq rowL
  rw [show (a * 64 + t) / 64 = a by omega, show (a * 64 + t) % 64 = t by omega]
theorem rowL_len {ms : List Mr} {C a : Nat} (h : ∀ r ∈ ms, r.l.length = C) (ha : a < ms.length) : (rowL ms a).length = C := by
  unfold rowL
  have : ms.getD a mr0 = ms[a] := by simp [List.getD, List.getElem?_eq_getElem ha]
  rw [this]
  exact h _ (List.getElem_mem ha)
theorem rows_eq {ms : List Mr} {C a b : Nat} (h : ∀ r ∈ ms, r.l.length = C) (hC : C ≤ 64) (ha : a < ms.length) (hb : b < ms.length) : (∀ t, t < 64 → sq ms (a * 64 + t) = sq ms (b * 64 + t)) ↔ rowL ms b = rowL ms a := by
  have la := rowL_len h ha
  have lb := rowL_len h hb
  constructor
  · intro q
    apply List.ext_getElem?
    intro t
    by_cases ht : t < C
    · have e := q t (by omega)
      rw [sq_row _ _ _ (by omega), sq_row _ _ _ (by omega)] at e
      rw [List.getElem?_eq_getElem (by omega), List.getElem?_eq_getElem (by omega)]
      simp [List.getD, List.getElem?_eq_getElem (show t < (rowL ms a).length by omega), List.getElem?_eq_getElem (show t < (rowL ms b).length by omega)] at e
      rw [e]
    · rw [List.getElem?_eq_none (by omega), List.getElem?_eq_none (by omega)]
  · intro e t ht
    rw [sq_row _ _ _ ht, sq_row _ _ _ ht, e]
theorem unl_row_yes {ms : List Mr} {C : Nat} (h : ∀ r ∈ ms, r.l.length = C) (hC : C ≤ 64) (q : ∀ b, b < ms.length → ∀ a, a < b → rowL ms b ≠ rowL ms a) : unl (sq ms) ms.length = true := by
  rw [unl_iff]
  intro a b hab hb r
  exact q b hb a hab ((rows_eq h hC (by omega) hb).1 r)
theorem unl_row_no {ms : List Mr} {C a b : Nat} (h : ∀ r ∈ ms, r.l.length = C) (hC : C ≤ 64) (hab : a < b) (hb : b < ms.length) (e : rowL ms b = rowL ms a) : unl (sq ms) ms.length = false := by
  rw [Bool.eq_false_iff, Ne, unl_iff]
  intro q
  exact q a b hab hb ((rows_eq h hC (by omega) hb).2 e)
theorem turn_col (ms : List Mr) (y t : Nat) (hy : y < 64) (ht : t < 64) : sq ms ((y * 64 + t) % 64 * 64 + (y * 64 + t) / 64) = (rowL ms t).getD y 0 := by
  rw [show (y * 64 + t) % 64 = t by omega, show (y * 64 + t) / 64 = y by omega, sq_row _ _ _ hy]
theorem col_at (ms : List Mr) (y t : Nat) (ht : t < ms.length) : (col ms y)[t]? = some ((rowL ms t).getD y 0) := by
  unfold col rowL
  rw [List.getElem?_map, List.getElem?_eq_getElem ht]
  simp [List.getD, List.getElem?_eq_getElem ht]
theorem row_out (ms : List Mr) (t y : Nat) (ht : ¬ t < ms.length) : (rowL ms t).getD y 0 = 0 := by
  unfold rowL
  have : ms.getD t mr0 = mr0 := by simp [List.getD, List.getElem?_eq_none (show ms.length ≤ t by omega)]
  rw [this]
  rfl
theorem cols_eq {ms : List Mr} {a b : Nat} (ha : a < 64) (hb : b < 64) (hR : ms.length ≤ 64) : (∀ t, t < 64 → sq ms ((a * 64 + t) % 64 * 64 + (a * 64 + t) / 64) = sq ms ((b * 64 + t) % 64 * 64 + (b * 64 + t) / 64)) ↔ col ms b = col ms a := by
  have la : (col ms a).length = ms.length := by simp [col]
  have lb : (col ms b).length = ms.length := by simp [col]
  constructor
  · intro q
    apply List.ext_getElem?
    intro t
    by_cases ht : t < ms.length
    · have e := q t (by omega)
      rw [turn_col _ _ _ ha (by omega), turn_col _ _ _ hb (by omega)] at e
      rw [col_at _ _ _ ht, col_at _ _ _ ht, e]
    · rw [List.getElem?_eq_none (by omega), List.getElem?_eq_none (by omega)]
  · intro e t ht
    rw [turn_col _ _ _ ha ht, turn_col _ _ _ hb ht]
    by_cases h : t < ms.length
    · have q : (col ms b)[t]? = (col ms a)[t]? := by rw [e]
      rw [col_at _ _ _ h, col_at _ _ _ h] at q
      exact (Option.some.inj q).symm
    · rw [row_out _ _ _ h, row_out _ _ _ h]
theorem unl_col_yes {ms : List Mr} {C : Nat} (hC : C ≤ 64) (hR : ms.length ≤ 64) (q : ∀ b, b < C → ∀ a, a < b → col ms b ≠ col ms a) : unl (fun k => sq ms (k % 64 * 64 + k / 64)) C = true := by
  rw [unl_iff]
  intro a b hab hb r
  exact q b hb a hab ((cols_eq (by omega) (by omega) hR).1 r)
theorem unl_col_no {ms : List Mr} {C a b : Nat} (hC : C ≤ 64) (hR : ms.length ≤ 64) (hab : a < b) (hb : b < C) (e : col ms b = col ms a) : unl (fun k => sq ms (k % 64 * 64 + k / 64)) C = false := by
  rw [Bool.eq_false_iff, Ne, unl_iff]
  intro q
  exact q a b hab hb ((cols_eq (by omega) (by omega) hR).2 e)
theorem shp_lens {k R C : Nat} {ms : List Mr} (h : shp k R C ms = true) : ms.length = R ∧ ∀ r ∈ ms, r.l.length = C := by
  unfold shp at h
  rw [Bool.and_eq_true, beq_iff_eq, List.all_eq_true] at h
  refine ⟨h.1, fun r hr => ?_⟩
  have := h.2 r hr
  unfold rowOk at this
  rw [Bool.and_eq_true, beq_iff_eq] at this
  exact this.1
theorem msk_shp (k R C : Nat) (ms : List Mr) : msk k R C ms = (shp k R C ms && (unl (sq ms) R && unl (fun k => sq ms (k % 64 * 64 + k / 64)) C)) := by
  unfold msk shp
  rw [Bool.and_assoc]
end V
end Go.Proofs.Ytmcdifmbblbhgaa
