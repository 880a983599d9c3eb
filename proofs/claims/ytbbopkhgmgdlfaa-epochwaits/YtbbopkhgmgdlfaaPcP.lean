import Derived.Test.YtbbopkhgmgdlfaaWinP
set_option linter.unusedVariables false
set_option linter.unusedSimpArgs false
namespace Go.Proofs.Ytbbopkhgmgdlfaa
open Go.RowKit
namespace M
/-- the words of which the first k were stored -/
def sto (n k : Nat) : List Int := (List.range n).map fun i => if i < k then 100 + (i : Int) else 0
theorem sto_len (n k : Nat) : (sto n k).length = n := by simp [sto]
theorem sto_at (n k i : Nat) (h : i < n) : (sto n k).getD i 0 = if i < k then 100 + (i : Int) else 0 := by
  simp [sto, List.getD, List.getElem?_map, List.getElem?_range h]
theorem sto_zero (n : Nat) : sto n 0 = List.replicate n 0 := by
  apply List.ext_getElem?
  intro i
  by_cases h : i < n
  · simp [sto, List.getElem?_map, List.getElem?_range h, List.getElem?_replicate, h]
  · simp [sto, h, List.getElem?_replicate]
theorem sto_step (n k : Nat) (h : k < n) : er (sto n k) k = 0 ∧ put (sto n k) k (100 + (k : Int)) = sto n (k + 1) := by
  have hg : (sto n k).getD k 0 = 0 := by rw [sto_at n k k h, if_neg (by omega)]
  obtain ⟨e1, _⟩ := er_ok (ws := sto n k) (k := k) (by rw [sto_len]; exact h) (by rw [hg]; decide)
  refine ⟨e1, ?_⟩
  rw [put_ok e1]
  apply List.ext_getElem?
  intro i
  rw [List.getElem?_set]
  by_cases hi : i < n
  · by_cases hk : k = i
    · subst hk; simp [sto, h]
    · simp only [hk, if_false]
      simp only [sto, List.getElem?_map, List.getElem?_range hi, Option.map_some, Option.some.injEq]
      by_cases q : i < k
      · rw [if_pos q, if_pos (by omega)]
      · rw [if_neg q, if_neg (by omega)]
  · have hk : ¬ k = i := by omega
    simp [sto, hi, hk]
theorem sto_val (n i : Nat) (h : i < n) : (sto n n).getD i 0 = 100 + (i : Int) := by rw [sto_at n n i h, if_pos h]
/-- all the words -/
theorem piece_all (ws : List Int) (n : Nat) (h : ws.length = n) : piece ws 0 n = ws ∧ pe ws 0 n = 0 := by
  have hw : Wi ws 0 n := by unfold Wi; omega
  refine ⟨?_, if_pos hw⟩
  unfold piece
  rw [if_pos hw]
  simp [← h]
theorem wi_in (ws : List Int) (a m : Nat) (h : a + m ≤ ws.length) : pe ws a m = 0 ∧ piece ws a m = (ws.drop a).take m ∧ ∀ c, pfill ws a m c = fil ws a c m := by
  have hw : Wi ws a m := by unfold Wi; omega
  refine ⟨if_pos hw, ?_, fun c => ?_⟩
  · unfold piece; rw [if_pos hw, Int.toNat_natCast, Int.toNat_natCast]
  · unfold pfill; rw [if_pos hw, Int.toNat_natCast, Int.toNat_natCast]
theorem wi_out (ws : List Int) (a n : Int) (h : ¬ Wi ws a n) : pe ws a n = 140 ∧ piece ws a n = [] ∧ ∀ c, pfill ws a n c = ws := ⟨if_neg h, if_neg h, fun c => if_neg h⟩
theorem piece_getD (ws : List Int) (a m j : Nat) (h : a + m ≤ ws.length) (hj : j < m) : ((ws.drop a).take m).getD j 0 = ws.getD (a + j) 0 := by
  simp [List.getD, List.getElem?_take_of_lt hj]
theorem msr2 {k n : Nat} (h : k < n) : n - (intOf (.int .i64 ((k : Int) + 1))).toNat < n - (intOf (.int .i64 (k : Int))).toNat := msr' h _ rfl
end M
end Go.Proofs.Ytbbopkhgmgdlfaa
