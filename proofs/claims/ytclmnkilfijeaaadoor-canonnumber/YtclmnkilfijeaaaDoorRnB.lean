import Derived.Test.YtclmnkilfijeaaaDoorRnA
set_option linter.unusedVariables false
set_option linter.unusedSimpArgs false
namespace Go.Proofs.YtclmnkilfijeaaaDoor
open Go.RowKit
theorem nearest_le (mag : Nat) (place : Int) : Ieee.double.nearest false mag place ≤ 9218868437227405312 := by
  unfold Ieee.Format.nearest
  split
  · decide
  · simp only [Ieee.Format.word, Bool.false_eq_true, if_false]
    exact Nat.le_trans (Nat.min_le_right _ _) (by rw [Fp.d_inf]; exact Nat.le_refl _)
theorem not_below {q : Nat} (h : q ≤ 9218868437227405312) : Ieee.double.order q 0 ≠ some .lt := by
  by_cases hq : q = 9218868437227405312
  · rw [hq]; decide
  · rw [Fp.order_rung (by omega) (by omega)]
    intro e
    have := Nat.compare_eq_lt.1 (Option.some.inj e)
    omega
theorem read_one : Ieee.double.read 4607182418800017408 = .number false 4503599627370496 (-52) := by decide
theorem div_one {r : Nat} (h0 : 0 < r) (h1 : r < 9218868437227405312) : ∃ q, Ieee.double.div 4607182418800017408 r = some q ∧ q ≤ 9218868437227405312 := by
  obtain ⟨m, e, hr, hv⟩ := Fp.read_rung h1
  have hm : m ≠ 0 := by
    intro q
    rw [q, Nat.zero_mul] at hv
    have := Fp.V_mono h0
    omega
  unfold Ieee.Format.div
  rw [read_one, hr]
  unfold Ieee.Datum.quotient
  simp only
  rw [if_neg hm]
  simp only [Option.map_some]
  exact ⟨_, rfl, nearest_le _ _⟩
/-- the product with a power of ten, as a whole number -/
theorem mul_any (r q : Nat) (h0 : 0 < r) (h1 : r < Fp.one) (hq0 : 0 < q) (hq : q < 1073741824) :
    ∃ r2 N : Nat, Ieee.double.mul r (FloatKind.f64.nearest (q : Int)) = some r2 ∧ (Ieee.double.read r2).toInt .zero = some (N : Int) ∧ N ≤ 1073741825 ∧ (104 * 4503599627370496 + 4503599627370496 ≤ r → ∀ n, Fp.Near r n q → N ≤ n + 1 ∧ n ≤ N + 1) := by
  unfold Fp.one at h1
  by_cases hb : 104 * 4503599627370496 + 4503599627370496 ≤ r
  · obtain ⟨L, c, rfl, c1, c2⟩ : ∃ L c, r = L * 4503599627370496 + c ∧ 4503599627370496 ≤ c ∧ c < 9007199254740992 := ⟨r / 4503599627370496 - 1, 4503599627370496 + r % 4503599627370496, by omega, by omega, by omega⟩
    obtain ⟨r2, N, a1, a2, a3, a4⟩ := Fp.mul_whole (L := L) c1 c2 (by omega) (by omega) hq0 hq
    exact ⟨r2, N, a1, a2, a3, fun _ => a4⟩
  · obtain ⟨b, hb2, b1, b2, _, rb⟩ := Fp.read_nat hq0 (by omega : q < 9007199254740992)
    obtain ⟨m, e, hr, hm0, hm, he⟩ : ∃ m e : Nat, Ieee.double.read r = .number false m ((e : Int) - 1074) ∧ m ≠ 0 ∧ m < 9007199254740992 ∧ e ≤ 104 := by
      by_cases hl : r < 4503599627370496
      · exact ⟨r, 0, by rw [Fp.read_low hl]; rfl, by omega, by omega, by omega⟩
      · obtain ⟨L, c, rfl, c1, c2⟩ : ∃ L c, r = L * 4503599627370496 + c ∧ 4503599627370496 ≤ c ∧ c < 9007199254740992 := ⟨r / 4503599627370496 - 1, 4503599627370496 + r % 4503599627370496, by omega, by omega, by omega⟩
        exact ⟨c, L, Fp.read_mk c1 c2 (by omega), by omega, c2, by omega⟩
    have hB0 : m * (q * 2 ^ b) ≠ 0 := Nat.mul_ne_zero hm0 (by omega)
    have hlog : (m * (q * 2 ^ b)).log2 < 106 := by
      rw [Nat.log2_lt hB0]
      exact Nat.lt_of_lt_of_le (Nat.mul_lt_mul'' hm b2) (by decide)
    obtain ⟨r2, h2, h3⟩ := Fp.mul_low (M := m * (q * 2 ^ b)) (place := (e : Int) - 1074 + -(b : Int)) hB0 (by omega)
    obtain ⟨N, n1, n2⟩ := Fp.toInt_one h3
    refine ⟨r2, N, ?_, n1, by omega, fun q => absurd q hb⟩
    unfold Ieee.Format.mul
    rw [hr, rb]
    unfold Ieee.Datum.product
    simp only [Option.map_some]
    rw [← h2]
    rfl
/-- none with fewer digits, one with k: it has no nought at its end -/
theorem means_first {r k n : Nat} (h0 : 0 < r) (h1 : r < Fp.one) (hk : k ≤ 9) (hn : Fp.Near r n (10 ^ k)) (hno : ∀ j m, j < k → ¬ Fp.Means r j m) : Fp.Means r k n := by
  obtain ⟨t, ht, _, h3, h4⟩ := Fp.st_is k n
  have e : k = k - t + t := by omega
  have hn' := hn
  rw [h3, e, Nat.pow_add, Fp.near_scale (Nat.pow_pos (by omega))] at hn'
  have hpos := Fp.near_pos h0 (Nat.pow_pos (by omega)) hn'
  have hlt := Fp.near_below h1 (Nat.pow_pos (by omega)) hn'
  have hk1 : 1 ≤ k - t := by
    rcases Nat.eq_zero_or_pos (k - t) with z | z
    · rw [z, Nat.pow_zero] at hlt
      exact absurd (Nat.lt_of_lt_of_le hpos (Nat.le_of_lt_succ hlt)) (Nat.lt_irrefl _)
    · exact z
  have h10 : n / 10 ^ t % 10 ≠ 0 := by
    rcases h4 with q | q
    · omega
    · exact q
  have hm : Fp.Means r (k - t) (n / 10 ^ t) := ⟨hk1, by omega, hpos, hlt, h10, hn'⟩
  rcases Nat.eq_zero_or_pos t with z | z
  · subst z
    simpa using hm
  · exact absurd hm (hno _ _ (by omega))
/-- the test: the float of n over 10^k is x -/
theorem div_test {r n k : Nat} (h0 : 0 < r) (h1 : r < Fp.one) (hk : k ≤ 9) (hn0 : 0 < n) (hn : n < 10 ^ k) :
    ∃ x, Ieee.double.div (FloatKind.f64.nearest (n : Int)) (FloatKind.f64.nearest ((10 ^ k : Nat) : Int)) = some x ∧ ((Ieee.double.order x r == some .eq) = true ↔ Fp.Near r n (10 ^ k)) := by
  have hp : 10 ^ k ≤ 10 ^ 9 := Nat.pow_le_pow_right (by omega) hk
  have e9 : (10 : Nat) ^ 9 = 1000000000 := by decide
  obtain ⟨x, hx, hxn⟩ := Fp.div_near hn0 (by omega) (Nat.pow_pos (by omega)) (show 10 ^ k < 9007199254740992 by omega)
  refine ⟨x, hx, ?_⟩
  have hx1 : x < Fp.one + 1 := by
    rcases Nat.lt_or_ge x (Fp.one + 1) with q | q
    · exact q
    · exfalso
      have a1 := hxn.1
      have a2 : Fp.V Fp.one ≤ Fp.V (x - 1) := Fp.V_le (by omega)
      have a3 : Fp.V Fp.one < Fp.V x := Fp.V_mono (by omega)
      obtain ⟨e, he⟩ : ∃ e, e = 1074 := ⟨_, rfl⟩
      rw [Fp.V_one he] at a2 a3
      have hu : Fp.unit = 2 * 2 ^ e := Fp.unit_two (by omega)
      have b1 : Fp.unit * 10 ^ k ≤ (Fp.V (x - 1) + Fp.V x) * 10 ^ k := Nat.mul_le_mul_right _ (by rw [hu]; omega)
      have b2 : n * Fp.unit < 10 ^ k * Fp.unit := Nat.mul_lt_mul_of_pos_right hn (by rw [hu]; exact Nat.mul_pos (by omega) (Nat.two_pow_pos _))
      rw [Nat.mul_comm (10 ^ k)] at b2
      omega
  have hone : Fp.one = 4607182418800017408 := rfl
  rw [Fp.order_rung (by omega) (by omega), beq_iff_eq, Option.some.injEq, Nat.compare_eq_eq]
  constructor
  · intro q; rw [← q]; exact hxn
  · intro q; exact Fp.near_one hxn q (Nat.pow_pos (by omega))
end Go.Proofs.YtclmnkilfijeaaaDoor
