import Derived.Test.YtclmnkilfijeaaaDoorRnD
set_option linter.unusedVariables false
set_option linter.unusedSimpArgs false
namespace Go.Proofs.YtclmnkilfijeaaaDoor
open Go.RowKit
theorem near_lt_one {r m q : Nat} (h : Fp.Near r m q) (hm : m < q) (hq : q ≤ 1000000000) : r < Fp.one := by
  rcases Nat.lt_or_ge r Fp.one with c | c
  · exact c
  · exfalso
    have a1 := h.1
    have a2 : Fp.V (Fp.one - 1) ≤ Fp.V (r - 1) := Fp.V_le (by omega)
    have a3 : Fp.V Fp.one ≤ Fp.V r := Fp.V_le c
    obtain ⟨e, he⟩ : ∃ e, e = 1021 := ⟨_, rfl⟩
    have v1 : Fp.V (Fp.one - 1) = 9007199254740991 * 2 ^ e := by
      rw [he]
      exact Fp.V_mk 1021 9007199254740991 (by omega) (by omega)
    have v2 : Fp.V Fp.one = 9007199254740992 * 2 ^ e := by
      rw [Fp.V_one (e := 53 + e) (by omega), Nat.pow_add]
    have hu : Fp.unit = 18014398509481984 * 2 ^ e := by rw [Fp.unit_split (x := 54) (y := e) (by omega)]
    have hp : 0 < 2 ^ e := Nat.two_pow_pos _
    have b1 : 18014398509481983 * 2 ^ e * q ≤ (Fp.V (r - 1) + Fp.V r) * q := Nat.mul_le_mul_right _ (by rw [v1] at a2; rw [v2] at a3; generalize 2 ^ e = z at *; omega)
    have b2 : 18014398509481983 * 2 ^ e * q ≤ m * (18014398509481984 * 2 ^ e) := by rw [← hu]; omega
    have b3 : (18014398509481983 * q) * 2 ^ e ≤ (m * 18014398509481984) * 2 ^ e := by
      have e1 : (18014398509481983 * q) * 2 ^ e = 18014398509481983 * 2 ^ e * q := by ac_rfl
      have e2 : (m * 18014398509481984) * 2 ^ e = m * (18014398509481984 * 2 ^ e) := by ac_rfl
      rw [e1, e2]; exact b2
    have b4 := Nat.le_of_mul_le_mul_right b3 hp
    omega
theorem near_gt_zero {r m q : Nat} (h : Fp.Near r m q) (hm : 0 < m) (hq : q ≤ 1000000000) : 0 < r := by
  rcases Nat.eq_zero_or_pos r with c | c
  · exfalso
    subst c
    have a := h.2.1
    have v0 : Fp.V 0 = 0 := by unfold Fp.V; rw [if_pos (by omega)]
    have v1 : Fp.V (0 + 1) = 1 := by unfold Fp.V; rw [if_pos (by omega)]
    rw [v0, v1] at a
    obtain ⟨e, he⟩ : ∃ e, e = 1015 := ⟨_, rfl⟩
    have hu : Fp.unit = 2 ^ 60 * 2 ^ e := Fp.unit_split (by omega)
    have hp : 0 < 2 ^ e := Nat.two_pow_pos _
    have b : Fp.unit ≤ m * Fp.unit := Nat.le_mul_of_pos_left _ hm
    have e60 : (2 : Nat) ^ 60 = 1152921504606846976 := by decide
    have c : 2 ^ 60 * 1 ≤ Fp.unit := by rw [hu]; exact Nat.mul_le_mul_left _ hp
    omega
  · exact c
/-- a decimal of at most nine digits: what Number tells of its float -/
theorem decimal_num {r m D : Nat} (h : Fp.Near r m (10 ^ D)) (hm : 0 < m) (hmD : m < 10 ^ D) (hD : D ≤ 9) : ∃ k n t, D = k + t ∧ m = n * 10 ^ t ∧ 1 ≤ k ∧ n < 10 ^ k ∧ n % 10 ≠ 0 ∧ NumIs r ⟨([48, 46] ++ Fp.dg k n).toArray⟩ true := by
  have hp : 10 ^ D ≤ 10 ^ 9 := Nat.pow_le_pow_right (by omega) hD
  have e9 : (10 : Nat) ^ 9 = 1000000000 := by decide
  have h1 := near_lt_one h hmD (by omega)
  have h0 := near_gt_zero h hm (by omega)
  obtain ⟨t, ht, _, h3, h4⟩ := Fp.st_is D m
  have e : D = D - t + t := by omega
  have hn' := h
  rw [h3, e, Nat.pow_add, Fp.near_scale (Nat.pow_pos (by omega))] at hn'
  have hpos := Fp.near_pos h0 (Nat.pow_pos (by omega)) hn'
  have hlt := Fp.near_below h1 (Nat.pow_pos (by omega)) hn'
  have hk1 : 1 ≤ D - t := by
    rcases Nat.eq_zero_or_pos (D - t) with z | z
    · rw [z, Nat.pow_zero] at hlt
      exact absurd (Nat.lt_of_lt_of_le hpos (Nat.le_of_lt_succ hlt)) (Nat.lt_irrefl _)
    · exact z
  have h10 : m / 10 ^ t % 10 ≠ 0 := by
    rcases h4 with q | q
    · omega
    · exact q
  exact ⟨D - t, m / 10 ^ t, t, e, h3, hk1, hlt, h10, .inr (.inr (.inr ⟨rfl, h0, h1, _, _, ⟨hk1, by omega, hpos, hlt, h10, hn'⟩, rfl⟩))⟩
/-- the places of what is written, noughts behind its end -/
theorem place_digit {k n t j : Nat} (hj : j < k + t) : (if j < k then (Lib.dg n (k - 1 - j)).toNat else 48) = 48 + n * 10 ^ t / 10 ^ (k + t - 1 - j) % 10 := by
  by_cases c : j < k
  · rw [if_pos c, dg_byte, show k + t - 1 - j = k - 1 - j + t by omega, Nat.pow_add, Nat.mul_div_mul_right _ _ (Nat.pow_pos (by omega))]
  · rw [if_neg c]
    have e : 10 ^ t = 10 ^ (k + t - 1 - j) * (10 * 10 ^ (j - k)) := by
      rw [← Nat.pow_succ', ← Nat.pow_add]
      congr 1; omega
    rw [e, Nat.mul_left_comm, Nat.mul_div_cancel_left _ (Nat.pow_pos (by omega)), Nat.mul_left_comm, Nat.mul_mod_right]
theorem value_step (m D j : Nat) (hj : j < D) : m / 10 ^ (D - (j + 1)) = 10 * (m / 10 ^ (D - j)) + m / 10 ^ (D - 1 - j) % 10 := by
  have e : D - j = D - 1 - j + 1 := by omega
  rw [show D - (j + 1) = D - 1 - j by omega, e, Nat.pow_succ, ← Nat.div_div_eq_div_mul]
  omega
set_option maxRecDepth 100000 in
theorem pick_any (k m : Int) (h1 : 1 ≤ m) (h2 : m ≤ 1000000000) (w : World) : Calls Tryd.prog 8 #[.int .i64 k, .int .i64 m] w fun e w' => (∃ v : Int, e = .returned (.int .i64 v) ∧ 0 ≤ v ∧ v < m) ∧ w' = w := by
  have b1 : -m < k.tmod m := by
    have := Int.tmod_lt_of_pos k (show 0 < m by omega)
    have := Int.lt_tmod_of_pos k (show 0 < m by omega)
    omega
  have b2 : k.tmod m < m := Int.tmod_lt_of_pos k (by omega)
  have hm0 : (m == 0) = false := by rw [beq_eq_false_iff_ne]; omega
  obtain ⟨v, hv⟩ : ∃ v, k.tmod m = v := ⟨_, rfl⟩
  rw [hv] at b1 b2
  by_cases c : v < 0
  · go_enter Tryd.func8, Tryd.ntmps8
    go_wp2
    go_ret
    exact ⟨⟨v + m, rfl, by omega, by omega⟩, rfl⟩
  · go_enter Tryd.func8, Tryd.ntmps8
    go_wp2
    go_ret
    exact ⟨⟨v, rfl, by omega, by omega⟩, rfl⟩
end Go.Proofs.YtclmnkilfijeaaaDoor
