import GoSem.Core.Float
set_option linter.unusedVariables false
set_option linter.unusedSimpArgs false
namespace Go.Proofs.Ytjmkofdnlhfaiaa
/-! floats by their rungs: which one is nearest to a fraction -/
namespace Fp
/-- the value of a rung, in units of the smallest -/
def V (r : Nat) : Nat := if r < 4503599627370496 then r else (4503599627370496 + r % 4503599627370496) * 2 ^ (r / 4503599627370496 - 1)
def unit : Nat := 2 ^ 1075
theorem unit_split {x y : Nat} (h : x + y = 1075) : unit = 2 ^ x * 2 ^ y := by rw [unit, ← h, Nat.pow_add]
/-- r is the rung nearest to n / q -/
def Near (r n q : Nat) : Prop := (V (r - 1) + V r) * q ≤ n * unit ∧ n * unit ≤ (V r + V (r + 1)) * q ∧ (r % 2 = 1 → (V (r - 1) + V r) * q < n * unit ∧ n * unit < (V r + V (r + 1)) * q)
theorem V_mk (L c : Nat) (h1 : 4503599627370496 ≤ c) (h2 : c ≤ 9007199254740992) : V (L * 4503599627370496 + c) = c * 2 ^ L := by
  unfold V
  rw [if_neg (by omega)]
  by_cases h : c = 9007199254740992
  · subst h
    rw [show (L * 4503599627370496 + 9007199254740992) % 4503599627370496 = 0 by omega, show (L * 4503599627370496 + 9007199254740992) / 4503599627370496 - 1 = L + 1 by omega, Nat.pow_succ]
    generalize 2 ^ L = z
    omega
  · rw [show (L * 4503599627370496 + c) % 4503599627370496 = c - 4503599627370496 by omega, show (L * 4503599627370496 + c) / 4503599627370496 - 1 = L by omega, show 4503599627370496 + (c - 4503599627370496) = c by omega]
theorem V_up (L c : Nat) (h1 : 4503599627370496 ≤ c) (h2 : c ≤ 9007199254740992) : (c + 1) * 2 ^ L ≤ V (L * 4503599627370496 + c + 1) := by
  by_cases h : c = 9007199254740992
  · subst h
    rw [show L * 4503599627370496 + 9007199254740992 + 1 = (L + 1) * 4503599627370496 + 4503599627370497 by omega, V_mk _ _ (by omega) (by omega), Nat.pow_succ]
    generalize 2 ^ L = z
    omega
  · rw [Nat.add_assoc, V_mk L (c + 1) (by omega) (by omega)]; exact Nat.le_refl _
theorem V_down (L c : Nat) (h1 : 4503599627370496 < c) (h2 : c ≤ 9007199254740992) : V (L * 4503599627370496 + c - 1) = (c - 1) * 2 ^ L := by
  rw [show L * 4503599627370496 + c - 1 = L * 4503599627370496 + (c - 1) by omega, V_mk _ _ (by omega) (by omega)]
theorem V_least (L : Nat) : V (L * 4503599627370496 + 4503599627370496 - 1) ≤ 4503599627370496 * 2 ^ L := by
  cases L with
  | zero => unfold V; simp
  | succ L =>
    rw [show (L + 1) * 4503599627370496 + 4503599627370496 - 1 = L * 4503599627370496 + 9007199254740991 by omega, V_mk _ _ (by omega) (by omega), Nat.pow_succ]
    generalize 2 ^ L = z
    omega
theorem V_lt (r : Nat) : V r < V (r + 1) := by
  by_cases h : r + 1 < 4503599627370496
  · unfold V; rw [if_pos h, if_pos (by omega)]; omega
  · by_cases h0 : r + 1 = 4503599627370496
    · obtain rfl : r = 4503599627370495 := by omega
      decide
    · obtain ⟨L, c, rfl, h1, h2⟩ : ∃ L c, r = L * 4503599627370496 + c ∧ 4503599627370496 ≤ c ∧ c < 9007199254740992 := ⟨r / 4503599627370496 - 1, 4503599627370496 + r % 4503599627370496, by omega, by omega, by omega⟩
      rw [V_mk L c h1 (by omega)]
      have := V_up L c h1 (by omega)
      have hp : 0 < 2 ^ L := Nat.two_pow_pos _
      rw [Nat.add_mul] at this
      omega
theorem V_mono {r s : Nat} (h : r < s) : V r < V s := by
  obtain ⟨d, rfl⟩ : ∃ d, s = r + 1 + d := ⟨s - r - 1, by omega⟩
  induction d with
  | zero => exact V_lt r
  | succ d ih => exact Nat.lt_trans (ih (by omega)) (V_lt _)
theorem V_le {r s : Nat} (h : r ≤ s) : V r ≤ V s := by
  rcases Nat.eq_or_lt_of_le h with rfl | h
  · exact Nat.le_refl _
  · exact Nat.le_of_lt (V_mono h)
/-- only one rung is nearest -/
theorem near_lt {r s n q : Nat} (h : Near r n q) (h' : Near s n q) (hq : 0 < q) (hl : r < s) : False := by
  have e1 : V r ≤ V (s - 1) := V_le (by omega)
  have e2 : V (r + 1) ≤ V s := V_le (by omega)
  by_cases hs : s = r + 1
  · subst hs
    rw [Nat.add_sub_cancel] at *
    obtain ⟨a1, a2, a3⟩ := h
    obtain ⟨b1, b2, b3⟩ := h'
    rw [Nat.add_sub_cancel] at b1 b3
    rcases Nat.mod_two_eq_zero_or_one r with k | k
    · have := (b3 (by omega)).1
      omega
    · have := (a3 k).2
      omega
  · have e3 : V r < V (s - 1) := V_mono (by omega)
    have : (V r + V (r + 1)) * q < (V (s - 1) + V s) * q := Nat.mul_lt_mul_of_pos_right (by omega) hq
    have := h.2.1
    have := h'.1
    omega
theorem near_one {r s n q : Nat} (h : Near r n q) (h' : Near s n q) (hq : 0 < q) : r = s := by
  rcases Nat.lt_trichotomy r s with k | k | k
  · exact (near_lt h h' hq k).elim
  · exact k
  · exact (near_lt h' h hq k).elim
theorem log2_eq {n k : Nat} (h1 : 2 ^ k ≤ n) (h2 : n < 2 ^ (k + 1)) : n.log2 = k := by
  have h0 : n ≠ 0 := by have := Nat.two_pow_pos k; omega
  have a := (Nat.le_log2 h0).2 h1
  have b := (Nat.log2_lt h0).2 h2
  omega
/-- a whole number below 2^53 as a float, read -/
theorem read_nat {n : Nat} (h0 : 0 < n) (h : n < 9007199254740992) : ∃ a : Nat, a ≤ 52 ∧ 4503599627370496 ≤ n * 2 ^ a ∧ n * 2 ^ a < 9007199254740992 ∧
    FloatKind.f64.nearest (n : Int) = (1074 - a) * 4503599627370496 + n * 2 ^ a ∧ Ieee.double.read (FloatKind.f64.nearest (n : Int)) = .number false (n * 2 ^ a) (-(a : Int)) := by
  have hl : n.log2 ≤ 52 := by
    have := (Nat.log2_lt (by omega : n ≠ 0) (k := 53)).2 (by omega)
    omega
  have h1 := Nat.log2_self_le (by omega : n ≠ 0)
  have h2 := Nat.lt_log2_self (n := n)
  obtain ⟨a, ha⟩ : ∃ a, a = 52 - n.log2 := ⟨_, rfl⟩
  have p52 : (4503599627370496 : Nat) = 2 ^ n.log2 * 2 ^ a := by rw [← Nat.pow_add, show n.log2 + a = 52 by omega]
  have p53 : (9007199254740992 : Nat) = 2 ^ (n.log2 + 1) * 2 ^ a := by rw [← Nat.pow_add, show n.log2 + 1 + a = 53 by omega]
  have A1 : 4503599627370496 ≤ n * 2 ^ a := by rw [p52]; exact Nat.mul_le_mul_right _ h1
  have A2 : n * 2 ^ a < 9007199254740992 := by rw [p53]; exact Nat.mul_lt_mul_of_pos_right h2 (Nat.two_pow_pos _)
  have hw : FloatKind.f64.nearest (n : Int) = (1074 - a) * 4503599627370496 + n * 2 ^ a := by
    have hf : FloatKind.f64.format = Ieee.double := rfl
    unfold FloatKind.nearest FloatKind.encode
    rw [hf]
    unfold Ieee.Format.write Ieee.Format.nearest
    have hl' : Ieee.double.leastPlace = -1074 := by decide
    have hfb : (Ieee.double.fractionBits : Int) = 52 := rfl
    have hb : Ieee.double.binade = 4503599627370496 := by decide
    have hin : Ieee.double.infRung = 9218868437227405312 := by decide
    have hna : ((n : Int)).natAbs = n := by omega
    have hneg : decide ((n : Int) < 0) = false := by simp
    simp only [hna, hneg, hl', hfb, hb, hin]
    rw [if_neg (by omega)]
    have hm : max (0 + (n.log2 : Int) - 52) (-1074) = -(a : Int) := by omega
    rw [hm]
    have e1 : (0 - -(a : Int)).toNat = a := by omega
    have e2 : (-(a : Int) - 0).toNat = 0 := by omega
    have e3 : (-(a : Int) - -1074).toNat = 1074 - a := by omega
    rw [e1, e2, e3]
    unfold Ieee.Toward.cut
    simp only [Nat.zero_min, Nat.shiftLeft_zero, Nat.div_one, Nat.mod_one, Nat.mul_zero]
    rw [Nat.shiftLeft_eq]
    simp only [Ieee.Format.word, Bool.false_eq_true, if_false]
    generalize n * 2 ^ a = A at *
    have : (decide (1 < 0) || (1 == 0 && A % 2 == 1)).toNat = 0 := by simp
    rw [this, Nat.add_zero]
    have hA3 : (1074 - a) * 4503599627370496 + A ≤ 9218868437227405312 := by omega
    exact Nat.min_eq_left hA3
  refine ⟨a, by omega, A1, A2, hw, ?_⟩
  rw [hw]
  unfold Ieee.Format.read
  have hs : Ieee.double.signWeight = 9223372036854775808 := by decide
  have hb : Ieee.double.binade = 4503599627370496 := by decide
  have hin : Ieee.double.infRung = 9218868437227405312 := by decide
  have hl' : Ieee.double.leastPlace = -1074 := by decide
  simp only [hs, hb, hin, hl']
  generalize n * 2 ^ a = A at *
  have k1 : ((1074 - a) * 4503599627370496 + A) / 9223372036854775808 % 2 = 0 := by omega
  have k2 : ((1074 - a) * 4503599627370496 + A) % 9223372036854775808 = (1074 - a) * 4503599627370496 + A := by omega
  rw [k1, k2, if_neg (by omega), if_pos (by omega)]
  have k3 : ((1074 - a) * 4503599627370496 + A) % 4503599627370496 = A - 4503599627370496 := by omega
  have k4 : ((1074 - a) * 4503599627370496 + A) / 4503599627370496 - 1 = 1074 - a := by omega
  rw [k3, k4]
  have k5 : 4503599627370496 + (A - 4503599627370496) = A := by omega
  have k6 : (-1074 : Int) + ((1074 - a : Nat) : Int) = -(a : Int) := by omega
  rw [k5, k6]
  rfl
end Fp
end Go.Proofs.Ytjmkofdnlhfaiaa
