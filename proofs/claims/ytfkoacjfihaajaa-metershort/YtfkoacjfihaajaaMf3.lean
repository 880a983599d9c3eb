import Derived.Test.YtfkoacjfihaajaaMf2
set_option linter.unusedVariables false
set_option linter.unusedSimpArgs false
namespace Go.Proofs.Ytfkoacjfihaajaa
namespace Fl
/-- half of a float, by its rung -/
def hv (r : Nat) : Nat := if 9007199254740992 ≤ r then r - 4503599627370496 else r / 2 + (if r % 4 = 3 then 1 else 0)
theorem rn_half (r : Nat) : rn 52 1 (V 52 r) = hv r := by
  have low : r < 9007199254740992 → rn 52 1 r = hv r := by
    intro h
    unfold rn hv
    have hl : r.log2 - 52 - 1 = 0 := by
      rcases Nat.eq_zero_or_pos r with e | e
      · subst e; rfl
      · have := (Nat.log2_lt (by omega : r ≠ 0) (k := 53)).2 h
        omega
    rw [hl, if_neg (by omega), Nat.zero_mul, Nat.zero_add, Nat.zero_add]
    unfold cut cg
    rw [Nat.pow_one]
    congr 1
    by_cases q : r % 4 = 3
    · rw [if_pos q, if_pos (by omega)]
    · rw [if_neg q, if_neg (by omega)]
  rcases parts 52 r with h | ⟨L, c, rfl, h1, h2⟩
  · rw [V_low h]; rw [d_bin] at h; exact low (by omega)
  · rcases Nat.eq_zero_or_pos L with e | e
    · subst e
      rw [V_mk 52 0 c h1 (by omega), Nat.pow_zero, Nat.mul_one, Nat.zero_mul, Nat.zero_add] at *
      exact low (by rw [d_bin1] at h2; omega)
    · rw [V_mk 52 L c h1 (by omega)]
      have hl : c.log2 = 52 := log2_eq h1 h2
      have hp := Nat.two_pow_pos 52
      unfold rn hv
      rw [log2_mul L (by omega), hl, show 52 + L - 52 - 1 = L - 1 by omega, show L - 1 + 1 = L by omega, cut_mul]
      rw [d_bin] at *
      rw [show (2 : Nat) ^ (52 + 1) = 9007199254740992 by decide] at h2
      obtain ⟨k, rfl⟩ : ∃ k, L = k + 1 := ⟨L - 1, by omega⟩
      rw [Nat.add_sub_cancel, Nat.add_mul, if_pos (by omega)]
      omega
theorem word_false (r : Nat) : Ieee.double.word false r = r := rfl
def two : Nat := 4611686018427387904
theorem read_two : Ieee.double.read 4611686018427387904 = .number false 4503599627370496 (-51) := by decide
theorem hv_lt {r : Nat} (h : r < 9218868437227405312) : hv r < 9218868437227405312 := by
  unfold hv; split
  · omega
  · split <;> omega
theorem div_two {r : Nat} (h : r < 9218868437227405312) : Ieee.double.div r 4611686018427387904 = some (hv r) := by
  obtain ⟨m, e, h1, h2, h3⟩ := read_word Ieee.double false (r := r) (by rw [d_inf]; exact h)
  rw [word_false, d_least] at h1
  rw [d_frac] at h2 h3
  unfold Ieee.Format.div
  rw [h1, read_two]
  unfold Ieee.Datum.quotient
  simp only
  rw [if_neg (by decide), Option.map_some, d_frac]
  have hl : (4503599627370496 : Nat).log2 = 52 := by decide
  rw [hl]
  by_cases h0 : m = 0
  · subst h0
    have hr : r = 0 := by
      rw [Nat.zero_mul] at h2
      exact V_inj 52 (h2.symm.trans (V_low (by decide)).symm)
    subst hr
    have h00 : hv 0 = 0 := by decide
    simp only [Nat.zero_shiftLeft, Nat.zero_div, Nat.zero_mod, h00]
    show some (Ieee.double.nearest (false ^^ false) 0 _) = _
    unfold Ieee.Format.nearest
    rw [if_pos rfl, show (false ^^ false) = false from rfl, word_false]
  · have hm : m.log2 ≤ 52 := by
      have := (Nat.log2_lt h0 (k := 53)).2 h3
      omega
    obtain ⟨k, hk⟩ : ∃ k, 52 + 2 + 52 - m.log2 = k + 52 := ⟨54 - m.log2, by omega⟩
    rw [hk]
    have hd : m <<< (k + 52) = m * 2 ^ k * 4503599627370496 := by rw [Nat.shiftLeft_eq, Nat.pow_add, d_bin, Nat.mul_assoc]
    rw [hd, Nat.mul_div_cancel _ (by decide), Nat.mul_mod_left]
    show some (Ieee.double.nearest (false ^^ false) (2 * (m * 2 ^ k) + 0) _) = _
    rw [Nat.add_zero, show 2 * (m * 2 ^ k) = m * 2 ^ (k + 1) by rw [Nat.pow_succ]; ac_rfl, nearest_shift]
    rw [nearest_units Ieee.double _ m e _ (-1075) 1 (by omega) (by rw [d_least]; rfl), d_inf, d_frac, h2, rn_half, Nat.min_eq_left (Nat.le_of_lt (hv_lt h)), show (false ^^ false) = false from rfl, word_false]
def hvn : Nat → Nat → Nat
  | 0, r => r
  | k + 1, r => hv (hvn k r)
theorem hvn_lt {r : Nat} (h : r < 9218868437227405312) : ∀ k, hvn k r < 9218868437227405312
  | 0 => h
  | k + 1 => hv_lt (hvn_lt h k)
theorem hvn_add (r a : Nat) : ∀ b, hvn (a + b) r = hvn b (hvn a r)
  | 0 => rfl
  | b + 1 => by
    show hv (hvn (a + b) r) = hv (hvn b (hvn a r))
    rw [hvn_add r a b]
theorem hvn_zero : ∀ k, hvn k 0 = 0
  | 0 => rfl
  | k + 1 => by
    show hv (hvn k 0) = 0
    rw [hvn_zero k]; rfl
theorem hv_step {r k : Nat} (h : r ≤ 2 ^ (k + 1)) (hk : k < 53) : hv r ≤ 2 ^ k := by
  rw [Nat.pow_succ] at h
  have h2 : 2 ^ k ≤ 2 ^ 52 := Nat.pow_le_pow_right (by omega) (by omega)
  rw [d_bin] at h2
  generalize 2 ^ k = g at *
  unfold hv
  split
  · omega
  · split <;> omega
theorem hvn_down {r : Nat} : ∀ k j, r ≤ 2 ^ (j + k) → j + k ≤ 53 → hvn k r ≤ 2 ^ j
  | 0, j, h, _ => h
  | k + 1, j, h, hj => by
    have := hvn_down k (j + 1) (by rw [show j + 1 + k = j + (k + 1) by omega]; exact h) (by omega)
    exact hv_step this (by omega)
theorem hvn_fall {r : Nat} (h : r < 9218868437227405312) : ∀ k, k ≤ 2045 → hvn k r ≤ (2047 - k) * 4503599627370496
  | 0, _ => by show r ≤ _; omega
  | k + 1, hk => by
    have ih := hvn_fall h k (by omega)
    show hv (hvn k r) ≤ _
    generalize hvn k r = q at *
    have e : (2047 - k) * 4503599627370496 = (2047 - (k + 1)) * 4503599627370496 + 4503599627370496 := by omega
    unfold hv
    split
    · omega
    · have : 2 * 4503599627370496 ≤ (2047 - (k + 1)) * 4503599627370496 := Nat.mul_le_mul_right _ (by omega)
      split <;> omega
/-- so many halvings leave nothing -/
theorem hvn_dead {r k : Nat} (h : r < 9218868437227405312) (hk : 2200 ≤ k) : hvn k r = 0 := by
  have h1 := hvn_fall h 2045 (Nat.le_refl _)
  have h2 : hvn 53 (hvn 2045 r) ≤ 2 ^ 0 := hvn_down 53 0 (by rw [Nat.zero_add, d_bin1]; omega) (by omega)
  have h3 : hvn 1 (hvn 53 (hvn 2045 r)) = 0 := by
    show hv (hvn 53 (hvn 2045 r)) = 0
    generalize hvn 53 (hvn 2045 r) = q at *
    have : q = 0 ∨ q = 1 := by simp at h2; omega
    rcases this with rfl | rfl <;> rfl
  rw [← hvn_add, ← hvn_add] at h3
  obtain ⟨d, rfl⟩ : ∃ d, k = 2045 + 53 + 1 + d := ⟨k - 2099, by omega⟩
  rw [hvn_add, h3, hvn_zero]
theorem V_hv {r : Nat} (h : 9007199254740992 ≤ r) : V 52 (hv r) * 2 = V 52 r := by
  rcases parts 52 r with q | ⟨L, c, rfl, h1, h2⟩
  · rw [d_bin] at q; omega
  · rcases Nat.eq_zero_or_pos L with e | e
    · subst e; rw [show (2 : Nat) ^ (52 + 1) = 9007199254740992 by decide] at h2; omega
    · obtain ⟨k, rfl⟩ : ∃ k, L = k + 1 := ⟨L - 1, by omega⟩
      have e : hv ((k + 1) * 2 ^ 52 + c) = k * 2 ^ 52 + c := by
        unfold hv; rw [if_pos h, d_bin]; omega
      rw [e, V_mk 52 k c h1 (by omega), V_mk 52 (k + 1) c h1 (by omega), Nat.pow_succ, Nat.mul_assoc]
theorem V_same {r : Nat} (h : r ≤ 9007199254740992) : V 52 r = r := V_lowest (by rw [show (2 : Nat) ^ (52 + 1) = 9007199254740992 by decide]; exact h)
theorem V_big {r : Nat} : 9007199254740992 ≤ V 52 r ↔ 9007199254740992 ≤ r := by
  constructor
  · intro h
    rcases Nat.lt_or_ge r 9007199254740992 with q | q
    · rw [V_same (by omega)] at h; omega
    · exact q
  · intro h
    have := V_le 52 h
    rwa [V_same (Nat.le_refl _)] at this
theorem fin_pos {r : Nat} (h : r < 9218868437227405312) : Fin r (V 52 r : Int) := ⟨false, r, rfl, h, rfl⟩
theorem fin_zero : Fin 0 0 := fin_pos (r := 0) (by omega)
/-- the sum of two that are no less than 0 -/
theorem add_pos {a b : Nat} (ha : a < 9218868437227405312) (hb : b < 9218868437227405312) (hs : rn 52 0 (V 52 a + V 52 b) < 9218868437227405312) : Ieee.double.add a b = some (rn 52 0 (V 52 a + V 52 b)) := by
  obtain ⟨g, e, h1, h2⟩ := add_rn (fin_pos ha) (fin_pos hb)
  rw [show ((V 52 a : Int) + (V 52 b : Int)).natAbs = V 52 a + V 52 b by omega, Nat.min_eq_left (by omega)] at e
  rw [e]
  rcases Nat.eq_zero_or_pos (V 52 a + V 52 b) with q | q
  · -- both 0
    have ea : a = 0 := V_inj 52 ((show V 52 a = 0 by omega).trans (V_low (by decide)).symm)
    have eb : b = 0 := V_inj 52 ((show V 52 b = 0 by omega).trans (V_low (by decide)).symm)
    subst ea; subst eb
    rw [← e]; rfl
  · rw [h2 (by omega)]; rfl
theorem rn_le {X v : Nat} (hX : Rep X) (h : v ≤ X) : V 52 (rn 52 0 v) ≤ X ∧ rn 52 0 v < 9218868437227405312 := by
  obtain ⟨r, hr, rfl⟩ := hX
  have := rn_mono 52 0 h
  have e := rn_V 52 0 r
  rw [Nat.pow_zero, Nat.mul_one] at e
  rw [e] at this
  exact ⟨V_le 52 this, by omega⟩
/-- a whole number that is no less than 0 as a float -/
def fi (n : Nat) : Nat := rn 52 0 (n * Q)
theorem near_fi {n : Nat} (h : n ≤ 9223372036854775808) : FloatKind.f64.nearest (n : Int) = fi n ∧ fi n < 9218868437227405312 ∧ V 52 (fi n) ≤ 9223372036854775808 * Q := by
  obtain ⟨D, hD⟩ : ∃ D : Nat, D = 1074 := ⟨_, rfl⟩
  have hrep : Rep (9223372036854775808 * Q) := by
    obtain ⟨E, hE⟩ : ∃ E : Nat, E = 1137 := ⟨_, rfl⟩
    have : (9223372036854775808 : Nat) * Q = 1 * 2 ^ E := by
      rw [Q_def hD, show E = 63 + D by omega, Nat.pow_add, Nat.one_mul, show (2 : Nat) ^ 63 = 9223372036854775808 by decide]
    rw [this]; exact rep_mk (by omega) (by omega)
  have hl := rn_le hrep (Nat.mul_le_mul_right Q h)
  refine ⟨?_, hl.2, hl.1⟩
  unfold FloatKind.nearest FloatKind.encode
  show Ieee.double.nearest (decide ((n : Int) < 0)) ((n : Int)).natAbs 0 = _
  rw [show decide ((n : Int) < 0) = false by simp, Int.natAbs_natCast, nearest_units Ieee.double _ n D 0 (-1074) 0 (by omega) (by rw [d_least]; rfl), d_inf, d_frac, ← Q_def hD]
  rw [word_false]
  exact Nat.min_eq_left (Nat.le_of_lt hl.2)
end Fl
end Go.Proofs.Ytfkoacjfihaajaa
