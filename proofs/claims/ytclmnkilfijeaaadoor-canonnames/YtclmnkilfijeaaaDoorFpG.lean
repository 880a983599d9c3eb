import Derived.Test.YtclmnkilfijeaaaDoorFpF
set_option linter.unusedVariables false
set_option linter.unusedSimpArgs false
namespace Go.Proofs.YtclmnkilfijeaaaDoor
namespace Fp
theorem d_sign : Ieee.double.signWeight = 9223372036854775808 := by decide
theorem d_bin : Ieee.double.binade = 4503599627370496 := by decide
theorem d_inf : Ieee.double.infRung = 9218868437227405312 := by decide
theorem d_least : Ieee.double.leastPlace = -1074 := by decide
theorem read_low {r : Nat} (h : r < 4503599627370496) : Ieee.double.read r = .number false r (-1074) := by
  unfold Ieee.Format.read
  simp only [d_sign, d_bin, d_inf, d_least]
  rw [show r / 9223372036854775808 % 2 = 0 by omega, show r % 9223372036854775808 = r by omega, if_pos h]
  rfl
theorem read_mk {L c : Nat} (h1 : 4503599627370496 ≤ c) (h2 : c < 9007199254740992) (hL : L ≤ 2045) : Ieee.double.read (L * 4503599627370496 + c) = .number false c ((L : Int) - 1074) := by
  unfold Ieee.Format.read
  simp only [d_sign, d_bin, d_inf, d_least]
  rw [show (L * 4503599627370496 + c) / 9223372036854775808 % 2 = 0 by omega, show (L * 4503599627370496 + c) % 9223372036854775808 = L * 4503599627370496 + c by omega, if_neg (by omega), if_pos (by omega)]
  rw [show (L * 4503599627370496 + c) % 4503599627370496 = c - 4503599627370496 by omega, show (L * 4503599627370496 + c) / 4503599627370496 - 1 = L by omega, show 4503599627370496 + (c - 4503599627370496) = c by omega, show (-1074 : Int) + (L : Nat) = L - 1074 by omega]
  rfl
/-- a rung below infinity: its number -/
theorem read_rung {r : Nat} (h : r < 9218868437227405312) : ∃ m e : Nat, Ieee.double.read r = .number false m ((e : Int) - 1074) ∧ V r = m * 2 ^ e := by
  by_cases h0 : r < 4503599627370496
  · refine ⟨r, 0, ?_, ?_⟩
    · rw [read_low h0]; rfl
    · unfold V; rw [if_pos h0]; simp
  · obtain ⟨L, c, rfl, h1, h2⟩ : ∃ L c, r = L * 4503599627370496 + c ∧ 4503599627370496 ≤ c ∧ c < 9007199254740992 := ⟨r / 4503599627370496 - 1, 4503599627370496 + r % 4503599627370496, by omega, by omega, by omega⟩
    exact ⟨c, L, read_mk h1 h2 (by omega), V_mk L c h1 (by omega)⟩
theorem cmp_scale (a b c : Nat) (h : 0 < c) : compare (a * c) (b * c) = compare a b := by
  rcases Nat.lt_trichotomy a b with k | k | k
  · rw [Nat.compare_eq_lt.2 k, Nat.compare_eq_lt.2 (Nat.mul_lt_mul_of_pos_right k h)]
  · subst k; rw [Nat.compare_eq_eq.2 rfl, Nat.compare_eq_eq.2 rfl]
  · rw [Nat.compare_eq_gt.2 k, Nat.compare_eq_gt.2 (Nat.mul_lt_mul_of_pos_right k h)]
theorem cmp_int (a b : Nat) : compare (a : Int) (b : Int) = compare a b := by
  rcases Nat.lt_trichotomy a b with k | k | k
  · rw [Nat.compare_eq_lt.2 k, Int.compare_eq_lt.2 (by omega)]
  · subst k; rw [Nat.compare_eq_eq.2 rfl, Int.compare_eq_eq.2 rfl]
  · rw [Nat.compare_eq_gt.2 k, Int.compare_eq_gt.2 (by omega)]
theorem cmp_V (a b : Nat) : compare (V a) (V b) = compare a b := by
  rcases Nat.lt_trichotomy a b with k | k | k
  · rw [Nat.compare_eq_lt.2 k, Nat.compare_eq_lt.2 (V_mono k)]
  · subst k; rw [Nat.compare_eq_eq.2 rfl, Nat.compare_eq_eq.2 rfl]
  · rw [Nat.compare_eq_gt.2 k, Nat.compare_eq_gt.2 (V_mono k)]
/-- floats that are no less than 0 lie as their rungs do -/
theorem order_rung {a b : Nat} (ha : a < 9218868437227405312) (hb : b < 9218868437227405312) : Ieee.double.order a b = some (compare a b) := by
  obtain ⟨m, e, r1, v1⟩ := read_rung ha
  obtain ⟨n, f, r2, v2⟩ := read_rung hb
  unfold Ieee.Format.order
  rw [r1, r2]
  unfold Ieee.Datum.order Ieee.signed
  simp only [Bool.false_eq_true, if_false]
  rw [cmp_int, Nat.shiftLeft_eq, Nat.shiftLeft_eq, ← cmp_V a b, v1, v2]
  have hc : 0 < 2 ^ (min e f) := Nat.two_pow_pos _
  rw [show (((e : Int) - 1074) - min ((e : Int) - 1074) ((f : Int) - 1074)).toNat = e - min e f by omega, show (((f : Int) - 1074) - min ((e : Int) - 1074) ((f : Int) - 1074)).toNat = f - min e f by omega]
  rw [← cmp_scale (m * 2 ^ (e - min e f)) _ _ hc, Nat.mul_assoc, Nat.mul_assoc, ← Nat.pow_add, ← Nat.pow_add, show e - min e f + min e f = e by omega, show f - min e f + min e f = f by omega]
/-- what is rounded down to a whole number -/
theorem toInt_down (m s : Nat) : (Ieee.Datum.number false m (-(s : Int))).toInt .zero = some ((m / 2 ^ s : Nat) : Int) := by
  unfold Ieee.Datum.toInt Ieee.Datum.integral Ieee.Toward.cut Ieee.signed
  simp only [Bool.false_eq_true, if_false]
  rw [show (-(s : Int)).toNat = 0 by omega, show (-(-(s : Int))).toNat = s by omega]
  simp only [Nat.shiftLeft_zero, Nat.one_shiftLeft, Bool.toNat_false, Nat.add_zero]
  congr 2
  rcases Nat.le_total s (m.log2 + 2) with h | h
  · rw [Nat.min_eq_left h]
  · rw [Nat.min_eq_right h]
    have h1 : m < 2 ^ (m.log2 + 2) := Nat.lt_trans (Nat.lt_log2_self) (Nat.pow_lt_pow_right (by omega) (by omega))
    have h2 : m < 2 ^ s := Nat.lt_of_lt_of_le h1 (Nat.pow_le_pow_right (by omega) h)
    rw [Nat.div_eq_of_lt h1, Nat.div_eq_of_lt h2]
/-- a product that is below one, and its whole part -/
theorem mul_low {M : Nat} {place : Int} (h0 : M ≠ 0) (h1 : (M.log2 : Int) + place < 0) : ∃ r2, Ieee.double.nearest false M place = r2 ∧ r2 ≤ one := by
  refine ⟨_, rfl, ?_⟩
  unfold Ieee.Format.nearest
  have hfb : (Ieee.double.fractionBits : Int) = 52 := rfl
  simp only [d_least, hfb, d_bin, d_inf]
  rw [if_neg h0]
  simp only [Ieee.Format.word, Bool.false_eq_true, if_false]
  obtain ⟨last, hl⟩ : ∃ last : Int, last = max (place + (M.log2 : Int) - 52) (-1074) := ⟨_, rfl⟩
  rw [← hl]
  have hl1 : last ≤ -53 := by omega
  have hl2 : -1074 ≤ last := by omega
  have hM := Nat.lt_log2_self (n := M)
  have kept : Ieee.Toward.even.cut false (M <<< (place - last).toNat) (last - place).toNat ≤ 9007199254740992 := by
    rcases Int.le_total last place with hc | hc
    · -- moved up
      rw [show (last - place).toNat = 0 by omega]
      unfold Ieee.Toward.cut
      simp only [Nat.zero_min, Nat.shiftLeft_zero, Nat.div_one, Nat.mod_one, Nat.mul_zero]
      have : (decide (1 < 0) || (1 == 0 && (M <<< (place - last).toNat) % 2 == 1)) = false := by simp
      rw [this, Bool.toNat_false, Nat.add_zero, Nat.shiftLeft_eq]
      have hb : M * 2 ^ (place - last).toNat < 2 ^ (M.log2 + 1) * 2 ^ (place - last).toNat := Nat.mul_lt_mul_of_pos_right hM (Nat.two_pow_pos _)
      rw [← Nat.pow_add] at hb
      have : 2 ^ (M.log2 + 1 + (place - last).toNat) ≤ 2 ^ 53 := Nat.pow_le_pow_right (by omega) (by omega)
      have e53 : (2 : Nat) ^ 53 = 9007199254740992 := by decide
      omega
    · rw [show (place - last).toNat = 0 by omega, Nat.shiftLeft_zero]
      unfold Ieee.Toward.cut
      simp only [Nat.one_shiftLeft]
      obtain ⟨g, hg⟩ : ∃ g, g = min (last - place).toNat (M.log2 + 2) := ⟨_, rfl⟩
      rw [← hg]
      have hd : M / 2 ^ g < 9007199254740992 := by
        rw [Nat.div_lt_iff_lt_mul (Nat.two_pow_pos _), show (9007199254740992 : Nat) = 2 ^ 53 from rfl, ← Nat.pow_add]
        exact Nat.lt_of_lt_of_le hM (Nat.pow_le_pow_right (by omega) (by omega))
      have : ∀ b : Bool, b.toNat ≤ 1 := by decide
      have := this (decide (2 ^ g < 2 * (M % 2 ^ g)) || (2 ^ g == 2 * (M % 2 ^ g) && M / 2 ^ g % 2 == 1))
      omega
  refine Nat.le_trans (Nat.min_le_left _ _) ?_
  unfold one
  omega
theorem toInt_one {r : Nat} (h : r ≤ one) : ∃ N : Nat, (Ieee.double.read r).toInt .zero = some (N : Int) ∧ N ≤ 1 := by
  unfold one at h
  by_cases h0 : r < 4503599627370496
  · obtain ⟨s, hs⟩ : ∃ s, s = 1074 := ⟨_, rfl⟩
    have e : Ieee.double.read r = .number false r (-(s : Int)) := by rw [read_low h0, hs]; rfl
    refine ⟨_, by rw [e]; exact toInt_down r s, ?_⟩
    have : r < 2 ^ s := Nat.lt_of_lt_of_le h0 (by rw [show (4503599627370496 : Nat) = 2 ^ 52 from rfl]; exact Nat.pow_le_pow_right (by omega) (by omega))
    rw [Nat.div_eq_of_lt this]
    omega
  · obtain ⟨L, c, rfl, h1, h2⟩ : ∃ L c, r = L * 4503599627370496 + c ∧ 4503599627370496 ≤ c ∧ c < 9007199254740992 := ⟨r / 4503599627370496 - 1, 4503599627370496 + r % 4503599627370496, by omega, by omega, by omega⟩
    have hL : L ≤ 1022 := by omega
    obtain ⟨s, hs⟩ : ∃ s, s = 1074 - L := ⟨_, rfl⟩
    have e : Ieee.double.read (L * 4503599627370496 + c) = .number false c (-(s : Int)) := by rw [read_mk h1 h2 (by omega), show (L : Int) - 1074 = -(s : Int) by omega]
    refine ⟨_, by rw [e]; exact toInt_down c s, ?_⟩
    have : c / 2 ^ s < 2 := by
      rw [Nat.div_lt_iff_lt_mul (Nat.two_pow_pos _)]
      have : (2 : Nat) ^ 52 ≤ 2 ^ s := Nat.pow_le_pow_right (by omega) (by omega)
      have e52 : (2 : Nat) ^ 52 = 4503599627370496 := by decide
      omega
    omega
/-- a float below one times a power of ten: its whole part lies beside every number that means the float -/
theorem mul_whole {L c q : Nat} (c1 : 4503599627370496 ≤ c) (c2 : c < 9007199254740992) (hL : L ≤ 1021) (hL2 : 104 ≤ L) (hq0 : 0 < q) (hq : q < 1073741824) :
    ∃ r2 N : Nat, Ieee.double.mul (L * 4503599627370496 + c) (FloatKind.f64.nearest (q : Int)) = some r2 ∧ (Ieee.double.read r2).toInt .zero = some (N : Int) ∧ N ≤ 1073741825 ∧ (∀ n, Near (L * 4503599627370496 + c) n q → N ≤ n + 1 ∧ n ≤ N + 1) := by
  obtain ⟨b, hb, b1, b2, _, rb⟩ := read_nat hq0 (by omega : q < 9007199254740992)
  unfold Ieee.Format.mul
  rw [read_mk c1 c2 (by omega), rb]
  unfold Ieee.Datum.product
  simp only [Option.map_some]
  obtain ⟨B, hB⟩ : ∃ B, q * 2 ^ b = B := ⟨_, rfl⟩
  rw [hB] at b1 b2
  rw [hB]
  obtain ⟨M, hM⟩ : ∃ M, c * B = M := ⟨_, rfl⟩
  rw [hM]
  have m1 : 2 ^ 104 ≤ M := by rw [← hM]; exact Nat.le_trans (by decide) (Nat.mul_le_mul c1 b1)
  have m2 : M < 2 ^ 106 := by
    rw [← hM]
    exact Nat.lt_of_lt_of_le (Nat.mul_lt_mul'' c2 b2) (by decide)
  obtain ⟨t, ht, hlog⟩ : ∃ t, (t = 52 ∨ t = 53) ∧ M.log2 = t + 52 := by
    by_cases q : M < 2 ^ 105
    · exact ⟨52, .inl rfl, log2_eq m1 q⟩
    · exact ⟨53, .inr rfl, log2_eq (by omega) m2⟩
  have hcut := cut_even M t (by omega)
  obtain ⟨cc, hcc⟩ : ∃ cc, cc = Ieee.Toward.even.cut false M t := ⟨_, rfl⟩
  have hc' := hcc
  rw [hcut] at hc'
  have hlo := Nat.log2_self_le (show M ≠ 0 by have : (0 : Nat) < 2 ^ 104 := by decide
                                              omega)
  have hhi := Nat.lt_log2_self (n := M)
  rw [hlog] at hlo hhi
  have hpt : 0 < 2 ^ t := Nat.two_pow_pos _
  have dm := Nat.div_add_mod M (2 ^ t)
  have ml := Nat.mod_lt M hpt
  have dlo : 4503599627370496 ≤ M / 2 ^ t := by
    rw [Nat.le_div_iff_mul_le hpt, show (4503599627370496 : Nat) = 2 ^ 52 from rfl, ← Nat.pow_add, Nat.add_comm]; exact hlo
  have dhi : M / 2 ^ t < 9007199254740992 := by
    rw [Nat.div_lt_iff_lt_mul hpt, show (9007199254740992 : Nat) = 2 ^ 53 from rfl, ← Nat.pow_add, show 53 + t = t + 52 + 1 by omega]; exact hhi
  have cb : 4503599627370496 ≤ cc ∧ cc ≤ 9007199254740992 := by split at hc' <;> omega
  have near1 : 2 ^ t * cc ≤ M + 2 ^ t ∧ M ≤ 2 ^ t * cc + 2 ^ t := by
    generalize M / 2 ^ t = d at *
    generalize M % 2 ^ t = e at *
    split at hc'
    · rename_i hx
      have : 2 ^ t * cc = 2 ^ t * d + 2 ^ t := by rw [hc', Nat.mul_add, Nat.mul_one]
      omega
    · have : 2 ^ t * cc = 2 ^ t * d := by rw [hc', Nat.add_zero]
      omega
  have hplace : ((L : Int) - 1074 + -(b : Int)) + t ≤ 0 := by omega
  have hwr := nearest_rung (m := M) (t := t) (place := (L : Int) - 1074 + -(b : Int)) hlog (by have : (0 : Nat) < 2 ^ 104 := by decide
                                                                                               omega) (by omega) hplace cc hcc cb.2
  obtain ⟨s, hs⟩ : ∃ s : Nat, s = (-((L : Int) - 1074 + -(b : Int) + t)).toNat := ⟨_, rfl⟩
  obtain ⟨L2, hL2d⟩ : ∃ L2 : Nat, L2 = ((L : Int) - 1074 + -(b : Int) + t + 1074).toNat := ⟨_, rfl⟩
  rw [← hL2d] at hwr
  have hst : L + s + t = 1074 + b := by omega
  have hrd : ∃ m e : Nat, Ieee.double.read (L2 * 4503599627370496 + cc) = .number false m (-(e : Int)) ∧ m / 2 ^ e = cc / 2 ^ s := by
    by_cases hx : cc = 9007199254740992
    · by_cases hs0 : s = 0
      · exfalso
        -- not so great: the product is below 2^30
        have : M < 2 ^ 30 * 2 ^ (53 + b) := by
          rw [← hM]
          have hB2 : B < 2 ^ 30 * 2 ^ b := by rw [← hB]; exact Nat.mul_lt_mul_of_pos_right hq (Nat.two_pow_pos _)
          have := Nat.mul_lt_mul'' c2 hB2
          refine Nat.lt_of_lt_of_le this (Nat.le_of_eq ?_)
          rw [Nat.pow_add, show (9007199254740992 : Nat) = 2 ^ 53 from rfl]; ac_rfl
        rw [← Nat.pow_add] at this
        have h3 : 2 ^ (t + 52) < 2 ^ (30 + (53 + b)) := by omega
        have := (Nat.pow_lt_pow_iff_right (by omega : 1 < 2)).1 h3
        omega
      · refine ⟨4503599627370496, s - 1, ?_, ?_⟩
        · rw [hx, show L2 * 4503599627370496 + 9007199254740992 = (L2 + 1) * 4503599627370496 + 4503599627370496 by omega, read_mk (by omega) (by omega) (by omega)]
          congr 1; omega
        · rw [hx, show s = s - 1 + 1 by omega, Nat.pow_succ, Nat.mul_comm (2 ^ (s - 1)) 2, ← Nat.div_div_eq_div_mul]; rfl
    · refine ⟨cc, s, ?_, rfl⟩
      rw [read_mk cb.1 (by omega) (by omega)]
      congr 1; omega
  obtain ⟨m, e, hr1, hr2⟩ := hrd
  refine ⟨L2 * 4503599627370496 + cc, cc / 2 ^ s, ?_, ?_, ?_, ?_⟩
  · rw [← hwr]; rfl
  · rw [hr1, toInt_down, hr2]
  · -- below 2^30
    have : cc / 2 ^ s < 1073741825 := by
      rw [Nat.div_lt_iff_lt_mul (Nat.two_pow_pos _)]
      have h1 : M < 2 ^ 30 * 2 ^ (53 + b) := by
        rw [← hM]
        have hB2 : B < 2 ^ 30 * 2 ^ b := by rw [← hB]; exact Nat.mul_lt_mul_of_pos_right hq (Nat.two_pow_pos _)
        have := Nat.mul_lt_mul'' c2 hB2
        refine Nat.lt_of_lt_of_le this (Nat.le_of_eq ?_)
        rw [Nat.pow_add, show (9007199254740992 : Nat) = 2 ^ 53 from rfl]; ac_rfl
      have h2 : (2 : Nat) ^ (53 + b) ≤ 2 ^ t * 2 ^ s := by rw [← Nat.pow_add]; exact Nat.pow_le_pow_right (by omega) (by omega)
      have h3 : 2 ^ t * cc < 2 ^ t * (1073741825 * 2 ^ s) := by
        have a1 : 2 ^ 30 * 2 ^ (53 + b) ≤ 2 ^ 30 * (2 ^ t * 2 ^ s) := Nat.mul_le_mul_left _ h2
        have a2 : 2 ^ t * (1073741825 * 2 ^ s) = 2 ^ 30 * (2 ^ t * 2 ^ s) + 2 ^ t * 2 ^ s := by
          rw [Nat.mul_left_comm, show (1073741825 : Nat) = 2 ^ 30 + 1 from rfl, Nat.add_mul, Nat.one_mul]
        have a3 : 2 ^ t * 1 ≤ 2 ^ t * 2 ^ s := Nat.mul_le_mul_left _ (Nat.two_pow_pos _)
        omega
      exact Nat.lt_of_mul_lt_mul_left h3
    omega
  · intro n hn
    have hvr := V_mk L c c1 (by omega)
    have hvu : V (L * 4503599627370496 + c + 1) ≤ (c + 1) * 2 ^ L := by
      have := V_mk L (c + 1) (by omega) (by omega)
      rw [← Nat.add_assoc] at this
      omega
    have hvd : (c - 1) * 2 ^ L ≤ V (L * 4503599627370496 + c - 1) := by
      by_cases hc0 : c = 4503599627370496
      · have := V_mk (L - 1) 9007199254740991 (by omega) (by omega)
        rw [show (L - 1) * 4503599627370496 + 9007199254740991 = L * 4503599627370496 + c - 1 by omega] at this
        rw [this, hc0]
        have hL2 : (2 : Nat) ^ (L - 1 + 1) = 2 * 2 ^ (L - 1) := Nat.pow_succ'
        rw [show L - 1 + 1 = L by omega] at hL2
        rw [hL2]
        generalize 2 ^ (L - 1) = z
        omega
      · have := V_down L c (by omega) (by omega)
        omega
    have n1 := hn.1
    have n2 := hn.2.1
    have hu : unit = 2 * (2 ^ L * 2 ^ (1074 - L)) := by rw [unit_split (x := 1 + L) (y := 1074 - L) (by omega), Nat.pow_add, Nat.pow_one, Nat.mul_assoc]
    -- all over 2^L
    obtain ⟨z, hz⟩ : ∃ z, z = 2 ^ (1074 - L) := ⟨_, rfl⟩
    have hpL : 0 < 2 ^ L := Nat.two_pow_pos _
    have u1 : (2 * c - 1) * q ≤ 2 * (n * z) := by
      refine Nat.le_of_mul_le_mul_left (c := 2 ^ L) ?_ hpL
      have : (2 * c - 1) * 2 ^ L ≤ V (L * 4503599627370496 + c - 1) + V (L * 4503599627370496 + c) := by
        rw [hvr]
        have : (2 * c - 1) * 2 ^ L = (c - 1) * 2 ^ L + c * 2 ^ L := by rw [← Nat.add_mul, show c - 1 + c = 2 * c - 1 by omega]
        omega
      have := Nat.mul_le_mul_right q this
      have e1 : 2 ^ L * ((2 * c - 1) * q) = (2 * c - 1) * 2 ^ L * q := by ac_rfl
      have e2 : 2 ^ L * (2 * (n * z)) = n * unit := by rw [hu, ← hz]; ac_rfl
      omega
    have u2 : 2 * (n * z) ≤ (2 * c + 1) * q := by
      refine Nat.le_of_mul_le_mul_left (c := 2 ^ L) ?_ hpL
      have : V (L * 4503599627370496 + c) + V (L * 4503599627370496 + c + 1) ≤ (2 * c + 1) * 2 ^ L := by
        rw [hvr]
        have : (2 * c + 1) * 2 ^ L = c * 2 ^ L + (c + 1) * 2 ^ L := by rw [← Nat.add_mul, show c + (c + 1) = 2 * c + 1 by omega]
        omega
      have := Nat.mul_le_mul_right q this
      have e1 : 2 ^ L * ((2 * c + 1) * q) = (2 * c + 1) * 2 ^ L * q := by ac_rfl
      have e2 : 2 ^ L * (2 * (n * z)) = n * unit := by rw [hu, ← hz]; ac_rfl
      omega
    -- times 2^b: n 2^(s+t) against M
    have hzb : z * 2 ^ b = 2 ^ t * 2 ^ s := by rw [hz, ← Nat.pow_add, ← Nat.pow_add, show 1074 - L + b = t + s by omega]
    have w1 : 2 * M ≤ 2 * (2 ^ t * (n * 2 ^ s)) + B := by
      have := Nat.mul_le_mul_right (2 ^ b) u1
      have e1 : (2 * c - 1) * q * 2 ^ b + B = 2 * M := by
        rw [Nat.mul_assoc, hB, ← hM]
        have : (2 * c - 1) * B + B = (2 * c - 1 + 1) * B := by rw [Nat.add_mul, Nat.one_mul]
        rw [this, show 2 * c - 1 + 1 = 2 * c by omega, Nat.mul_assoc]
      have e2 : 2 * (n * z) * 2 ^ b = 2 * (2 ^ t * (n * 2 ^ s)) := by
        rw [Nat.mul_assoc, Nat.mul_assoc, hzb]; ac_rfl
      omega
    have w2 : 2 * (2 ^ t * (n * 2 ^ s)) ≤ 2 * M + B := by
      have := Nat.mul_le_mul_right (2 ^ b) u2
      have e1 : (2 * c + 1) * q * 2 ^ b = 2 * M + B := by
        rw [Nat.mul_assoc, hB, ← hM, Nat.add_mul, Nat.one_mul, Nat.mul_assoc]
      have e2 : 2 * (n * z) * 2 ^ b = 2 * (2 ^ t * (n * 2 ^ s)) := by
        rw [Nat.mul_assoc, Nat.mul_assoc, hzb]; ac_rfl
      omega
    have hB52 : B < 2 * 2 ^ t := by
      have : (2 : Nat) ^ 52 ≤ 2 ^ t := Nat.pow_le_pow_right (by omega) (by omega)
      have e52 : (2 : Nat) ^ 52 = 4503599627370496 := by decide
      omega
    have k1 : cc ≤ n * 2 ^ s + 1 := by
      have : 2 ^ t * cc < 2 ^ t * (n * 2 ^ s + 2) := by
        rw [Nat.mul_add]; omega
      have := Nat.lt_of_mul_lt_mul_left this
      omega
    have k2 : n * 2 ^ s ≤ cc + 1 := by
      have : 2 ^ t * (n * 2 ^ s) < 2 ^ t * (cc + 2) := by
        rw [Nat.mul_add]; omega
      have := Nat.lt_of_mul_lt_mul_left this
      omega
    have hps : 0 < 2 ^ s := Nat.two_pow_pos _
    constructor
    · have : cc / 2 ^ s < n + 2 := by
        rw [Nat.div_lt_iff_lt_mul hps, Nat.add_mul]
        omega
      omega
    · rcases Nat.lt_or_ge (cc / 2 ^ s) (n - 1) with h | h
      · exfalso
        have hn0 : 0 < n - 1 := Nat.lt_of_le_of_lt (Nat.zero_le _) h
        have hn1 : 1 ≤ n := by omega
        rw [Nat.div_lt_iff_lt_mul hps] at h
        have e : n * 2 ^ s = (n - 1) * 2 ^ s + 2 ^ s := by
          have : (n - 1 + 1) * 2 ^ s = (n - 1) * 2 ^ s + 2 ^ s := Nat.succ_mul _ _
          rw [show n - 1 + 1 = n by omega] at this
          exact this
        omega
      · omega
end Fp
end Go.Proofs.YtclmnkilfijeaaaDoor
