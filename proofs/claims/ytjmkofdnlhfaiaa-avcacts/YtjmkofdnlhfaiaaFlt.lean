import Derived.Test.YtjmkofdnlhfaiaaFpC
set_option linter.unusedVariables false
set_option linter.unusedSimpArgs false
namespace Go.Proofs.Ytjmkofdnlhfaiaa
namespace Fp
theorem d_sign : Ieee.double.signWeight = 9223372036854775808 := by decide
theorem d_bin : Ieee.double.binade = 4503599627370496 := by decide
theorem d_inf : Ieee.double.infRung = 9218868437227405312 := by decide
theorem d_least : Ieee.double.leastPlace = -1074 := by decide
theorem read_low {r : Nat} (h : r < 4503599627370496) : Ieee.double.read r = .number false r (-1074) := by
  unfold Ieee.Format.read
  simp only [d_sign, d_bin, d_inf, d_least]
  rw [show r / 9223372036854775808 % 2 = 0 by omega, show r % 9223372036854775808 = r by omega, if_pos h]
  rfl
theorem read_mk {L c : Nat} (h1 : 4503599627370496 ≤ c) (h2 : c < 9007199254740992) (hL : L ≤ 2045) : Ieee.double.read (L * 4503599627370496 + c) = .number false c ((L : Int) - 1074) := by
  unfold Ieee.Format.read
  simp only [d_sign, d_bin, d_inf, d_least]
  rw [show (L * 4503599627370496 + c) / 9223372036854775808 % 2 = 0 by omega, show (L * 4503599627370496 + c) % 9223372036854775808 = L * 4503599627370496 + c by omega, if_neg (by omega), if_pos (by omega)]
  rw [show (L * 4503599627370496 + c) % 4503599627370496 = c - 4503599627370496 by omega, show (L * 4503599627370496 + c) / 4503599627370496 - 1 = L by omega, show 4503599627370496 + (c - 4503599627370496) = c by omega, show (-1074 : Int) + (L : Nat) = L - 1074 by omega]
  rfl
/-- a rung below infinity: its number -/
theorem read_rung {r : Nat} (h : r < 9218868437227405312) : ∃ m e : Nat, Ieee.double.read r = .number false m ((e : Int) - 1074) ∧ V r = m * 2 ^ e := by
  by_cases h0 : r < 4503599627370496
  · refine ⟨r, 0, ?_, ?_⟩
    · rw [read_low h0]; rfl
    · unfold V; rw [if_pos h0]; simp
  · obtain ⟨L, c, rfl, h1, h2⟩ : ∃ L c, r = L * 4503599627370496 + c ∧ 4503599627370496 ≤ c ∧ c < 9007199254740992 := ⟨r / 4503599627370496 - 1, 4503599627370496 + r % 4503599627370496, by omega, by omega, by omega⟩
    exact ⟨c, L, read_mk h1 h2 (by omega), V_mk L c h1 (by omega)⟩
theorem cmp_scale (a b c : Nat) (h : 0 < c) : compare (a * c) (b * c) = compare a b := by
  rcases Nat.lt_trichotomy a b with k | k | k
  · rw [Nat.compare_eq_lt.2 k, Nat.compare_eq_lt.2 (Nat.mul_lt_mul_of_pos_right k h)]
  · subst k; rw [Nat.compare_eq_eq.2 rfl, Nat.compare_eq_eq.2 rfl]
  · rw [Nat.compare_eq_gt.2 k, Nat.compare_eq_gt.2 (Nat.mul_lt_mul_of_pos_right k h)]
theorem cmp_int (a b : Nat) : compare (a : Int) (b : Int) = compare a b := by
  rcases Nat.lt_trichotomy a b with k | k | k
  · rw [Nat.compare_eq_lt.2 k, Int.compare_eq_lt.2 (by omega)]
  · subst k; rw [Nat.compare_eq_eq.2 rfl, Int.compare_eq_eq.2 rfl]
  · rw [Nat.compare_eq_gt.2 k, Int.compare_eq_gt.2 (by omega)]
theorem cmp_V (a b : Nat) : compare (V a) (V b) = compare a b := by
  rcases Nat.lt_trichotomy a b with k | k | k
  · rw [Nat.compare_eq_lt.2 k, Nat.compare_eq_lt.2 (V_mono k)]
  · subst k; rw [Nat.compare_eq_eq.2 rfl, Nat.compare_eq_eq.2 rfl]
  · rw [Nat.compare_eq_gt.2 k, Nat.compare_eq_gt.2 (V_mono k)]
/-- floats that are no less than 0 lie as their rungs do -/
theorem order_rung {a b : Nat} (ha : a < 9218868437227405312) (hb : b < 9218868437227405312) : Ieee.double.order a b = some (compare a b) := by
  obtain ⟨m, e, r1, v1⟩ := read_rung ha
  obtain ⟨n, f, r2, v2⟩ := read_rung hb
  unfold Ieee.Format.order
  rw [r1, r2]
  unfold Ieee.Datum.order Ieee.signed
  simp only [Bool.false_eq_true, if_false]
  rw [cmp_int, Nat.shiftLeft_eq, Nat.shiftLeft_eq, ← cmp_V a b, v1, v2]
  have hc : 0 < 2 ^ (min e f) := Nat.two_pow_pos _
  rw [show (((e : Int) - 1074) - min ((e : Int) - 1074) ((f : Int) - 1074)).toNat = e - min e f by omega, show (((f : Int) - 1074) - min ((e : Int) - 1074) ((f : Int) - 1074)).toNat = f - min e f by omega]
  rw [← cmp_scale (m * 2 ^ (e - min e f)) _ _ hc, Nat.mul_assoc, Nat.mul_assoc, ← Nat.pow_add, ← Nat.pow_add, show e - min e f + min e f = e by omega, show f - min e f + min e f = f by omega]

def one : Nat := 4607182418800017408
theorem V_one {e : Nat} (he : e = 1021) : V one = 9007199254740992 * 2 ^ e := by
  rw [show one = e * 4503599627370496 + 9007199254740992 by rw [he]; rfl, V_mk e _ (by omega) (by omega)]
theorem V_low {e : Nat} (he : e = 1021) : V (one - 1) = 9007199254740991 * 2 ^ e := by
  rw [show one - 1 = e * 4503599627370496 + 9007199254740991 by rw [he]; rfl, V_mk e _ (by omega) (by omega)]
theorem V_high {e : Nat} (he : e = 1021) : V (one + 1) = 9007199254740994 * 2 ^ e := by
  rw [show one + 1 = (e + 1) * 4503599627370496 + 4503599627370497 by rw [he]; rfl, V_mk (e + 1) _ (by omega) (by omega), Nat.pow_succ]
  generalize 2 ^ e = z
  omega
theorem unit_at {e : Nat} (he : e = 1021) : unit = 18014398509481984 * 2 ^ e := by
  rw [unit_split (x := 54) (y := e) (by omega), show (2 : Nat) ^ 54 = 18014398509481984 by decide]
theorem arith1 {A z n q : Nat} (hz : 0 < z) (hq : q < 9007199254740992) (hn : n < q) (hA : 18014398509481983 * z ≤ A) (h : A * q ≤ n * (18014398509481984 * z)) : False := by
  have h1 : 18014398509481983 * z * q ≤ n * (18014398509481984 * z) := Nat.le_trans (Nat.mul_le_mul_right _ hA) h
  have h2 : (18014398509481983 * q) * z ≤ (n * 18014398509481984) * z := by
    rw [Nat.mul_right_comm, Nat.mul_assoc n]; exact h1
  have h3 := Nat.le_of_mul_le_mul_right h2 hz
  omega
/-- of a true fraction the float lies below one -/
theorem near_frac {r n q : Nat} (h : Near r n q) (hn : n < q) (hq : q < 9007199254740992) : r < one := by
  rcases Nat.lt_or_ge r one with k | k
  · exact k
  · exfalso
    have h1 := h.1
    have a1 : V one ≤ V r := V_le k
    have a2 : V (one - 1) ≤ V (r - 1) := V_le (by omega)
    obtain ⟨e, he⟩ : ∃ e, e = 1021 := ⟨_, rfl⟩
    rw [V_low he] at a2
    rw [V_one he] at a1
    rw [unit_at he] at h1
    refine arith1 (Nat.two_pow_pos e) hq hn ?_ h1
    generalize 2 ^ e = z at *
    omega
theorem arith2 {n z : Nat} : (9007199254740991 * z + 9007199254740992 * z) * n ≤ n * (18014398509481984 * z) ∧ n * (18014398509481984 * z) ≤ (9007199254740992 * z + 9007199254740994 * z) * n := by
  rw [Nat.mul_comm n (18014398509481984 * z)]
  exact ⟨Nat.mul_le_mul_right _ (by omega), Nat.mul_le_mul_right _ (by omega)⟩
theorem near_whole (n : Nat) : Near one n n := by
  obtain ⟨e, he⟩ : ∃ e, e = 1021 := ⟨_, rfl⟩
  unfold Near
  rw [V_low he, V_one he, V_high he, unit_at he]
  have := arith2 (n := n) (z := 2 ^ e)
  exact ⟨this.1, this.2, fun q => absurd q (by decide)⟩
theorem near_zero {n q : Nat} (h : Near 0 n q) (h0 : 0 < n) (hq : q < 9007199254740992) : False := by
  have h1 := h.2.1
  rw [show V 0 = 0 from rfl, show V (0 + 1) = 1 from rfl] at h1
  have : unit ≤ n * unit := Nat.le_mul_of_pos_left _ h0
  have h2 : (9007199254740992 : Nat) ≤ unit := by
    obtain ⟨e, he⟩ : ∃ e, e = 1022 := ⟨_, rfl⟩
    rw [unit_split (x := 53) (y := e) (by omega), show (2 : Nat) ^ 53 = 9007199254740992 by decide]
    exact Nat.le_mul_of_pos_right _ (Nat.two_pow_pos _)
  omega
theorem nearest_0 : FloatKind.f64.nearest ((0 : Nat) : Int) = 0 := by decide
/-- a ratio of counts -/
theorem div_zero {q : Nat} (hq0 : 0 < q) (hq : q < 9007199254740992) : Ieee.double.div (FloatKind.f64.nearest ((0 : Nat) : Int)) (FloatKind.f64.nearest (q : Int)) = some 0 := by
  obtain ⟨b, hb, b1, b2, _, rb⟩ := read_nat hq0 hq
  unfold Ieee.Format.div
  rw [rb, nearest_0, show Ieee.double.read 0 = .number false 0 (-1074) from by rw [read_low (by omega)]]
  unfold Ieee.Datum.quotient
  simp only
  rw [if_neg (by omega)]
  simp only [Nat.zero_shiftLeft, Nat.zero_div, Nat.zero_mod, Option.map_some]
  rfl
theorem div_mid {n q : Nat} (h0 : 0 < n) (hn : n < q) (hq : q < 9007199254740992) : ∃ r, Ieee.double.div (FloatKind.f64.nearest (n : Int)) (FloatKind.f64.nearest (q : Int)) = some r ∧ 0 < r ∧ r < one := by
  obtain ⟨r, h1, h2⟩ := div_near h0 (by omega) (show 0 < q by omega) hq
  refine ⟨r, h1, ?_, near_frac h2 hn hq⟩
  rcases Nat.eq_zero_or_pos r with e | e
  · subst e; exact (near_zero h2 h0 hq).elim
  · exact e
theorem div_same {n : Nat} (h0 : 0 < n) (hn : n < 9007199254740992) : Ieee.double.div (FloatKind.f64.nearest (n : Int)) (FloatKind.f64.nearest (n : Int)) = some one := by
  obtain ⟨r, h1, h2⟩ := div_near h0 hn h0 hn
  rw [h1, near_one h2 (near_whole n) h0]
/-- the nearest of a whole number, scaled -/
theorem nearest_scale {m p : Nat} (h0 : 0 < m) (hm : m < 9007199254740992) (h1 : 52 ≤ m.log2 + p) (hp : p ≤ 1074) : Ieee.double.nearest false (m * 2 ^ p) (-(p : Int)) = FloatKind.f64.nearest (m : Int) := by
  have hl : m.log2 ≤ 52 := by
    have := (Nat.log2_lt (by omega : m ≠ 0) (k := 53)).2 (by omega)
    omega
  have hs := Nat.log2_self_le (by omega : m ≠ 0)
  have hs2 := Nat.lt_log2_self (n := m)
  have hlp : (m * 2 ^ p).log2 = m.log2 + p := log2_eq (by rw [Nat.pow_add]; exact Nat.mul_le_mul_right _ hs) (by rw [show m.log2 + p + 1 = m.log2 + 1 + p by omega, Nat.pow_add]; exact Nat.mul_lt_mul_of_pos_right hs2 (Nat.two_pow_pos _))
  obtain ⟨t, ht⟩ : ∃ t, m.log2 + p = t + 52 := ⟨m.log2 + p - 52, by omega⟩
  obtain ⟨a, ha, a1, a2, he, _⟩ := read_nat h0 hm
  have ea : a = 52 - m.log2 := by
    have q := log52 a1 a2
    have : (m * 2 ^ a).log2 = m.log2 + a := log2_eq (by rw [Nat.pow_add]; exact Nat.mul_le_mul_right _ hs) (by rw [show m.log2 + a + 1 = m.log2 + 1 + a by omega, Nat.pow_add]; exact Nat.mul_lt_mul_of_pos_right hs2 (Nat.two_pow_pos _))
    omega
  have ep : p = a + t := by omega
  have hcut : Ieee.Toward.even.cut false (m * 2 ^ p) t = m * 2 ^ a := by
    rw [cut_even _ _ (by omega), ep, Nat.pow_add, ← Nat.mul_assoc, Nat.mul_mod_left, Nat.mul_div_cancel _ (Nat.two_pow_pos t), if_neg]
    · rfl
    · have := Nat.two_pow_pos t
      omega
  rw [nearest_rung (t := t) (by rw [hlp, ht]) (by have := Nat.mul_pos h0 (Nat.two_pow_pos p); omega) (by omega) (by omega) (m * 2 ^ a) hcut.symm (by omega), he]
  rw [show (-(p : Int) + t + 1074).toNat = 1074 - a by omega]
theorem sum_nums {m n i j : Nat} : Ieee.Datum.sum (.number false m (-(i : Int))) (.number false n (-(j : Int))) = some (.number false (m * 2 ^ (max i j - i) + n * 2 ^ (max i j - j)) (-((max i j : Nat) : Int))) := by
  unfold Ieee.Datum.sum Ieee.signed
  simp only [Bool.false_eq_true, if_false, Nat.shiftLeft_eq]
  rw [show min (-(i : Int)) (-(j : Int)) = -((max i j : Nat) : Int) by omega]
  rw [show (-(i : Int) - -((max i j : Nat) : Int)).toNat = max i j - i by omega, show (-(j : Int) - -((max i j : Nat) : Int)).toNat = max i j - j by omega]
  generalize m * 2 ^ (max i j - i) = A
  generalize n * 2 ^ (max i j - j) = B
  congr 2
  · by_cases e : ((A : Nat) : Int) + ((B : Nat) : Int) = 0
    · rw [if_pos e]; rfl
    · rw [if_neg e]; exact decide_eq_false (by omega)
/-- a sum of whole numbers is exact -/
theorem add_nat {a b : Nat} (h : a + b < 9007199254740992) : Ieee.double.add (FloatKind.f64.nearest (a : Int)) (FloatKind.f64.nearest (b : Int)) = some (FloatKind.f64.nearest ((a + b : Nat) : Int)) := by
  have key : ∀ a : Nat, a < 9007199254740992 → ∃ i m : Nat, i ≤ 1074 ∧ Ieee.double.read (FloatKind.f64.nearest (a : Int)) = .number false m (-(i : Int)) ∧ m = a * 2 ^ i ∧ (0 < a → 52 ≤ a.log2 + i) := by
    intro a ha
    rcases Nat.eq_zero_or_pos a with e | e
    · subst e
      obtain ⟨e, he⟩ : ∃ e : Nat, e = 1074 := ⟨_, rfl⟩
      refine ⟨e, 0, by omega, ?_, (Nat.zero_mul _).symm, fun q => by omega⟩
      rw [nearest_0, read_low (by omega), he]
      rfl
    · obtain ⟨i, hi, i1, i2, _, ri⟩ := read_nat e ha
      refine ⟨i, a * 2 ^ i, by omega, ri, rfl, fun _ => ?_⟩
      have hs2 := Nat.lt_log2_self (n := a)
      have q := log52 i1 i2
      have hs := Nat.log2_self_le (by omega : a ≠ 0)
      have : (a * 2 ^ i).log2 = a.log2 + i := log2_eq (by rw [Nat.pow_add]; exact Nat.mul_le_mul_right _ hs) (by rw [show a.log2 + i + 1 = a.log2 + 1 + i by omega, Nat.pow_add]; exact Nat.mul_lt_mul_of_pos_right hs2 (Nat.two_pow_pos _))
      omega
  obtain ⟨i, m, hi, ri, rfl, li⟩ := key a (by omega)
  obtain ⟨j, n, hj, rj, rfl, lj⟩ := key b (by omega)
  unfold Ieee.Format.add
  rw [ri, rj, sum_nums, Option.map_some]
  have e1 : a * 2 ^ i * 2 ^ (max i j - i) + b * 2 ^ j * 2 ^ (max i j - j) = (a + b) * 2 ^ (max i j) := by
    rw [Nat.mul_assoc, Nat.mul_assoc, ← Nat.pow_add, ← Nat.pow_add, show i + (max i j - i) = max i j by omega, show j + (max i j - j) = max i j by omega, Nat.add_mul]
  rw [e1]
  show some (Ieee.double.nearest false ((a + b) * 2 ^ max i j) (-((max i j : Nat) : Int))) = _
  rcases Nat.eq_zero_or_pos (a + b) with e | e
  · rw [e, Nat.zero_mul, nearest_0]
    unfold Ieee.Format.nearest
    rw [if_pos rfl]
    rfl
  · have hmono : ∀ x y : Nat, 0 < x → x ≤ y → x.log2 ≤ y.log2 := fun x y hx hy => (Nat.le_log2 (by omega)).2 (Nat.le_trans (Nat.log2_self_le (by omega)) hy)
    rw [nearest_scale e h ?_ (by omega)]
    rcases Nat.eq_zero_or_pos a with ea | ea
    · have := lj (by omega)
      have := hmono b (a + b) (by omega) (by omega)
      omega
    · have := li ea
      have := hmono a (a + b) ea (by omega)
      omega
end Fp
end Go.Proofs.Ytjmkofdnlhfaiaa
