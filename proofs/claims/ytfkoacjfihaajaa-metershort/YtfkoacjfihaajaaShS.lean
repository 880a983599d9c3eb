import Derived.Test.YtfkoacjfihaajaaShR
set_option linter.unusedVariables false
set_option linter.unusedSimpArgs false
namespace Go.Proofs.Ytfkoacjfihaajaa
open Go.RowKit
namespace N
open Fl M
/-- the whole part of a float that is no less than 0 -/
theorem toInt_fin {q z : Nat} (h : Fin q (z : Int)) : (FloatKind.f64.decode q).toInt .zero = some ((z / Q : Nat) : Int) := by
  obtain ⟨s, m, e, h1, h2, _⟩ := h.read
  obtain ⟨E, hE⟩ : ∃ E : Nat, E = 1074 := ⟨_, rfl⟩
  have hz : z = m * 2 ^ e := by
    have := congrArg Int.natAbs h2
    rw [sg_abs, Int.natAbs_natCast] at this
    exact this
  show (Ieee.double.read q).toInt .zero = _
  rw [h1]
  unfold Ieee.Datum.toInt Ieee.Datum.integral
  simp only
  have hc : Ieee.Toward.zero.cut s (m <<< (-1074 + (e : Nat) : Int).toNat) (-(-1074 + (e : Nat) : Int)).toNat = z / Q := by
    unfold Ieee.Toward.cut
    simp only [Nat.one_shiftLeft, Bool.toNat_false, Nat.add_zero]
    rw [Nat.shiftLeft_eq, hz, Q_def hE]
    rcases Nat.lt_or_ge e E with g | g
    · rw [show (-1074 + (e : Nat) : Int).toNat = 0 by omega, Nat.pow_zero, Nat.mul_one]
      obtain ⟨d, hd⟩ : ∃ d, E = d + e := ⟨E - e, by omega⟩
      rw [show (-(-1074 + (e : Nat) : Int)).toNat = d by omega, hd, Nat.pow_add, Nat.mul_div_mul_right _ _ (Nat.two_pow_pos e)]
      rcases Nat.le_total d (m.log2 + 2) with y | y
      · rw [Nat.min_eq_left y]
      · rw [Nat.min_eq_right y]
        have a1 : m < 2 ^ (m.log2 + 2) := Nat.lt_trans Nat.lt_log2_self (Nat.pow_lt_pow_right (by omega) (by omega))
        have a2 : m < 2 ^ d := Nat.lt_of_lt_of_le a1 (Nat.pow_le_pow_right (by omega) y)
        rw [Nat.div_eq_of_lt a1, Nat.div_eq_of_lt a2]
    · obtain ⟨d, hd⟩ : ∃ d, e = d + E := ⟨e - E, by omega⟩
      rw [show (-1074 + (e : Nat) : Int).toNat = d by omega, show (-(-1074 + (e : Nat) : Int)).toNat = 0 by omega, Nat.zero_min, Nat.pow_zero, Nat.div_one, hd, Nat.pow_add, ← Nat.mul_assoc, Nat.mul_div_cancel _ (Nat.two_pow_pos E)]
  rw [hc]
  congr 1
  unfold Ieee.signed
  rw [Nat.shiftLeft_zero]
  cases s
  · rfl
  · have h0 : z = 0 := by
      rw [← hz] at h2
      simp [sg] at h2
      omega
    rw [h0, Nat.zero_div]; rfl
theorem Bd_exp2 {m k e : Nat} (he : e = 1177) (h : m * 2 ^ k < Bd e) (hm : m ≠ 0) : k ≤ 1202 := by
  unfold Bd at h
  have h0 : 33554431 * 2 ^ e < 2 ^ 25 * 2 ^ e := Nat.mul_lt_mul_of_pos_right (by decide) (Nat.two_pow_pos _)
  rw [← Nat.pow_add] at h0
  have h1 : 2 ^ k ≤ m * 2 ^ k := Nat.le_mul_of_pos_left _ (by omega)
  have h2 : 2 ^ k < 2 ^ (25 + e) := by omega
  have := (Nat.pow_lt_pow_iff_right (by omega : 1 < 2)).1 h2
  omega
/-- the numbers of the search's end: g is the unit, S the size -/
structure En (S k g z U : Nat) : Prop where
  hz : S * Q = z * g
  rz : Rep z
  hU : U = S / g
  rr : Rep (z - U * Q)
  le : U * Q ≤ z
  un : U ≤ 16777216
theorem en_of {x : Nat} {S k g e : Nat} (he : e = 1177) (hx : Fin x (S : Int)) (hb : S < Bd e) (hg : ∀ K, K = 925 + k → g = 2 ^ K) (hk : k ≤ 253) (hk0 : k = 0 ∨ ∀ K, K = 948 + k → 2 ^ K ≤ S) (hk1 : ∀ K, K = 949 + k → S < 2 ^ K) : ∃ z, En S k g z (S / g) := by
  obtain ⟨s, m, p, rx, hv, hm⟩ := hx.read
  have hS : S = m * 2 ^ p := by
    have := congrArg Int.natAbs hv
    rw [sg_abs, Int.natAbs_natCast] at this
    exact this
  obtain ⟨G, hG⟩ : ∃ G, G = 925 + k := ⟨_, rfl⟩
  have hgG := hg G hG
  have hgp : 0 < g := by rw [hgG]; exact Nat.two_pow_pos _
  obtain ⟨E, hE⟩ : ∃ E : Nat, E = 1074 := ⟨_, rfl⟩
  have hQ := Q_def hE
  have hQp := Q_pos
  -- how many units, at most
  have hun : S / g ≤ 16777216 := by
    have h1 := hk1 (949 + k) rfl
    have : S < 16777217 * g := by
      rw [hgG]
      have : 2 ^ (949 + k) = 16777216 * 2 ^ G := by rw [show 949 + k = 24 + G by omega, Nat.pow_add]
      omega
    have := (Nat.div_lt_iff_lt_mul hgp).2 this
    omega
  rcases Nat.eq_zero_or_pos m with hm0 | hm0
  · have hS0 : S = 0 := by rw [hS, hm0, Nat.zero_mul]
    refine ⟨0, ⟨by rw [hS0, Nat.zero_mul, Nat.zero_mul], ⟨0, by omega, rfl⟩, rfl, ?_, ?_, hun⟩⟩
    · rw [Nat.zero_sub]; exact ⟨0, by omega, rfl⟩
    · rw [hS0, Nat.zero_div, Nat.zero_mul]; exact Nat.le_refl _
  · have hpe := Bd_exp2 he (by rw [← hS]; exact hb) (by omega)
    have hkp : k ≤ p + 149 := by
      rcases hk0 with q | q
      · omega
      · have h1 := q (948 + k) rfl
        rw [hS] at h1
        have h2 : m * 2 ^ p < 2 ^ 53 * 2 ^ p := Nat.mul_lt_mul_of_pos_right (by rw [d_bin1]; exact hm) (Nat.two_pow_pos _)
        rw [← Nat.pow_add] at h2
        have h3 : 2 ^ (948 + k) < 2 ^ (53 + p) := by omega
        have := (Nat.pow_lt_pow_iff_right (by omega : 1 < 2)).1 h3
        omega
    obtain ⟨L, hL⟩ : ∃ L, p + 149 = L + k := ⟨p + 149 - k, by omega⟩
    have hzz : S * Q = m * 2 ^ L * g := by
      rw [hS, hQ, hgG, Nat.mul_assoc, Nat.mul_assoc, ← Nat.pow_add, ← Nat.pow_add, show p + E = L + G by omega]
    have hle : S / g * Q ≤ m * 2 ^ L := by
      have h1 : S / g * g ≤ S := Nat.div_mul_le_self _ _
      have h2 : S / g * Q * g ≤ m * 2 ^ L * g := by
        rw [← hzz, Nat.mul_right_comm]
        exact Nat.mul_le_mul_right _ h1
      exact Nat.le_of_mul_le_mul_right h2 hgp
    refine ⟨m * 2 ^ L, ⟨hzz, rep_mk hm (by omega), rfl, ?_, hle, hun⟩⟩
    rcases Nat.le_total L E with y | y
    · obtain ⟨d, hd⟩ : ∃ d, E = d + L := ⟨E - L, by omega⟩
      have e1 : S / g * Q = (S / g * 2 ^ d) * 2 ^ L := by rw [hQ, hd, Nat.pow_add, Nat.mul_assoc]
      rw [e1, ← Nat.sub_mul]
      exact rep_mk (by omega) (by omega)
    · obtain ⟨d, hd⟩ : ∃ d, L = d + E := ⟨L - E, by omega⟩
      have e1 : m * 2 ^ L = m * 2 ^ d * Q := by rw [hQ, hd, Nat.pow_add, Nat.mul_assoc]
      have e2 : S = m * 2 ^ d * g := by
        rw [e1, Nat.mul_right_comm] at hzz
        exact Nat.eq_of_mul_eq_mul_right hQp hzz
      have e3 : S / g = m * 2 ^ d := by rw [e2, Nat.mul_div_cancel _ hgp]
      rw [e3, e1, Nat.sub_self]
      exact ⟨0, by omega, rfl⟩
/-- how the rest stands to the half -/
theorem En.rest {S k g z U H : Nat} (h : En S k g z U) (hg : 0 < g) (hH : Q = 2 * H) : (H < z - U * Q ↔ g < 2 * (S % g)) ∧ (z - U * Q = H ↔ g = 2 * (S % g)) := by
  have hQp := Q_pos
  have hd : (z - U * Q) * g = S % g * Q := by
    have hm : S - S / g * g = S % g := by
      have := Nat.div_add_mod S g
      rw [Nat.mul_comm] at this
      omega
    rw [Nat.sub_mul, ← h.hz, h.hU, Nat.mul_right_comm, ← Nat.sub_mul, hm]
  generalize z - U * Q = R at *
  generalize S % g = M at *
  have key : 2 * R * g = 2 * M * Q := by rw [Nat.mul_assoc, hd, Nat.mul_assoc]
  constructor
  · constructor
    · intro q
      have : Q * g < 2 * R * g := Nat.mul_lt_mul_of_pos_right (by omega) hg
      rw [key, Nat.mul_comm Q] at this
      exact Nat.lt_of_mul_lt_mul_right this
    · intro q
      have : g * Q < 2 * M * Q := Nat.mul_lt_mul_of_pos_right q hQp
      rw [← key, Nat.mul_comm g] at this
      have := Nat.lt_of_mul_lt_mul_right this
      omega
  · constructor
    · intro q
      have : 2 * R * g = Q * g := by rw [q, ← hH]
      rw [key, Nat.mul_comm Q] at this
      exact (Nat.eq_of_mul_eq_mul_right hQp this).symm
    · intro q
      have : 2 * M * Q = g * Q := by rw [← q]
      rw [← key, Nat.mul_comm g] at this
      have := Nat.eq_of_mul_eq_mul_right hg this
      omega
/-- a power that is passed or not -/
theorem log_end {S k D : Nat} (hD : D = 925) (hk0 : k = 0 ∨ ∀ K, K = 948 + k → 2 ^ K ≤ S) (hk1 : ∀ K, K = 949 + k → S < 2 ^ K) : S.log2 - 23 - D = k := by
  have h1 := hk1 (949 + k) rfl
  rcases hk0 with q | q
  · subst q
    rcases Nat.eq_zero_or_pos S with z | z
    · subst z; simp
    · have := (Nat.log2_lt (by omega : S ≠ 0) (k := 949 + 0)).2 h1
      omega
  · have := log2_eq (q (948 + k) rfl) (by rw [show 948 + k + 1 = 949 + k by omega]; exact h1)
    omega
theorem half_fin {H : Nat} (hH : Q = 2 * H) : Fin 4602678819172646912 (H : Int) := by
  have h1 := V_hv (r := 4607182418800017408) (by omega)
  obtain ⟨E, hE⟩ : ∃ E : Nat, E = 1074 := ⟨_, rfl⟩
  rw [V_one hE, Nat.one_mul, ← Q_def hE, hH, show hv 4607182418800017408 = 4602678819172646912 by decide] at h1
  have := fin_pos (r := 4602678819172646912) (by omega)
  rw [show V 52 4602678819172646912 = H by omega] at this
  exact this
end N
end Go.Proofs.Ytfkoacjfihaajaa
