import Derived.Test.YtfkoacjfihaajaaAlP
import Derived.Test.YtfkoacjfihaajaaHaW
import Derived.Test.YtfkoacjfihaajaaCoA
set_option linter.unusedVariables false
set_option linter.unusedSimpArgs false
namespace Go.Proofs.Ytfkoacjfihaajaa
open Go.RowKit
namespace N
open Fl M
theorem s_inf : Ieee.single.infRung = 2139095040 := by decide
theorem s_least : Ieee.single.leastPlace = -149 := by decide
theorem s_frac : Ieee.single.fractionBits = 23 := rfl
/-- what a float32 is worth, in units of 2^-1074 -/
def vs (D r : Nat) : Nat := V 23 r * 2 ^ D
/-- the greatest that has a float32 beside it, in units -/
def Bd (e : Nat) : Nat := 33554431 * 2 ^ e
theorem rn_short {v e D : Nat} (hD : D = 925) (he : e = 1177) (h : v < Bd e) : rn 23 D v < 2139095040 := by
  unfold rn
  obtain ⟨t, ht⟩ : ∃ t, t = v.log2 - 23 - D := ⟨_, rfl⟩
  rw [← ht]
  have h2 : v < 2 ^ (e + 25) := Nat.lt_trans h (by unfold Bd; rw [Nat.pow_add, Nat.mul_comm]; exact Nat.mul_lt_mul_of_pos_left (by decide) (Nat.two_pow_pos _))
  have hlog : v.log2 ≤ 1201 := by
    rcases Nat.eq_zero_or_pos v with q | q
    · subst q; simp
    · have := (Nat.log2_lt (by omega : v ≠ 0) (k := e + 25)).2 h2
      omega
  have hc := (cut_bounds (F := 23) (D := D) ht).1
  rw [show (2 : Nat) ^ (23 + 1) = 16777216 by decide] at hc
  rw [show (2 : Nat) ^ 23 = 8388608 by decide]
  by_cases hz : t ≤ 252
  · have : t * 8388608 ≤ 252 * 8388608 := Nat.mul_le_mul_right _ hz
    omega
  · obtain rfl : t = 253 := by omega
    have hh := (cut_half v (253 + D)).1
    obtain ⟨g, hg⟩ : ∃ g, g = 2 ^ e := ⟨_, rfl⟩
    have hg2 : 2 ^ (253 + D) = 2 * g := by rw [hg, show 253 + D = e + 1 by omega, Nat.pow_succ, Nat.mul_comm]
    rw [hg2] at hh
    unfold Bd at h
    rw [← hg] at h
    have hgp : 0 < g := by rw [hg]; exact Nat.two_pow_pos _
    have : cut v (253 + D) < 16777216 := by
      rcases Nat.lt_or_ge (cut v (253 + D)) 16777216 with q | q
      · exact q
      · exfalso
        have := Nat.mul_le_mul_right (2 * g) q
        omega
    omega
/-- what rounds to a float32, and is left over, is a float64 -/
theorem rest_rep {m e v D : Nat} (hm : m < 9007199254740992) (hv : v = m * 2 ^ e) (hb : m ≠ 0 → e ≤ 2045) : Rep ((vs D (rn 23 D v) - v) + (v - vs D (rn 23 D v))) := by
  have hnear := rn_near 23 D v 0
  rw [show V 23 0 = 0 from rfl, Nat.zero_mul, Nat.zero_sub, Nat.zero_add, Nat.sub_zero] at hnear
  have hV := V_rn 23 D v
  unfold vs
  rw [hV] at hnear ⊢
  obtain ⟨T, hT⟩ : ∃ T, T = v.log2 - 23 - D + D := ⟨_, rfl⟩
  rw [← hT] at hnear ⊢
  rcases Nat.lt_or_ge e T with q | q
  · obtain ⟨d, hd⟩ : ∃ d, T = d + e := ⟨T - e, by omega⟩
    have e1 : cut v T * 2 ^ T = (cut v T * 2 ^ d) * 2 ^ e := by rw [hd, Nat.pow_add, Nat.mul_assoc]
    rw [e1] at hnear ⊢
    generalize cut v T * 2 ^ d = C at *
    have hp := Nat.two_pow_pos e
    rw [hv] at hnear ⊢
    have e2 : (C * 2 ^ e - m * 2 ^ e) + (m * 2 ^ e - C * 2 ^ e) = ((C - m) + (m - C)) * 2 ^ e := by rw [Nat.add_mul, Nat.sub_mul, Nat.sub_mul]
    rw [e2] at hnear ⊢
    have hle : (C - m) + (m - C) ≤ m := Nat.le_of_mul_le_mul_right hnear hp
    rcases Nat.eq_zero_or_pos m with z | z
    · rw [show (C - m) + (m - C) = 0 by omega, Nat.zero_mul]
      exact ⟨0, by omega, rfl⟩
    · exact rep_mk (by omega) (hb (by omega))
  · obtain ⟨d, hd⟩ : ∃ d, e = d + T := ⟨e - T, by omega⟩
    have e1 : v = m * 2 ^ d * 2 ^ T := by rw [hv, hd, Nat.pow_add, Nat.mul_assoc]
    have e2 : cut v T * 2 ^ T = v := by
      conv => lhs; rw [e1]
      rw [cut_mul, ← e1]
    rw [e2, Nat.sub_self]
    exact ⟨0, by omega, rfl⟩
theorem vs_rep {r D : Nat} (hD : D = 925) (h : r < 2139095040) : Rep (vs D r) := by
  unfold vs
  rcases parts 23 r with q | ⟨L, c, rfl, h1, h2⟩
  · rw [V_low q]
    exact rep_mk (by rw [show (2 : Nat) ^ 23 = 8388608 by decide] at q; omega) (by omega)
  · rw [V_mk 23 L c h1 (by omega), Nat.mul_assoc, ← Nat.pow_add]
    rw [show (2 : Nat) ^ 23 = 8388608 by decide] at h h1
    rw [show (2 : Nat) ^ (23 + 1) = 16777216 by decide] at h2
    exact rep_mk (by omega) (by omega)
/-- a float32 made a float64 -/
theorem wide {s : Bool} {r D : Nat} (hD : D = 925) (h : r < 2139095040) : ∃ Y, floatToFloatBits .f32 (Ieee.single.word s r) .f64 = some Y ∧ Fin Y (sg s (vs D r)) := by
  obtain ⟨m, e, h1, h2, h3⟩ := read_word Ieee.single s (r := r) (by rw [s_inf]; exact h)
  rw [s_least] at h1
  rw [s_frac] at h2
  have hn : Ieee.double.nearest s m (-149 + (e : Nat)) = Ieee.double.word s (min (rn 52 0 (vs D r)) 9218868437227405312) := by
    rw [nearest_units Ieee.double s m (e + D) _ (-1074) 0 (by omega) (by rw [d_least]; rfl), d_inf, d_frac]
    unfold vs
    rw [← h2, Nat.pow_add, Nat.mul_assoc]
  have hf := word_rep (vs_rep hD h) 0 s
  rw [Nat.pow_zero, Nat.mul_one] at hf
  refine ⟨_, ?_, hf⟩
  unfold floatToFloatBits
  rw [if_neg (by decide)]
  have h1' : FloatKind.f32.decode (Ieee.single.word s r) = .number s m (-149 + (e : Nat)) := h1
  rw [h1']
  have hd : FloatKind.f64.encode (.number s m (-149 + (e : Nat))) = Ieee.double.word s (min (rn 52 0 (vs D r)) 9218868437227405312) := hn
  simp only [hd]
  obtain ⟨s', m', e', hr, _⟩ := hf.read
  have hr' : FloatKind.f64.decode (Ieee.double.word s (min (rn 52 0 (vs D r)) 9218868437227405312)) = .number s' m' (-1074 + (e' : Nat)) := hr
  rw [hr']
  rfl
/-- a float64 made a float32 -/
theorem narrow {x : Nat} {v : Int} {e D : Nat} (hD : D = 925) (he : e = 1177) (hx : Fin x v) (hb : v.natAbs < Bd e) : ∃ s, v = sg s v.natAbs ∧ floatToFloatBits .f64 x .f32 = some (Ieee.single.word s (rn 23 D v.natAbs)) := by
  obtain ⟨s, m, k, rx, hv, hm⟩ := hx.read
  have ha : v.natAbs = m * 2 ^ k := by rw [hv, sg_abs]
  refine ⟨s, by rw [ha]; exact hv, ?_⟩
  have hlt := rn_short hD he hb
  have hn : Ieee.single.nearest s m (-1074 + (k : Nat)) = Ieee.single.word s (rn 23 D v.natAbs) := by
    rw [nearest_units Ieee.single s m k _ (-1074) D rfl (by rw [s_least]; omega), s_inf, s_frac, ← ha, Nat.min_eq_left (by omega)]
  unfold floatToFloatBits
  rw [if_neg (by decide)]
  have h1' : FloatKind.f64.decode x = .number s m (-1074 + (k : Nat)) := rx
  rw [h1']
  have hd : FloatKind.f32.encode (.number s m (-1074 + (k : Nat))) = Ieee.single.word s (rn 23 D v.natAbs) := hn
  simp only [hd]
  obtain ⟨m', e', hr, _⟩ := read_word Ieee.single s (r := rn 23 D v.natAbs) (by rw [s_inf]; exact hlt)
  have hr' : FloatKind.f32.decode (Ieee.single.word s (rn 23 D v.natAbs)) = _ := hr
  rw [hr']
  rfl
theorem Bd_exp {m k e : Nat} (he : e = 1177) (h : m * 2 ^ k < Bd e) (hm : m ≠ 0) : k ≤ 2045 := by
  unfold Bd at h
  have h0 : 33554431 * 2 ^ e < 2 ^ 25 * 2 ^ e := Nat.mul_lt_mul_of_pos_right (by decide) (Nat.two_pow_pos _)
  rw [← Nat.pow_add] at h0
  have h1 : 2 ^ k ≤ m * 2 ^ k := Nat.le_mul_of_pos_left _ (by omega)
  have h2 : 2 ^ k < 2 ^ (25 + e) := by omega
  have := (Nat.pow_lt_pow_iff_right (by omega : 1 < 2)).1 h2
  omega
/-- what is left over of a float that has a float32 beside it -/
theorem left_over {x Y : Nat} {v : Int} {s : Bool} {e D : Nat} (hD : D = 925) (he : e = 1177) (hx : Fin x v) (hb : v.natAbs < Bd e) (hs : v = sg s v.natAbs) (hY : Fin Y (sg s (vs D (rn 23 D v.natAbs)))) : ∃ L, Ieee.double.sub x Y = some L ∧ Fin L (v - sg s (vs D (rn 23 D v.natAbs))) := by
  refine sub_ex hx hY ?_
  obtain ⟨s', m, k, rx, hv, hm⟩ := hx.read
  have ha : v.natAbs = m * 2 ^ k := by rw [hv, sg_abs]
  have := rest_rep (D := D) hm ha (fun q => Bd_exp he (by rw [← ha]; exact hb) q)
  generalize vs D (rn 23 D v.natAbs) = y at *
  have e1 : (v - sg s y).natAbs = (y - v.natAbs) + (v.natAbs - y) := by
    generalize v.natAbs = n at *
    rw [hs]
    cases s <;> simp [sg] <;> omega
  rw [e1]; exact this
end N
end Go.Proofs.Ytfkoacjfihaajaa
