import Derived.Test.YtfkoacjfihaajaaShP
set_option linter.unusedVariables false
set_option linter.unusedSimpArgs false
namespace Go.Proofs.Ytfkoacjfihaajaa
open Go.RowKit
namespace N
open Fl M
/-- every float64: a number, an infinity, or no number -/
theorem kinds {x : Nat} (hx : x < 18446744073709551616) : (∃ v, Fin x v) ∨ (∃ s, x = Ieee.double.word s 9218868437227405312) ∨ isn (Ieee.double.read x) = true := by
  obtain ⟨s, r, hr, rfl⟩ : ∃ s r, r < 9223372036854775808 ∧ x = Ieee.double.word s r := by
    by_cases h : x < 9223372036854775808
    · exact ⟨false, x, h, rfl⟩
    · exact ⟨true, x - 9223372036854775808, by omega, by show x = Ieee.double.signWeight + _; rw [d_sign]; omega⟩
  rcases Nat.lt_trichotomy r 9218868437227405312 with q | q | q
  · exact .inl ⟨_, fin_mk q⟩
  · subst q; exact .inr (.inl ⟨s, rfl⟩)
  · refine .inr (.inr ?_)
    have hs : Ieee.double.signWeight = 9223372036854775808 := by decide
    have hb : Ieee.double.binade = 4503599627370496 := by decide
    have e2 : (Ieee.double.word s r) % 9223372036854775808 = r := by
      cases s
      · show r % _ = r; omega
      · show (Ieee.double.signWeight + r) % _ = r; rw [hs]; omega
    unfold Ieee.Format.read
    simp only [hs, hb, d_inf, e2]
    rw [if_neg (by omega), if_neg (by omega), if_neg (by omega)]
    rfl
theorem s_sign : Ieee.single.signWeight = 2147483648 := by decide
/-- every float32 -/
theorem kinds32 {z : Nat} (hz : z < 4294967296) : (∃ s r, r < 2139095040 ∧ z = Ieee.single.word s r) ∨ (∃ s, z = Ieee.single.word s 2139095040) ∨ isn (Ieee.single.read z) = true := by
  obtain ⟨s, r, hr, rfl⟩ : ∃ s r, r < 2147483648 ∧ z = Ieee.single.word s r := by
    by_cases h : z < 2147483648
    · exact ⟨false, z, h, rfl⟩
    · exact ⟨true, z - 2147483648, by omega, by show z = Ieee.single.signWeight + _; rw [s_sign]; omega⟩
  rcases Nat.lt_trichotomy r 2139095040 with q | q | q
  · exact .inl ⟨s, r, q, rfl⟩
  · subst q; exact .inr (.inl ⟨s, rfl⟩)
  · refine .inr (.inr ?_)
    have hb : Ieee.single.binade = 8388608 := by decide
    have e2 : (Ieee.single.word s r) % 2147483648 = r := by
      cases s
      · show r % _ = r; omega
      · show (Ieee.single.signWeight + r) % _ = r; rw [s_sign]; omega
    unfold Ieee.Format.read
    simp only [s_sign, hb, s_inf, e2]
    rw [if_neg (by omega), if_neg (by omega), if_neg (by omega)]
    rfl
theorem bd_fin {e : Nat} (he : e = 1177) : Fin 5183643170835005440 ((Bd e : Nat) : Int) := by
  obtain ⟨L, hL⟩ : ∃ L : Nat, L = 1149 := ⟨_, rfl⟩
  have h1 : (5183643170835005440 : Nat) = L * 2 ^ 52 + 9007198986305536 := by rw [hL, d_bin]
  have h2 : V 52 5183643170835005440 = Bd e := by
    rw [h1, V_mk 52 L 9007198986305536 (by rw [d_bin]; omega) (by rw [show (2 : Nat) ^ (52 + 1) = 9007199254740992 by decide]; omega)]
    unfold Bd
    rw [show e = 28 + L by omega, Nat.pow_add, ← Nat.mul_assoc, show (33554431 : Nat) * 2 ^ 28 = 9007198986305536 by decide]
  have := fin_pos (r := 5183643170835005440) (by omega)
  rw [h2] at this
  exact this
theorem nbd_fin {e : Nat} (he : e = 1177) : Fin 14407015207689781248 (-((Bd e : Nat) : Int)) := by
  have := neg_fin (bd_fin he)
  rw [show Op.negFloat .f64 5183643170835005440 = 14407015207689781248 by decide +kernel] at this
  exact this
/-- x has no float32 beside it -/
def Out (x : Nat) : Prop := (FloatKind.f64.format.order 14407015207689781248 x == some .lt) = false ∨ ((FloatKind.f64.format.order 14407015207689781248 x == some .lt) = true ∧ (FloatKind.f64.format.order x 5183643170835005440 == some .lt) = false)
theorem out_nan {x : Nat} (h : isn (Ieee.double.read x) = true) : Out x := .inl (by rw [order_nan (.inr h)]; rfl)
theorem out_inf (s : Bool) : Out (Ieee.double.word s 9218868437227405312) := by
  cases s
  · exact .inr (by decide +kernel)
  · exact .inl (by decide +kernel)
theorem cmp_ge {a b : Int} (h : ¬ a < b) : (some (compare a b) == some Ordering.lt) = false := by
  rcases Int.lt_trichotomy a b with k | k | k
  · exact absurd k h
  · subst k; rw [Int.compare_eq_eq.2 rfl]; rfl
  · rw [Int.compare_eq_gt.2 k]; rfl
theorem out_fin {x : Nat} {v : Int} {e : Nat} (he : e = 1177) (hx : Fin x v) (h : Bd e ≤ v.natAbs) : Out x := by
  have o1 := order_fin (nbd_fin he) hx
  have o2 := order_fin hx (bd_fin he)
  unfold Out
  rw [show FloatKind.f64.format.order 14407015207689781248 x = Ieee.double.order 14407015207689781248 x from rfl, show FloatKind.f64.format.order x 5183643170835005440 = Ieee.double.order x 5183643170835005440 from rfl, o1, o2]
  generalize Bd e = b at *
  by_cases q : -(b : Int) < v
  · right
    refine ⟨by rw [Int.compare_eq_lt.2 q]; rfl, cmp_ge (by omega)⟩
  · left; exact cmp_ge q
theorem in_fin {x : Nat} {v : Int} {e : Nat} (he : e = 1177) (hx : Fin x v) (h : v.natAbs < Bd e) : FloatKind.f64.format.order 14407015207689781248 x = some .lt ∧ FloatKind.f64.format.order x 5183643170835005440 = some .lt := by
  have o1 := order_fin (nbd_fin he) hx
  have o2 := order_fin hx (bd_fin he)
  generalize Bd e = b at *
  rw [Int.compare_eq_lt.2 (by omega)] at o1 o2
  exact ⟨o1, o2⟩
set_option maxRecDepth 100000 in
set_option maxHeartbeats 1000000 in
theorem has_yes {x : Nat} (w : World) (h1 : FloatKind.f64.format.order 14407015207689781248 x = some .lt) (h2 : FloatKind.f64.format.order x 5183643170835005440 = some .lt) : Calls Try.prog 38 #[.float .f64 x] w fun e w' => e = .returned (.bool true) ∧ w' = w := by
  go_enter Try.func38, Try.ntmps38
  go_wp2
  go_ret
  exact ⟨rfl, rfl⟩
set_option maxRecDepth 100000 in
set_option maxHeartbeats 1000000 in
theorem has_no {x : Nat} (w : World) (h : Out x) : Calls Try.prog 38 #[.float .f64 x] w fun e w' => e = .returned (.bool false) ∧ w' = w := by
  rcases h with h | ⟨h1, h2⟩
  · go_enter Try.func38, Try.ntmps38
    go_wp2
    go_ret
    exact ⟨rfl, rfl⟩
  · go_enter Try.func38, Try.ntmps38
    go_wp2
    go_ret
    exact ⟨rfl, rfl⟩
theorem conv_3264 {z Z : Nat} (h : floatToFloatBits .f32 z .f64 = some Z) (w : World) : (convert 45 27 (.float .f32 z)).run Try.prog w = .ok (.float .f64 Z) w := run_convert_float_float w 45 27 .f32 .f64 z Z (by rw [Try.underlying45]; rfl) Try.underlying27 h
theorem conv_6432 {z Z : Nat} (h : floatToFloatBits .f64 z .f32 = some Z) (w : World) : (convert 27 45 (.float .f64 z)).run Try.prog w = .ok (.float .f32 Z) w := run_convert_float_float w 27 45 .f64 .f32 z Z (by rw [Try.underlying27]; rfl) Try.underlying45 h
set_option maxRecDepth 100000 in
set_option maxHeartbeats 1000000 in
theorem short_out {x : Nat} (w : World) (h : Out x) : Calls Try.prog 25 #[.float .f64 x] w fun e w' => e = .returned (.tuple #[.float .f32 0, .float .f64 x]) ∧ w' = w := by
  have C := hide' (has_no w h)
  clear h
  go_enter Try.func25, Try.ntmps25
  go_wp2_with fail
  refine C.out.mono ?_
  rintro e w1 ⟨rfl, hw⟩
  replace hw := hw.symm
  subst hw
  go_wp2
  go_ret2
  exact ⟨rfl, rfl⟩
/-- what a Short answers -/
structure Sh (x : Nat) (v : Int) (D : Nat) (s : Bool) (Y L : Nat) : Prop where
  sgn : v = sg s v.natAbs
  cv : floatToFloatBits .f64 x .f32 = some (Ieee.single.word s (rn 23 D v.natAbs))
  lt : rn 23 D v.natAbs < 2139095040
  wd : floatToFloatBits .f32 (Ieee.single.word s (rn 23 D v.natAbs)) .f64 = some Y
  fy : Fin Y (sg s (vs D (rn 23 D v.natAbs)))
  sb : Ieee.double.sub x Y = some L
  fl : Fin L (v - sg s (vs D (rn 23 D v.natAbs)))
theorem sh_of {x : Nat} {v : Int} {e D : Nat} (hD : D = 925) (he : e = 1177) (hx : Fin x v) (hb : v.natAbs < Bd e) : ∃ s Y L, Sh x v D s Y L := by
  obtain ⟨s, hs, hc⟩ := narrow hD he hx hb
  have hlt := rn_short hD he hb
  obtain ⟨Y, hw, hY⟩ := wide (s := s) hD hlt
  obtain ⟨L, hl, hL⟩ := left_over hD he hx hb hs hY
  exact ⟨s, Y, L, hs, hc, hlt, hw, hY, hl, hL⟩
set_option maxRecDepth 100000 in
set_option maxHeartbeats 1000000 in
theorem short_in {x : Nat} {v : Int} {e D Y L : Nat} {s : Bool} (he : e = 1177) (hx : Fin x v) (hb : v.natAbs < Bd e) (h : Sh x v D s Y L) (w : World) : Calls Try.prog 25 #[.float .f64 x] w fun e w' => e = .returned (.tuple #[.float .f32 (Ieee.single.word s (rn 23 D v.natAbs)), .float .f64 L]) ∧ w' = w := by
  have ho := in_fin he hx hb
  have C := hide' (has_yes w ho.1 ho.2)
  have c1 := fun w => conv_6432 h.cv w
  have c2 := fun w => conv_3264 h.wd w
  have c3 := fun w => run_sub h.sb w
  clear ho h hx hb
  generalize Ieee.single.word s (rn 23 D v.natAbs) = y at *
  go_enter Try.func25, Try.ntmps25
  go_wp2_with fail
  refine C.out.mono ?_
  rintro e w1 ⟨rfl, hw⟩
  replace hw := hw.symm
  subst hw
  go_wp2
  go_ret2
  exact ⟨rfl, rfl⟩
set_option maxRecDepth 100000 in
set_option maxHeartbeats 1000000 in
theorem away_neg {x : Nat} (w : World) (h : FloatKind.f64.format.order x 0 = some .lt) : Calls Try.prog 33 #[.float .f64 x] w fun e w' => e = .returned (.float .f64 (Op.negFloat .f64 x)) ∧ w' = w := by
  have hneg : Op.unary .neg (.float .f64 x) = pure (.float .f64 (Op.negFloat .f64 x)) := rfl
  generalize Op.negFloat .f64 x = N at *
  go_enter Try.func33, Try.ntmps33
  go_wp2
  go_ret
  exact ⟨rfl, rfl⟩
set_option maxRecDepth 100000 in
set_option maxHeartbeats 1000000 in
theorem away_pos {x : Nat} (w : World) (h : (FloatKind.f64.format.order x 0 == some .lt) = false) : Calls Try.prog 33 #[.float .f64 x] w fun e w' => e = .returned (.float .f64 x) ∧ w' = w := by
  go_enter Try.func33, Try.ntmps33
  go_wp2
  go_ret
  exact ⟨rfl, rfl⟩
theorem away_fin {x : Nat} {v : Int} (hx : Fin x v) : ∃ A, Fin A (v.natAbs : Int) ∧ ∀ w, Calls Try.prog 33 #[.float .f64 x] w fun e w' => e = .returned (.float .f64 A) ∧ w' = w := by
  have o := order_fin hx fin_zero
  by_cases h : v < 0
  · rw [Int.compare_eq_lt.2 h] at o
    refine ⟨_, ?_, fun w => away_neg w o⟩
    have := neg_fin hx
    rw [show ((v.natAbs : Nat) : Int) = -v by omega]
    exact this
  · refine ⟨x, by rw [show ((v.natAbs : Nat) : Int) = v by omega]; exact hx, fun w => away_pos w ?_⟩
    rw [show FloatKind.f64.format.order x 0 = Ieee.double.order x 0 from rfl, o]
    exact cmp_ge h
theorem away_inf (s : Bool) (w : World) : Calls Try.prog 33 #[.float .f64 (Ieee.double.word s 9218868437227405312)] w fun e w' => e = .returned (.float .f64 9218868437227405312) ∧ w' = w := by
  cases s
  · exact away_pos w (by decide +kernel)
  · have := away_neg (x := Ieee.double.word true 9218868437227405312) w (by decide +kernel)
    rw [show Op.negFloat .f64 (Ieee.double.word true 9218868437227405312) = 9218868437227405312 by decide +kernel] at this
    exact this
end N
end Go.Proofs.Ytfkoacjfihaajaa
