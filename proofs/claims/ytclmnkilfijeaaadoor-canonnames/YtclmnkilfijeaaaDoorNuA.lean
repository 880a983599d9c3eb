import Derived.Test.YtclmnkilfijeaaaDoorRows
import Derived.Test.YtclmnkilfijeaaaDoorTurn
import Derived.Test.YtclmnkilfijeaaaDoorShelf
import Derived.Test.YtclmnkilfijeaaaDoorFpI
import Derived.WalkKit
import Derived.WalkSpells
import Derived.WalkLawsBesides
import Derived.Below
import Derived.Laws.RangeAny
import Derived.Laws.Bits64b
import Derived.LoopTactic
import Derived.Deep.QuietTactic
import Derived.BigQuiet
set_option linter.unusedVariables false
set_option linter.unusedSimpArgs false
namespace Go.Proofs.YtclmnkilfijeaaaDoor
open Go.RowKit
theorem hide' {p : Prop} (h : p) : Hid p := h
theorem ret_u64 {a b : Int} (h : a = b) : Ending.returned (.int .u64 a) = .returned (.int .u64 b) := by rw [h]
theorem wrapu_mod (x : Int) : IntKind.u64.wrap x = x % 18446744073709551616 := by
  show (if (false && decide (x % 18446744073709551616 ≥ 2 ^ 63)) = true then x % 18446744073709551616 - 2 ^ 64 else x % 18446744073709551616) = _
  rw [Bool.false_and, if_neg (by simp)]
theorem wrapu {x : Int} (h0 : 0 ≤ x) (h1 : x < 18446744073709551616) : IntKind.u64.wrap x = x := by
  rw [wrapu_mod]; exact Int.emod_eq_of_lt h0 h1
set_option maxRecDepth 100000 in
theorem log10Pow2_any (x : Int) (h1 : -1200 ≤ x) (h2 : x ≤ 1200) (w : World) : Calls Tryd.prog 26 #[.int .i64 x] w fun e w' => e = .returned (.int .i64 (x * 78913 / 262144)) ∧ w' = w := by
  go_enter Tryd.func26, Tryd.ntmps26
  go_wp2
  go_ret
  exact ⟨rfl, rfl⟩
set_option maxRecDepth 100000 in
theorem log2Pow10_any (x : Int) (h1 : -1200 ≤ x) (h2 : x ≤ 1200) (w : World) : Calls Tryd.prog 37 #[.int .i64 x] w fun e w' => e = .returned (.int .i64 (x * 108853 / 32768)) ∧ w' = w := by
  go_enter Tryd.func37, Tryd.ntmps37
  go_wp2
  go_ret
  exact ⟨rfl, rfl⟩
set_option maxRecDepth 100000 in
theorem skewed_any (x : Int) (h1 : -1200 ≤ x) (h2 : x ≤ 1200) (w : World) : Calls Tryd.prog 35 #[.int .i64 x] w fun e w' => e = .returned (.int .i64 ((x * 631305 - 261663) / 2097152)) ∧ w' = w := by
  go_enter Tryd.func35, Tryd.ntmps35
  go_wp2
  go_ret
  exact ⟨rfl, rfl⟩
set_option maxRecDepth 100000 in
theorem ceil_any (u : Nat) (h : u < 9223372036854775808) (w : World) : Calls Tryd.prog 40 #[.int .u64 u] w fun e w' => e = .returned (.int .u64 ((u + 3) / 4 : Nat)) ∧ w' = w := by
  go_enter Tryd.func40, Tryd.ntmps40
  go_wp2
  go_ret
  exact ⟨ret_u64 (by omega), rfl⟩
set_option maxRecDepth 100000 in
theorem floor_any (u : Nat) (h : u < 9223372036854775808) (w : World) : Calls Tryd.prog 41 #[.int .u64 u] w fun e w' => e = .returned (.int .u64 (u / 4 : Nat)) ∧ w' = w := by
  go_enter Tryd.func41, Tryd.ntmps41
  go_wp2
  go_ret
  exact ⟨ret_u64 (by omega), rfl⟩
set_option maxRecDepth 100000 in
theorem round_any (u : Nat) (h : u < 9223372036854775808) (w : World) : Calls Tryd.prog 42 #[.int .u64 u] w fun e w' => e = .returned (.int .u64 (Fp.rnd u : Nat)) ∧ w' = w := by
  have ha := and_one_u64 ((u : Int) / 4) (by omega) (by omega)
  go_enter Tryd.func42, Tryd.ntmps42
  go_wp2
  go_ret
  refine ⟨ret_u64 ?_, rfl⟩
  unfold Fp.rnd
  first | omega | (rw [ha, wrapu (by omega) (by omega)]; omega) | (rw [wrapu (by omega) (by omega)]; omega)
set_option maxRecDepth 100000 in
theorem nudge_any (u : Nat) (d : Int) (h : u < 9223372036854775808) (hd : d = 0 ∨ d = 1 ∨ (d = -1 ∧ 1 ≤ u)) (w : World) : Calls Tryd.prog 39 #[.int .u64 u, .int .i64 d] w fun e w' => e = .returned (.int .u64 (u + d)) ∧ w' = w := by
  rcases hd with rfl | rfl | ⟨rfl, h1⟩
  · go_enter Tryd.func39, Tryd.ntmps39
    go_wp2
    go_ret
    exact ⟨ret_u64 (by omega), rfl⟩
  · go_enter Tryd.func39, Tryd.ntmps39
    go_wp2
    go_ret
    exact ⟨ret_u64 (by omega), rfl⟩
  · have e : IntKind.u64.wrap (-1) = 18446744073709551615 := by decide
    go_enter Tryd.func39, Tryd.ntmps39
    go_wp2
    go_ret
    refine ⟨ret_u64 ?_, rfl⟩
    rw [wrapu_mod]
    omega
set_option maxRecDepth 100000 in
theorem bool2_any (b : Bool) (w : World) : Calls Tryd.prog 56 #[.bool b] w fun e w' => e = .returned (.int .u64 (if b then 1 else 0)) ∧ w' = w := by
  cases b
  · go_enter Tryd.func56, Tryd.ntmps56
    go_wp2
    go_ret
    exact ⟨rfl, rfl⟩
  · go_enter Tryd.func56, Tryd.ntmps56
    go_wp2
    go_ret
    exact ⟨rfl, rfl⟩
theorem and63_fin : ∀ s : Fin 64, bits .and .i64 (s.val : Int) 63 = s.val := by decide +kernel
theorem and63 (s : Nat) (h : s ≤ 63) : bits .and .i64 (s : Int) 63 = s := and63_fin ⟨s, by omega⟩
theorem or_u64 (a m : Nat) (ha : a < 18446744073709551616) (hm : m < 18446744073709551616) : bits .or .u64 (a : Int) (m : Int) = ((a ||| m : Nat) : Int) := bits_or_u64_nat a m ha hm
set_option maxRecDepth 100000 in
set_option maxHeartbeats 4000000 in
theorem uscale_any (x h l s b : Nat) (w : World) (hx : x < 18446744073709551616) (hh : h < 18446744073709551616) (hl : l < 18446744073709551616) (hs : s ≤ 63)
    (c0 : w.cell? ⟨b, 0, none⟩ = some (.int .u64 h)) (c1 : w.cell? ⟨b, 1, none⟩ = some (.int .u64 l)) (c2 : w.cell? ⟨b, 2, none⟩ = some (.int .i64 s)) :
    Calls Tryd.prog 38 #[.int .u64 x, .pointer (some ⟨b, 0, none⟩)] w fun e w' => e = .returned (.int .u64 (Fp.usc x h l s : Nat)) ∧ ∃ m, w' = w.drewN m := by
  have HM1 := hide' fun w => sh.bits_Mul64 x h hx hh w
  have HM2 := hide' fun w => sh.bits_Mul64 x l hx hl w
  have HB := hide' fun b w => bool2_any b w
  have b1 : x * h / 18446744073709551616 < 18446744073709551616 := by rw [Nat.div_lt_iff_lt_mul (by omega)]; exact Nat.mul_lt_mul'' hx hh
  have b2 : x * h % 18446744073709551616 < 18446744073709551616 := Nat.mod_lt _ (by omega)
  have b3 : x * l / 18446744073709551616 < 18446744073709551616 := by rw [Nat.div_lt_iff_lt_mul (by omega)]; exact Nat.mul_lt_mul'' hx hl
  have hu : Fp.usc x h l s = if x * h / 18446744073709551616 / 2 ^ s * 2 ^ s ≠ x * h / 18446744073709551616 then x * h / 18446744073709551616 / 2 ^ s ||| 1 else (x * h / 18446744073709551616 + (18446744073709551616 - (if x * h % 18446744073709551616 < x * l / 18446744073709551616 then 1 else 0))) % 18446744073709551616 / 2 ^ s ||| (if 1 < (x * h % 18446744073709551616 + (18446744073709551616 - x * l / 18446744073709551616)) % 18446744073709551616 then 1 else 0) := rfl
  rw [hu]
  generalize x * h / 18446744073709551616 = hi at *
  generalize x * h % 18446744073709551616 = mid at *
  generalize x * l / 18446744073709551616 = mid2 at *
  generalize x * l % 18446744073709551616 = mid3 at *
  have hle : hi / 2 ^ s * 2 ^ s ≤ hi := Nat.div_mul_le_self _ _
  have hdl : hi / 2 ^ s ≤ hi := Nat.div_le_self _ _
  have ha := and63 s hs
  have cast : ((hi : Int) / 2 ^ s) = ((hi / 2 ^ s : Nat) : Int) := by push_cast; rfl
  have hw : IntKind.u64.wrap ((hi : Int) / 2 ^ s * 2 ^ s) = ((hi / 2 ^ s * 2 ^ s : Nat) : Int) := by
    have e : ((hi : Int) / 2 ^ s * 2 ^ s) = ((hi / 2 ^ s * 2 ^ s : Nat) : Int) := by push_cast; rfl
    rw [wrapu_mod, e]
    omega
  have hq : (IntKind.u64.wrap ((hi : Int) / 2 ^ s * 2 ^ s) != (hi : Int)) = decide (hi / 2 ^ s * 2 ^ s ≠ hi) := by
    rw [hw]
    by_cases hc : hi / 2 ^ s * 2 ^ s = hi
    · rw [hc]; simp
    · rw [decide_eq_true hc, bne_iff_ne]; omega
  have Ha := hide' (And.intro cast (And.intro hle hdl))
  clear cast hle hdl hw hu
  by_cases hc : hi / 2 ^ s * 2 ^ s = hi
  · rw [if_neg (by simpa using hc)]
    rw [decide_eq_false (by simpa using hc)] at hq
    have Hc := hide' hc
    clear hc
    have hwm : IntKind.u64.wrap ((mid : Int) - mid2) = ((mid + (18446744073709551616 - mid2)) % 18446744073709551616 : Nat) := by rw [wrapu_mod]; omega
    obtain ⟨k, hk⟩ : ∃ k, k = (if mid < mid2 then 1 else 0) := ⟨_, rfl⟩
    obtain ⟨j, hj⟩ : ∃ j, j = (if 1 < (mid + (18446744073709551616 - mid2)) % 18446744073709551616 then 1 else 0) := ⟨_, rfl⟩
    rw [← hk, ← hj]
    have hk1 : k ≤ 1 := by rw [hk]; split <;> omega
    have hj1 : j ≤ 1 := by rw [hj]; split <;> omega
    obtain ⟨H, hH⟩ : ∃ H, H = (hi + (18446744073709551616 - k)) % 18446744073709551616 := ⟨_, rfl⟩
    rw [← hH]
    have hHl : H < 18446744073709551616 := by rw [hH]; exact Nat.mod_lt _ (by omega)
    have hwH : IntKind.u64.wrap ((hi : Int) - k) = H := by rw [wrapu_mod]; omega
    obtain ⟨R, hR⟩ : ∃ R : Nat, R = (H / 2 ^ s ||| j) := ⟨_, rfl⟩
    rw [← hR]
    have ho : bits .or .u64 ((H : Int) / 2 ^ s) (j : Int) = (R : Int) := by
      have e : ((H : Int) / 2 ^ s) = ((H / 2 ^ s : Nat) : Int) := by push_cast; rfl
      rw [e, hR]
      have := Nat.div_le_self H (2 ^ s)
      exact or_u64 _ _ (by omega) (by omega)
    have HH := hide' hR
    clear hR hH
    by_cases q1 : mid < mid2
    · rw [if_pos q1] at hk
      subst hk
      have q1' : decide ((mid : Int) < mid2) = true := decide_eq_true (by omega)
      have hwH : IntKind.u64.wrap ((hi : Int) - 1) = H := hwH
      by_cases q2 : 1 < (mid + (18446744073709551616 - mid2)) % 18446744073709551616
      · rw [if_pos q2] at hj
        subst hj
        have g2 : decide (1 < IntKind.u64.wrap ((mid : Int) - mid2)) = true := decide_eq_true (by rw [hwm]; omega)
        have ho : bits .or .u64 ((H : Int) / 2 ^ s) 1 = (R : Int) := ho
        clear hwm q2 hk1 hj1
        go_enter Tryd.func38, Tryd.ntmps38
        go_wp2_with (first | (have G := HM9; go_at_call 55; refine (HM2.out _).mono ?_; rintro e w1 ⟨rfl, rfl⟩) | (go_at_call 55; refine (HM1.out _).mono ?_; rintro e w1 ⟨rfl, rfl⟩; have HM9 := HM2) | (go_at_call 56; refine (HB.out _ _).mono ?_; rintro e w1 ⟨rfl, rfl⟩))
        go_quiet ((go_at_call 56; exact Calls.quiet_of_same (HB.out _ _)))
        go_wp2
        go_ret
        exact ⟨ret_u64 (by rw [← ho, ← hwH]), _, rfl⟩
      · rw [if_neg q2] at hj
        subst hj
        have g2 : decide (1 < IntKind.u64.wrap ((mid : Int) - mid2)) = false := decide_eq_false (by rw [hwm]; omega)
        have ho : bits .or .u64 ((H : Int) / 2 ^ s) 0 = (R : Int) := ho
        clear hwm q2 hk1 hj1
        go_enter Tryd.func38, Tryd.ntmps38
        go_wp2_with (first | (have G := HM9; go_at_call 55; refine (HM2.out _).mono ?_; rintro e w1 ⟨rfl, rfl⟩) | (go_at_call 55; refine (HM1.out _).mono ?_; rintro e w1 ⟨rfl, rfl⟩; have HM9 := HM2) | (go_at_call 56; refine (HB.out _ _).mono ?_; rintro e w1 ⟨rfl, rfl⟩))
        go_quiet ((go_at_call 56; exact Calls.quiet_of_same (HB.out _ _)))
        go_wp2
        go_ret
        exact ⟨ret_u64 (by rw [← ho, ← hwH]), _, rfl⟩
    · rw [if_neg q1] at hk
      subst hk
      have q1' : decide ((mid : Int) < mid2) = false := decide_eq_false (by omega)
      rw [show ((hi : Int) - ((0 : Nat) : Int)) = hi by omega] at hwH
      by_cases q2 : 1 < (mid + (18446744073709551616 - mid2)) % 18446744073709551616
      · rw [if_pos q2] at hj
        subst hj
        have g2 : (1 : Int) < (mid : Int) - mid2 := by omega
        have g3 : decide ((1 : Int) < (mid : Int) - mid2) = true := decide_eq_true g2
        have ho : bits .or .u64 ((H : Int) / 2 ^ s) 1 = (R : Int) := ho
        clear hwm q2 hk1 hj1
        go_enter Tryd.func38, Tryd.ntmps38
        go_wp2_with (first | (have G := HM9; go_at_call 55; refine (HM2.out _).mono ?_; rintro e w1 ⟨rfl, rfl⟩) | (go_at_call 55; refine (HM1.out _).mono ?_; rintro e w1 ⟨rfl, rfl⟩; have HM9 := HM2) | (go_at_call 56; refine (HB.out _ _).mono ?_; rintro e w1 ⟨rfl, rfl⟩))
        go_quiet ((go_at_call 56; exact Calls.quiet_of_same (HB.out _ _)))
        go_wp2
        go_ret
        exact ⟨ret_u64 (by first | exact ho | rw [← ho, ← hwH]), _, rfl⟩
      · rw [if_neg q2] at hj
        subst hj
        have g2 : ¬ ((1 : Int) < (mid : Int) - mid2) := by omega
        have g3 : decide ((1 : Int) < (mid : Int) - mid2) = false := decide_eq_false g2
        have ho : bits .or .u64 ((H : Int) / 2 ^ s) 0 = (R : Int) := ho
        clear hwm q2 hk1 hj1
        go_enter Tryd.func38, Tryd.ntmps38
        go_wp2_with (first | (have G := HM9; go_at_call 55; refine (HM2.out _).mono ?_; rintro e w1 ⟨rfl, rfl⟩) | (go_at_call 55; refine (HM1.out _).mono ?_; rintro e w1 ⟨rfl, rfl⟩; have HM9 := HM2) | (go_at_call 56; refine (HB.out _ _).mono ?_; rintro e w1 ⟨rfl, rfl⟩))
        go_quiet ((go_at_call 56; exact Calls.quiet_of_same (HB.out _ _)))
        go_wp2
        go_ret
        exact ⟨ret_u64 (by first | exact ho | rw [← ho, ← hwH]), _, rfl⟩
  · rw [if_pos hc]
    rw [decide_eq_true hc] at hq
    have Hc := hide' hc
    clear hc
    go_enter Tryd.func38, Tryd.ntmps38
    go_wp2_with (first | (go_at_call 55; refine (HM1.out _).mono ?_; rintro e w1 ⟨rfl, rfl⟩))
    go_ret
    obtain ⟨cast, hle, hdl⟩ := Ha.out
    exact ⟨ret_u64 (by rw [cast]; exact or_u64 (hi / 2 ^ s) 1 (by omega) (by omega)), 0, rfl⟩
end Go.Proofs.YtclmnkilfijeaaaDoor
