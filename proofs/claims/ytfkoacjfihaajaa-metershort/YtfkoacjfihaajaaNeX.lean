import Derived.Test.YtfkoacjfihaajaaNeW
set_option linter.unusedVariables false
set_option linter.unusedSimpArgs false
namespace Go.Proofs.Ytfkoacjfihaajaa
open Go.RowKit
namespace N
open Fl M
set_option maxRecDepth 100000 in
set_option maxHeartbeats 1000000 in
theorem near_nan {x z : Nat} (w : World) (h : FloatKind.f64.format.order x x = none) : Calls Try.prog 14 #[.float .f64 x, .float .f32 z] w fun e w' => e = .returned (.bool true) ∧ Below w.heap.size w w' := by
  go_enter Try.func14, Try.ntmps14
  go_wp2
  go_ret
  exact ⟨rfl, Below.refl _ _⟩
theorem inf_gt {P : Nat} {v : Int} (h : Fin P v) : FloatKind.f64.format.order 9218868437227405312 P = some .gt := by
  obtain ⟨s, m, e, h1, _⟩ := h.read
  show (Ieee.double.read 9218868437227405312).order (Ieee.double.read P) = some .gt
  rw [h1, show Ieee.double.read 9218868437227405312 = .infinity false from read_inf false]
  rfl
theorem z32 : floatToFloatBits .f32 0 .f64 = some 0 := by decide +kernel
theorem y32 : FloatKind.f32.format.order 0 0 = some .eq := by decide +kernel
theorem near_walk (x z : Nat) (w : World) (hx : x < 18446744073709551616) (hz : z < 4294967296) : Calls Try.prog 14 #[.float .f64 x, .float .f32 z] w fun e w' => e = .returned (.bool true) ∧ Below w.heap.size w w' := by
  obtain ⟨e, he⟩ : ∃ e : Nat, e = 1177 := ⟨_, rfl⟩
  obtain ⟨D, hD⟩ : ∃ D : Nat, D = 925 := ⟨_, rfl⟩
  have hZ : (∃ s r, r < 2139095040 ∧ z = Ieee.single.word s r) ∨ ∃ Z zz k k2, Zk z w Z 0 Z zz k k2 ∧ FloatKind.f32.format.order zz 0 = none := by
    rcases kinds32 hz with h | h | h
    · exact .inl h
    · exact .inr (z_huge (.inl h) w)
    · exact .inr (z_huge (.inr h) w)
  -- those that have none beside them
  have out : ∀ (SZ : Nat), Out x → isn (Ieee.double.read x) = false → (∃ T, Ieee.double.add 0 x = some T ∧ FloatKind.f64.format.order T x = some .eq) → (∀ w, Calls Try.prog 33 #[.float .f64 x] w fun e w' => e = .returned (.float .f64 SZ) ∧ w' = w) → (∀ P, Fin P ((Bd e : Nat) : Int) → (FloatKind.f64.format.order SZ P = some .gt ∨ FloatKind.f64.format.order SZ P = some .eq)) → Calls Try.prog 14 #[.float .f64 x, .float .f32 z] w fun e w' => e = .returned (.bool true) ∧ Below w.heap.size w w' := by
    intro SZ ho hn ⟨T, hT, oT⟩ hA hS
    rcases hZ with ⟨s, r, hr, rfl⟩ | ⟨Z, zz, k, k2, hk, hq⟩
    · obtain ⟨Z, own, none_, hk, q1, q2, q3, q4⟩ := z_fin (s := s) hD he hr w
      exact near_of (hide' he) (order_num hn) (hide' (fun w => short_out w ho)) (hide' ⟨fun w => conv_3264 z32 w, fun w => run_add hT w, oT⟩) (hide' hA) (hide' hS) (hide' hk) ⟨q1, q2, y32⟩ y32
    · exact near_oh (hide' he) (order_num hn) (hide' (fun w => short_out w ho)) (hide' ⟨fun w => conv_3264 z32 w, fun w => run_add hT w, oT⟩) (hide' hA) (hide' hS) (hide' hk) ⟨y32, hq⟩ y32
  rcases kinds hx with ⟨v, hv⟩ | ⟨s, rfl⟩ | hn
  · by_cases hb : v.natAbs < Bd e
    · obtain ⟨s, Y, L, hs⟩ := sh_of hD he hv hb
      have hsum : sg s (vs D (rn 23 D v.natAbs)) + (v - sg s (vs D (rn 23 D v.natAbs))) = v := by omega
      obtain ⟨T, hT, fT⟩ := add_ex hs.fy hs.fl (by rw [hsum]; exact hv.rep)
      rw [hsum] at fT
      obtain ⟨SZ, fS, cS⟩ := away_fin hv
      have hS : ∀ P, Fin P ((Bd e : Nat) : Int) → FloatKind.f64.format.order SZ P = some .lt := fun P hP => by
        have := order_fin fS hP
        rw [Int.compare_eq_lt.2 (by omega)] at this
        exact this
      have hnn : isn (Ieee.double.read x) = false := (vl_num (vl_fin hv)).2
      rcases hZ with ⟨s', r, hr, rfl⟩ | ⟨Z, zz, k, k2, hk, hq⟩
      · obtain ⟨Z, own, none_, hk, q1, q2, q3, q4⟩ := z_fin (s := s') hD he hr w
        exact near_if (hide' he) (order_num hnn) (hide' (short_in he hv hb hs)) (hide' ⟨fun w => conv_3264 hs.wd w, fun w => run_add hT w, fin_same fT hv⟩) (hide' cS) (hide' hS) (hide' hk) ⟨q1, q2, y32⟩ (nearer hD he hv hb hs hr q3) q4
      · exact near_ih (hide' he) (order_num hnn) (hide' (short_in he hv hb hs)) (hide' ⟨fun w => conv_3264 hs.wd w, fun w => run_add hT w, fin_same fT hv⟩) (hide' cS) (hide' hS) (hide' hk) ⟨y32, hq⟩
    · obtain ⟨SZ, fS, cS⟩ := away_fin hv
      obtain ⟨T, hT, fT⟩ := add_ex fin_zero hv (by rw [Int.zero_add]; exact hv.rep)
      rw [Int.zero_add] at fT
      refine out SZ (out_fin he hv (by omega)) ((vl_num (vl_fin hv)).2) ⟨T, hT, fin_same fT hv⟩ cS (fun P hP => ?_)
      have := order_fin fS hP
      rcases Nat.eq_or_lt_of_le (show Bd e ≤ v.natAbs by omega) with q | q
      · rw [← q, Int.compare_eq_eq.2 rfl] at this; exact .inr this
      · rw [Int.compare_eq_gt.2 (by omega)] at this; exact .inl this
  · refine out 9218868437227405312 (out_inf s) (by rw [read_inf]; rfl) ⟨Ieee.double.word s 9218868437227405312, by cases s <;> decide +kernel, order_num (by rw [read_inf]; rfl)⟩ (fun w => away_inf s w) (fun P hP => .inl (inf_gt hP))
  · exact near_nan w (order_nan (.inl hn))
end N
end Go.Proofs.Ytfkoacjfihaajaa
