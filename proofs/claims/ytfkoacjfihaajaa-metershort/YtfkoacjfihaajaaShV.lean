import Derived.Test.YtfkoacjfihaajaaShU
import Derived.Test.YtfkoacjfihaajaaNeX
set_option linter.unusedVariables false
set_option linter.unusedSimpArgs false
namespace Go.Proofs.Ytfkoacjfihaajaa
open Go.RowKit
namespace N
open Fl M
set_option maxRecDepth 100000 in
set_option maxHeartbeats 2000000 in
theorem rout_pos {x SZ e : Nat} (he : Hid (e = 1177)) (hxx : FloatKind.f64.format.order x x = some .eq) (h0 : (FloatKind.f64.format.order x 0 == some .lt) = false) (hSZ : SZ = x) (HO : Hid (∀ P, Fin P ((Bd e : Nat) : Int) → (FloatKind.f64.format.order SZ P = some .gt ∨ FloatKind.f64.format.order SZ P = some .eq))) (w : World) : Calls Try.prog 26 #[.float .f64 x] w fun e w' => e = .returned (.tuple #[.float .f64 0, .float .f64 x]) ∧ w' = w := by
  subst hSZ
  obtain ⟨K1, hK1⟩ : ∃ K : Nat, K = 1201 := ⟨_, rfl⟩
  obtain ⟨K2, hK2⟩ : ∃ K : Nat, K = 1050 := ⟨_, rfl⟩
  have C1 := hide' (fun w => power_any 127 K1 w (by omega) (by omega) (by omega))
  have C2 := hide' (fun w => power_any (-24) K2 w (by omega) (by omega) (by omega))
  have HK := hide' (And.intro hK1 hK2)
  clear hK1 hK2
  go_enter Try.func26, Try.ntmps26
  go_wp2_with fail
  refine (C1.out _).mono ?_
  rintro e w1 ⟨P1, rfl, F1, hw⟩
  replace hw := hw.symm
  subst hw
  go_wp2_with fail
  refine (C2.out _).mono ?_
  rintro e w1 ⟨P2, rfl, F2, hw⟩
  replace hw := hw.symm
  subst hw
  obtain ⟨a, b, s1, s2, fb⟩ := bound_of he.out HK.out.1 HK.out.2 F1.out F2.out
  have r1 := fun w => run_sub s1 w
  have r2 := fun w => run_mul s2 w
  have oB := HO.out b fb
  clear s1 s2 fb C1 C2 F1 F2 HK
  rcases oB with oB | oB
  · go_wp2
    go_ret2
    exact ⟨rfl, rfl⟩
  · go_wp2
    go_ret2
    exact ⟨rfl, rfl⟩
set_option maxRecDepth 100000 in
set_option maxHeartbeats 2000000 in
theorem rout_neg {x SZ e : Nat} (he : Hid (e = 1177)) (hxx : FloatKind.f64.format.order x x = some .eq) (h0 : FloatKind.f64.format.order x 0 = some .lt) (hSZ : SZ = Op.negFloat .f64 x) (HO : Hid (∀ P, Fin P ((Bd e : Nat) : Int) → (FloatKind.f64.format.order SZ P = some .gt ∨ FloatKind.f64.format.order SZ P = some .eq))) (w : World) : Calls Try.prog 26 #[.float .f64 x] w fun e w' => e = .returned (.tuple #[.float .f64 0, .float .f64 x]) ∧ w' = w := by
  have hneg : Op.unary .neg (.float .f64 x) = pure (.float .f64 SZ) := by rw [hSZ]; rfl
  clear hSZ
  obtain ⟨K1, hK1⟩ : ∃ K : Nat, K = 1201 := ⟨_, rfl⟩
  obtain ⟨K2, hK2⟩ : ∃ K : Nat, K = 1050 := ⟨_, rfl⟩
  have C1 := hide' (fun w => power_any 127 K1 w (by omega) (by omega) (by omega))
  have C2 := hide' (fun w => power_any (-24) K2 w (by omega) (by omega) (by omega))
  have HK := hide' (And.intro hK1 hK2)
  clear hK1 hK2
  go_enter Try.func26, Try.ntmps26
  go_wp2_with fail
  refine (C1.out _).mono ?_
  rintro e w1 ⟨P1, rfl, F1, hw⟩
  replace hw := hw.symm
  subst hw
  go_wp2_with fail
  refine (C2.out _).mono ?_
  rintro e w1 ⟨P2, rfl, F2, hw⟩
  replace hw := hw.symm
  subst hw
  obtain ⟨a, b, s1, s2, fb⟩ := bound_of he.out HK.out.1 HK.out.2 F1.out F2.out
  have r1 := fun w => run_sub s1 w
  have r2 := fun w => run_mul s2 w
  have oB := HO.out b fb
  clear s1 s2 fb C1 C2 F1 F2 HK
  rcases oB with oB | oB
  · go_wp2
    go_ret2
    exact ⟨rfl, rfl⟩
  · go_wp2
    go_ret2
    exact ⟨rfl, rfl⟩
set_option maxRecDepth 100000 in
set_option maxHeartbeats 1000000 in
theorem rout_nan {x : Nat} (h : FloatKind.f64.format.order x x = none) (h0 : FloatKind.f64.format.order x 0 = none) (w : World) : Calls Try.prog 26 #[.float .f64 x] w fun e w' => e = .returned (.tuple #[.float .f64 0, .float .f64 x]) ∧ w' = w := by
  go_enter Try.func26, Try.ntmps26
  go_wp2
  go_ret2
  exact ⟨rfl, rfl⟩
set_option maxRecDepth 100000 in
set_option maxHeartbeats 1000000 in
theorem law_short {x a b Y c d : Nat} {w : World} (S1 : Hid (∀ w, Calls Try.prog 25 #[.float .f64 x] w fun e w' => e = .returned (.tuple #[.float .f32 a, .float .f64 b]) ∧ w' = w)) (S2 : Hid (∀ w, Calls Try.prog 26 #[.float .f64 x] w fun e w' => ∃ c d, e = .returned (.tuple #[.float .f64 c, .float .f64 d]) ∧ Hid ((∀ w, Calls Try.prog 24 #[.float .f64 Y, .float .f64 c] w fun e w' => e = .returned (.bool true) ∧ w' = w) ∧ (∀ w, Calls Try.prog 24 #[.float .f64 b, .float .f64 d] w fun e w' => e = .returned (.bool true) ∧ w' = w)) ∧ w' = w)) (hc : floatToFloatBits .f32 a .f64 = some Y) : Calls Try.prog 6 #[.float .f64 x] w fun e w' => e = .returned (.bool true) ∧ Below w.heap.size w w' := by
  have cv := fun w => conv_3264 hc w
  clear hc
  go_enter Try.func6, Try.ntmps6
  go_wp2_with fail
  refine (S1.out _).mono ?_
  rintro e w1 ⟨rfl, hw⟩
  replace hw := hw.symm
  subst hw
  go_wp2_with fail
  refine (S2.out _).mono ?_
  rintro e w1 ⟨c, d, rfl, HS, hw⟩
  replace hw := hw.symm
  subst hw
  go_wp2_with fail
  refine (HS.out.1 _).mono ?_
  rintro e w1 ⟨rfl, hw⟩
  replace hw := hw.symm
  subst hw
  go_wp2_with fail
  refine (HS.out.2 _).mono ?_
  rintro e w1 ⟨rfl, hw⟩
  replace hw := hw.symm
  subst hw
  go_wp2
  go_ret
  exact ⟨rfl, Below.refl _ _⟩
theorem out_law {x : Nat} (ho : Out x) (hr : ∀ w, Calls Try.prog 26 #[.float .f64 x] w fun e w' => e = .returned (.tuple #[.float .f64 0, .float .f64 x]) ∧ w' = w) (w : World) : Calls Try.prog 6 #[.float .f64 x] w fun e w' => e = .returned (.bool true) ∧ Below w.heap.size w w' :=
  law_short (c := 0) (d := 0) (hide' (fun w => short_out w ho)) (hide' (fun w => (hr w).mono (fun e w' ⟨a, b⟩ => ⟨0, x, a, hide' ⟨fun w => same_any w (lk_vl 0) (lk_vl 0), fun w => same_any w (lk_vl x) (lk_vl x)⟩, b⟩))) z32
theorem in_law {x Y L e D : Nat} {v R : Int} {s : Bool} (he : e = 1177) (hv : Fin x v) (hb : v.natAbs < Bd e) (hs : Sh x v D s Y L) (hR : R = sg s (vs D (rn 23 D v.natAbs))) (hr : ∀ w, Calls Try.prog 26 #[.float .f64 x] w fun e w' => ∃ yb d : Nat, e = .returned (.tuple #[.float .f64 yb, .float .f64 d]) ∧ Hid (Fin yb R ∧ Fin d (v - R)) ∧ w' = w) (w : World) : Calls Try.prog 6 #[.float .f64 x] w fun e w' => e = .returned (.bool true) ∧ Below w.heap.size w w' := by
  have fy := hs.fy
  have fl := hs.fl
  rw [← hR] at fy fl
  exact law_short (c := 0) (d := 0) (hide' (short_in he hv hb hs)) (hide' (fun w => (hr w).mono (fun e w' ⟨yb, d, a, b, c⟩ => ⟨yb, d, a, hide' ⟨fun w => same_eq w (fin_same fy b.out.1), fun w => same_eq w (fin_same fl b.out.2)⟩, c⟩))) hs.wd
theorem left_R {x Y L e D : Nat} {v R : Int} {s : Bool} (hD : D = 925) (he : e = 1177) (hv : Fin x v) (hb : v.natAbs < Bd e) (hs : Sh x v D s Y L) (hR : R = sg s (vs D (rn 23 D v.natAbs))) : ∀ Y, Fin Y R → ∃ d, Ieee.double.sub x Y = some d ∧ Fin d (v - R) := by
  intro Y hY
  rw [hR] at hY ⊢
  exact left_over hD he hv hb hs.sgn hY
theorem sign_neg {v : Int} {s : Bool} {n : Nat} (h : v = sg s v.natAbs) (h0 : v < 0) : -(n : Int) = sg s n := by
  cases s
  · simp [sg] at h; omega
  · rfl
theorem sign_pos {v : Int} {s : Bool} {n : Nat} (h : v = sg s v.natAbs) (h0 : ¬ v < 0) (hn : v = 0 → n = 0) : (n : Int) = sg s n := by
  cases s
  · rfl
  · simp [sg] at h
    have := hn (by omega)
    subst this; rfl
theorem vs_zero {v : Int} {D : Nat} (h : v = 0) : vs D (rn 23 D v.natAbs) = 0 := by
  rw [h, show (0 : Int).natAbs = 0 from rfl, rn_zero]
  unfold vs
  rw [show V 23 0 = 0 from rfl, Nat.zero_mul]
theorem abs_neg {x : Nat} {v : Int} (hv : Fin x v) (h0 : v < 0) : Fin (Op.negFloat .f64 x) ((v.natAbs : Nat) : Int) := by
  have := neg_fin hv
  rw [show -v = ((v.natAbs : Nat) : Int) by omega] at this
  exact this
theorem abs_pos {x : Nat} {v : Int} (hv : Fin x v) (h0 : ¬ v < 0) : Fin x ((v.natAbs : Nat) : Int) := by
  rw [show ((v.natAbs : Nat) : Int) = v by omega]; exact hv
theorem order_z {x : Nat} {v : Int} (hv : Fin x v) : FloatKind.f64.format.order x 0 = some (compare v 0) := order_fin hv fin_zero
theorem short_fin_in {x e D : Nat} {v : Int} (hD : D = 925) (he : e = 1177) (hv : Fin x v) (hb : v.natAbs < Bd e) (w : World) : Calls Try.prog 6 #[.float .f64 x] w fun e w' => e = .returned (.bool true) ∧ Below w.heap.size w w' := by
  have hnn : FloatKind.f64.format.order x x = some .eq := order_num ((vl_num (vl_fin hv)).2)
  obtain ⟨s, Y, L, hs⟩ := sh_of hD he hv hb
  have o0 := order_z hv
  by_cases h0 : v < 0
  · have hR := sign_neg (n := vs D (rn 23 D v.natAbs)) hs.sgn h0
    rw [Int.compare_eq_lt.2 h0] at o0
    exact in_law he hv hb hs hR (rshort_neg (v := v) (hide' hD) (hide' he) hnn o0 rfl (hide' (abs_neg hv h0)) (hide' hb) (hide' rfl) (hide' (left_R hD he hv hb hs hR))) w
  · have hR := sign_pos (n := vs D (rn 23 D v.natAbs)) hs.sgn h0 vs_zero
    exact in_law he hv hb hs hR (rshort_pos (v := v) (hide' hD) (hide' he) hnn (by rw [o0]; exact cmp_ge h0) rfl (hide' (abs_pos hv h0)) (hide' hb) (hide' rfl) (hide' (left_R hD he hv hb hs hR))) w
theorem key_out {e : Nat} {v : Int} (hb : ¬ v.natAbs < Bd e) {SZ : Nat} (fS : Fin SZ ((v.natAbs : Nat) : Int)) : ∀ P, Fin P ((Bd e : Nat) : Int) → (FloatKind.f64.format.order SZ P = some .gt ∨ FloatKind.f64.format.order SZ P = some .eq) := by
  intro P hP
  have := order_fin fS hP
  generalize Bd e = b at *
  rcases Nat.eq_or_lt_of_le (show b ≤ v.natAbs by omega) with q | q
  · rw [← q, Int.compare_eq_eq.2 rfl] at this; exact .inr this
  · rw [Int.compare_eq_gt.2 (by omega)] at this; exact .inl this
theorem short_fin_out {x e : Nat} {v : Int} (he : e = 1177) (hv : Fin x v) (hb : ¬ v.natAbs < Bd e) (w : World) : Calls Try.prog 6 #[.float .f64 x] w fun e w' => e = .returned (.bool true) ∧ Below w.heap.size w w' := by
  have hnn : FloatKind.f64.format.order x x = some .eq := order_num ((vl_num (vl_fin hv)).2)
  have o0 := order_z hv
  refine out_law (out_fin he hv (Nat.le_of_not_lt hb)) (fun w => ?_) w
  by_cases h0 : v < 0
  · rw [Int.compare_eq_lt.2 h0] at o0
    exact rout_neg (hide' he) hnn o0 rfl (hide' (key_out hb (abs_neg hv h0))) w
  · exact rout_pos (hide' he) hnn (by rw [o0]; exact cmp_ge h0) rfl (hide' (key_out hb (abs_pos hv h0))) w
theorem inf0 : (FloatKind.f64.format.order 9218868437227405312 0 == some .lt) = false := by decide +kernel
theorem inf1 : FloatKind.f64.format.order 18442240474082181120 0 = some .lt := by decide +kernel
theorem inf2 : (9218868437227405312 : Nat) = Op.negFloat .f64 18442240474082181120 := by decide +kernel
theorem inf3 : FloatKind.f64.format.order 18442240474082181120 18442240474082181120 = some .eq := by decide +kernel
theorem inf4 : FloatKind.f64.format.order 9218868437227405312 9218868437227405312 = some .eq := by decide +kernel
theorem inf_t : Ieee.double.word true 9218868437227405312 = 18442240474082181120 := by decide
theorem inf_f : Ieee.double.word false 9218868437227405312 = 9218868437227405312 := by decide
theorem short_inf {e : Nat} (he : e = 1177) (s : Bool) (w : World) : Calls Try.prog 6 #[.float .f64 (Ieee.double.word s 9218868437227405312)] w fun e w' => e = .returned (.bool true) ∧ Below w.heap.size w w' := by
  refine out_law (out_inf s) ?_ w
  cases s
  · rw [inf_f]
    exact fun w => rout_pos (SZ := 9218868437227405312) (hide' he) inf4 inf0 rfl (hide' (fun P hP => .inl (inf_gt hP))) w
  · rw [inf_t]
    exact fun w => rout_neg (SZ := 9218868437227405312) (hide' he) inf3 inf1 inf2 (hide' (fun P hP => .inl (inf_gt hP))) w
theorem short_walk (x : Nat) (w : World) (hx : x < 18446744073709551616) : Calls Try.prog 6 #[.float .f64 x] w fun e w' => e = .returned (.bool true) ∧ Below w.heap.size w w' := by
  obtain ⟨e, he⟩ : ∃ e : Nat, e = 1177 := ⟨_, rfl⟩
  obtain ⟨D, hD⟩ : ∃ D : Nat, D = 925 := ⟨_, rfl⟩
  rcases kinds hx with ⟨v, hv⟩ | ⟨s, rfl⟩ | hn
  · by_cases hb : v.natAbs < Bd e
    · exact short_fin_in hD he hv hb w
    · exact short_fin_out he hv hb w
  · exact short_inf he s w
  · exact out_law (out_nan hn) (fun w => rout_nan (order_nan (.inl hn)) (order_nan (.inl hn)) w) w
end N
end Go.Proofs.Ytfkoacjfihaajaa
