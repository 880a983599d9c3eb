import Derived.Test.YtfkoacjfihaajaaShT
set_option linter.unusedVariables false
set_option linter.unusedSimpArgs false
namespace Go.Proofs.Ytfkoacjfihaajaa
open Go.RowKit
namespace N
open Fl M
theorem conv_int {q : Nat} {U : Int} (h : floatToIntVal .f64 q .i64 = some U) (w : World) : (convert 27 3 (.float .f64 q)).run Try.prog w = .ok (.int .i64 U) w := run_convert_float_int w 27 3 .f64 .i64 q U (by rw [Try.underlying27]; rfl) Try.underlying3 h
set_option maxRecDepth 100000 in
set_option maxHeartbeats 8000000 in
theorem rshort_pos {x SZ S e D : Nat} {v R : Int} (hD : Hid (D = 925)) (he : Hid (e = 1177)) (hxx : FloatKind.f64.format.order x x = some .eq) (h0 : (FloatKind.f64.format.order x 0 == some .lt) = false) (hSZ : SZ = x) (fS : Hid (Fin SZ (S : Int))) (hb : Hid (S < Bd e)) (hR : Hid (R = ((vs D (rn 23 D S) : Nat) : Int))) (HL : Hid (∀ Y, Fin Y R → ∃ d, Ieee.double.sub x Y = some d ∧ Fin d (v - R))) (w : World) : Calls Try.prog 26 #[.float .f64 x] w fun e w' => ∃ yb d : Nat, e = .returned (.tuple #[.float .f64 yb, .float .f64 d]) ∧ Hid (Fin yb R ∧ Fin d (v - R)) ∧ w' = w := by
  subst hSZ
  obtain ⟨K1, hK1⟩ : ∃ K : Nat, K = 1201 := ⟨_, rfl⟩
  obtain ⟨K2, hK2⟩ : ∃ K : Nat, K = 1050 := ⟨_, rfl⟩
  have C1 := hide' (fun w => power_any 127 K1 w (by omega) (by omega) (by omega))
  have C2 := hide' (fun w => power_any (-24) K2 w (by omega) (by omega) (by omega))
  have HK := hide' (And.intro hK1 hK2)
  clear hK1 hK2
  go_enter Try.func26, Try.ntmps26
  go_wp2_with fail
  refine (C1.out _).mono ?_
  rintro e w1 ⟨P1, rfl, F1, hw⟩
  replace hw := hw.symm
  subst hw
  go_wp2_with fail
  refine (C2.out _).mono ?_
  rintro e w1 ⟨P2, rfl, F2, hw⟩
  replace hw := hw.symm
  subst hw
  obtain ⟨a, b, s1, s2, fb⟩ := bound_of he.out HK.out.1 HK.out.2 F1.out F2.out
  have r1 := fun w => run_sub s1 w
  have r2 := fun w => run_mul s2 w
  have oB : FloatKind.f64.format.order SZ b = some .lt := by
    have := order_fin fS.out fb
    rw [Int.compare_eq_lt.2 (by have := hb.out; omega)] at this
    exact this
  clear s1 s2 fb C1 C2 F1 F2 HK
  go_wp2_with fail
  clear r1 r2 oB
  go_loopw [5] (fun i wx => ∃ k : Nat, i = .int .i64 ((k : Int) - 126) ∧ k ≤ 253 ∧ (k = 0 ∨ ∀ K, K = 948 + k → 2 ^ K ≤ S) ∧ wx = w) (fun i _ => 253 - (intOf i + 126).toNat)
  case atStart => exact ⟨0, rfl, by omega, .inl rfl, rfl⟩
  case round =>
    obtain ⟨k, rfl, hk, hk0, hw⟩ := hrel
    subst hw
    obtain ⟨E0, hE0⟩ : ∃ E0 : Int, E0 = (k : Int) - 126 := ⟨_, rfl⟩
    rw [← hE0]
    obtain ⟨E1, hE1⟩ : ∃ E1 : Int, E1 = E0 + 1 := ⟨_, rfl⟩
    have W1 : Hid (wrap64 (E0 + 1) = E1) := hide' (by rw [hE1]; unfold wrap64; omega)
    obtain ⟨E2, hE2⟩ : ∃ E2 : Int, E2 = E0 - 23 := ⟨_, rfl⟩
    have W2 : Hid (wrap64 (E0 - 23) = E2) := hide' (by rw [hE2]; unfold wrap64; omega)
    have C3 := hide' (fun w => power_any E1 (949 + k) w (by omega) (by omega) (by omega))
    have C4 := hide' (fun w => power_any E2 (925 + k) w (by omega) (by omega) (by omega))
    have HE := hide' (And.intro hE0 (And.intro hE1 hE2))
    have HK := hide' (And.intro hk hk0)
    have TL : Hid (∀ UN, Fin UN ((2 ^ (925 + k) : Nat) : Int) → (∀ K, K = 949 + k → S < 2 ^ K) → ∃ qb U rb U' yb, Ta SZ UN (vs D (rn 23 D S)) qb U rb U' yb) := hide' (fun UN hU hk1 => tail_of hD.out he.out fS.out hb.out hk hk0 hk1 (fun K hK => by rw [hK]; exact hU))
    by_cases hlt : k < 253
    · have hlt' : E0 < 127 := by omega
      clear hE0 hE1 hE2 hk hk0
      go_wp2_with fail
      rw [W1.out]
      refine (C3.out _).mono ?_
      rintro e w1 ⟨P, rfl, F, hw⟩
      replace hw := hw.symm
      subst hw
      have oP := order_fin fS.out F.out
      rw [show Ieee.double.order SZ P = FloatKind.f64.format.order SZ P from rfl] at oP
      by_cases hge : 2 ^ (949 + k) ≤ S
      · have o2 : FloatKind.f64.format.order SZ P = some .gt ∨ FloatKind.f64.format.order SZ P = some .eq := by
          generalize 2 ^ (949 + k) = p at *
          rcases Nat.eq_or_lt_of_le hge with q | q
          · rw [q, Int.compare_eq_eq.2 rfl] at oP; exact .inr oP
          · rw [Int.compare_eq_gt.2 (by omega)] at oP; exact .inl oP
        have HF : Hid (∃ k' : Nat, Value.int .i64 E1 = .int .i64 ((k' : Int) - 126) ∧ k' ≤ 253 ∧ (k' = 0 ∨ ∀ K, K = 948 + k' → 2 ^ K ≤ S) ∧ True) := hide' ⟨k + 1, by rw [HE.out.2.1, HE.out.1]; congr 1; omega, by omega, .inr (fun K hK => by rw [hK, show 948 + (k + 1) = 949 + k by omega]; exact hge), trivial⟩
        have HM : Hid (253 - (E1 + 126).toNat < 253 - (E0 + 126).toNat) := hide' (by have := HE.out; omega)
        clear oP hge hlt
        rcases o2 with o2 | o2
        · go_wp2
          rw [W1.out]
          exact ⟨HF.out, HM.out⟩
        · go_wp2
          rw [W1.out]
          exact ⟨HF.out, HM.out⟩
      · have o2 : FloatKind.f64.format.order SZ P = some .lt := by
          generalize 2 ^ (949 + k) = p at *
          rw [Int.compare_eq_lt.2 (by omega)] at oP; exact oP
        have hk1 : Hid (∀ K, K = 949 + k → S < 2 ^ K) := hide' (fun K hK => by rw [hK]; omega)
        clear oP hge hlt
        go_wp2_with fail
        rw [W2.out]
        refine (C4.out _).mono ?_
        rintro e w1 ⟨UN, rfl, FU, hw⟩
        replace hw := hw.symm
        subst hw
        obtain ⟨qb, U, rb, U', yb, ta⟩ := TL.out UN FU.out hk1.out
        have t1 := fun w => run_div ta.dv w
        have t2 := fun w => conv_int ta.cv w
        have t3 := fun w => run_sub ta.sb w
        have t4 := fun w => run_mul ta.ml w
        rw [show FloatKind.f64.nearest ((U : Nat) : Int) = floatOfInt .f64 ((U : Nat) : Int) from rfl] at t3
        rw [show FloatKind.f64.nearest ((U' : Nat) : Int) = floatOfInt .f64 ((U' : Nat) : Int) from rfl] at t4
        have hub := ta.un
        have HW : Hid (wrap64 ((U : Int) + 1) = ((U + 1 : Nat) : Int)) := hide' (by unfold wrap64; omega)
        have m0 : U % 2 = 0 → Int.tmod (U : Int) 2 = 0 := fun q => by rw [Int.tmod_eq_emod_of_nonneg (by omega)]; omega
        have m1 : U % 2 = 1 → Int.tmod (U : Int) 2 = 1 := fun q => by rw [Int.tmod_eq_emod_of_nonneg (by omega)]; omega
        have fR : Hid (Fin yb R) := hide' (by rw [hR.out]; exact ta.fy)
        obtain ⟨d, sd, fd⟩ := HL.out _ fR.out
        have t5 := fun w => run_sub sd w
        have HF := hide' (And.intro fR.out fd)
        have f4 := ta.four
        have h0' := h0
        clear ta sd fd hub C3 C4 TL FU fR
        rcases f4 with ⟨o4, eU⟩ | ⟨o4, p4, eU⟩ | ⟨o4, p4, eU⟩ | ⟨o4, eU⟩
        · have hwu : wrap64 ((U : Int) + 1) = (U' : Int) := by rw [eU]; exact HW.out
          clear m0 m1 eU
          go_wp2
          go_ret2
          exact ⟨_, d, rfl, hide' HF.out, rfl⟩
        · have m3 := m1 p4
          have hwu : wrap64 ((U : Int) + 1) = (U' : Int) := by rw [eU]; exact HW.out
          clear m0 m1 p4 eU
          go_wp2
          go_ret2
          exact ⟨_, d, rfl, hide' HF.out, rfl⟩
        · subst eU
          have m3 := m0 p4
          clear m0 m1 p4
          go_wp2
          go_ret2
          exact ⟨_, d, rfl, hide' HF.out, rfl⟩
        · subst eU
          clear m0 m1
          go_wp2
          go_ret2
          exact ⟨_, d, rfl, hide' HF.out, rfl⟩
    · have hlt' : ¬ E0 < 127 := by omega
      have hk1 : Hid (∀ K, K = 949 + k → S < 2 ^ K) := hide' (fun K hK => by
        have h1 := hb.out
        have h2 := he.out
        have h3 : 33554431 * 2 ^ e < 2 ^ 25 * 2 ^ e := Nat.mul_lt_mul_of_pos_right (by decide) (Nat.two_pow_pos _)
        rw [← Nat.pow_add, show 25 + e = K by omega] at h3
        unfold Bd at h1
        omega)
      clear hE0 hE1 hE2 hk hk0 hlt
      go_wp2_with fail
      rw [W2.out]
      refine (C4.out _).mono ?_
      rintro e w1 ⟨UN, rfl, FU, hw⟩
      replace hw := hw.symm
      subst hw
      obtain ⟨qb, U, rb, U', yb, ta⟩ := TL.out UN FU.out hk1.out
      have t1 := fun w => run_div ta.dv w
      have t2 := fun w => conv_int ta.cv w
      have t3 := fun w => run_sub ta.sb w
      have t4 := fun w => run_mul ta.ml w
      rw [show FloatKind.f64.nearest ((U : Nat) : Int) = floatOfInt .f64 ((U : Nat) : Int) from rfl] at t3
      rw [show FloatKind.f64.nearest ((U' : Nat) : Int) = floatOfInt .f64 ((U' : Nat) : Int) from rfl] at t4
      have hub := ta.un
      have HW : Hid (wrap64 ((U : Int) + 1) = ((U + 1 : Nat) : Int)) := hide' (by unfold wrap64; omega)
      have m0 : U % 2 = 0 → Int.tmod (U : Int) 2 = 0 := fun q => by rw [Int.tmod_eq_emod_of_nonneg (by omega)]; omega
      have m1 : U % 2 = 1 → Int.tmod (U : Int) 2 = 1 := fun q => by rw [Int.tmod_eq_emod_of_nonneg (by omega)]; omega
      have fR : Hid (Fin yb R) := hide' (by rw [hR.out]; exact ta.fy)
      obtain ⟨d, sd, fd⟩ := HL.out _ fR.out
      have t5 := fun w => run_sub sd w
      have HF := hide' (And.intro fR.out fd)
      have f4 := ta.four
      have h0' := h0
      clear ta sd fd hub C3 C4 TL FU fR
      rcases f4 with ⟨o4, eU⟩ | ⟨o4, p4, eU⟩ | ⟨o4, p4, eU⟩ | ⟨o4, eU⟩
      · have hwu : wrap64 ((U : Int) + 1) = (U' : Int) := by rw [eU]; exact HW.out
        clear m0 m1 eU
        go_wp2
        go_ret2
        exact ⟨_, d, rfl, hide' HF.out, rfl⟩
      · have m3 := m1 p4
        have hwu : wrap64 ((U : Int) + 1) = (U' : Int) := by rw [eU]; exact HW.out
        clear m0 m1 p4 eU
        go_wp2
        go_ret2
        exact ⟨_, d, rfl, hide' HF.out, rfl⟩
      · subst eU
        have m3 := m0 p4
        clear m0 m1 p4
        go_wp2
        go_ret2
        exact ⟨_, d, rfl, hide' HF.out, rfl⟩
      · subst eU
        clear m0 m1
        go_wp2
        go_ret2
        exact ⟨_, d, rfl, hide' HF.out, rfl⟩
set_option maxRecDepth 100000 in
set_option maxHeartbeats 8000000 in
theorem rshort_neg {x SZ S e D : Nat} {v R : Int} (hD : Hid (D = 925)) (he : Hid (e = 1177)) (hxx : FloatKind.f64.format.order x x = some .eq) (h0 : FloatKind.f64.format.order x 0 = some .lt) (hSZ : SZ = Op.negFloat .f64 x) (fS : Hid (Fin SZ (S : Int))) (hb : Hid (S < Bd e)) (hR : Hid (R = -((vs D (rn 23 D S) : Nat) : Int))) (HL : Hid (∀ Y, Fin Y R → ∃ d, Ieee.double.sub x Y = some d ∧ Fin d (v - R))) (w : World) : Calls Try.prog 26 #[.float .f64 x] w fun e w' => ∃ yb d : Nat, e = .returned (.tuple #[.float .f64 yb, .float .f64 d]) ∧ Hid (Fin yb R ∧ Fin d (v - R)) ∧ w' = w := by
  have hneg : Op.unary .neg (.float .f64 x) = pure (.float .f64 SZ) := by rw [hSZ]; rfl
  clear hSZ
  obtain ⟨K1, hK1⟩ : ∃ K : Nat, K = 1201 := ⟨_, rfl⟩
  obtain ⟨K2, hK2⟩ : ∃ K : Nat, K = 1050 := ⟨_, rfl⟩
  have C1 := hide' (fun w => power_any 127 K1 w (by omega) (by omega) (by omega))
  have C2 := hide' (fun w => power_any (-24) K2 w (by omega) (by omega) (by omega))
  have HK := hide' (And.intro hK1 hK2)
  clear hK1 hK2
  go_enter Try.func26, Try.ntmps26
  go_wp2_with fail
  refine (C1.out _).mono ?_
  rintro e w1 ⟨P1, rfl, F1, hw⟩
  replace hw := hw.symm
  subst hw
  go_wp2_with fail
  refine (C2.out _).mono ?_
  rintro e w1 ⟨P2, rfl, F2, hw⟩
  replace hw := hw.symm
  subst hw
  obtain ⟨a, b, s1, s2, fb⟩ := bound_of he.out HK.out.1 HK.out.2 F1.out F2.out
  have r1 := fun w => run_sub s1 w
  have r2 := fun w => run_mul s2 w
  have oB : FloatKind.f64.format.order SZ b = some .lt := by
    have := order_fin fS.out fb
    rw [Int.compare_eq_lt.2 (by have := hb.out; omega)] at this
    exact this
  clear s1 s2 fb C1 C2 F1 F2 HK
  go_wp2_with fail
  clear r1 r2 oB
  go_loopw [5] (fun i wx => ∃ k : Nat, i = .int .i64 ((k : Int) - 126) ∧ k ≤ 253 ∧ (k = 0 ∨ ∀ K, K = 948 + k → 2 ^ K ≤ S) ∧ wx = w) (fun i _ => 253 - (intOf i + 126).toNat)
  case atStart => exact ⟨0, rfl, by omega, .inl rfl, rfl⟩
  case round =>
    obtain ⟨k, rfl, hk, hk0, hw⟩ := hrel
    subst hw
    obtain ⟨E0, hE0⟩ : ∃ E0 : Int, E0 = (k : Int) - 126 := ⟨_, rfl⟩
    rw [← hE0]
    obtain ⟨E1, hE1⟩ : ∃ E1 : Int, E1 = E0 + 1 := ⟨_, rfl⟩
    have W1 : Hid (wrap64 (E0 + 1) = E1) := hide' (by rw [hE1]; unfold wrap64; omega)
    obtain ⟨E2, hE2⟩ : ∃ E2 : Int, E2 = E0 - 23 := ⟨_, rfl⟩
    have W2 : Hid (wrap64 (E0 - 23) = E2) := hide' (by rw [hE2]; unfold wrap64; omega)
    have C3 := hide' (fun w => power_any E1 (949 + k) w (by omega) (by omega) (by omega))
    have C4 := hide' (fun w => power_any E2 (925 + k) w (by omega) (by omega) (by omega))
    have HE := hide' (And.intro hE0 (And.intro hE1 hE2))
    have HK := hide' (And.intro hk hk0)
    have TL : Hid (∀ UN, Fin UN ((2 ^ (925 + k) : Nat) : Int) → (∀ K, K = 949 + k → S < 2 ^ K) → ∃ qb U rb U' yb, Ta SZ UN (vs D (rn 23 D S)) qb U rb U' yb) := hide' (fun UN hU hk1 => tail_of hD.out he.out fS.out hb.out hk hk0 hk1 (fun K hK => by rw [hK]; exact hU))
    by_cases hlt : k < 253
    · have hlt' : E0 < 127 := by omega
      clear hE0 hE1 hE2 hk hk0
      go_wp2_with fail
      rw [W1.out]
      refine (C3.out _).mono ?_
      rintro e w1 ⟨P, rfl, F, hw⟩
      replace hw := hw.symm
      subst hw
      have oP := order_fin fS.out F.out
      rw [show Ieee.double.order SZ P = FloatKind.f64.format.order SZ P from rfl] at oP
      by_cases hge : 2 ^ (949 + k) ≤ S
      · have o2 : FloatKind.f64.format.order SZ P = some .gt ∨ FloatKind.f64.format.order SZ P = some .eq := by
          generalize 2 ^ (949 + k) = p at *
          rcases Nat.eq_or_lt_of_le hge with q | q
          · rw [q, Int.compare_eq_eq.2 rfl] at oP; exact .inr oP
          · rw [Int.compare_eq_gt.2 (by omega)] at oP; exact .inl oP
        have HF : Hid (∃ k' : Nat, Value.int .i64 E1 = .int .i64 ((k' : Int) - 126) ∧ k' ≤ 253 ∧ (k' = 0 ∨ ∀ K, K = 948 + k' → 2 ^ K ≤ S) ∧ True) := hide' ⟨k + 1, by rw [HE.out.2.1, HE.out.1]; congr 1; omega, by omega, .inr (fun K hK => by rw [hK, show 948 + (k + 1) = 949 + k by omega]; exact hge), trivial⟩
        have HM : Hid (253 - (E1 + 126).toNat < 253 - (E0 + 126).toNat) := hide' (by have := HE.out; omega)
        clear oP hge hlt
        rcases o2 with o2 | o2
        · go_wp2
          rw [W1.out]
          exact ⟨HF.out, HM.out⟩
        · go_wp2
          rw [W1.out]
          exact ⟨HF.out, HM.out⟩
      · have o2 : FloatKind.f64.format.order SZ P = some .lt := by
          generalize 2 ^ (949 + k) = p at *
          rw [Int.compare_eq_lt.2 (by omega)] at oP; exact oP
        have hk1 : Hid (∀ K, K = 949 + k → S < 2 ^ K) := hide' (fun K hK => by rw [hK]; omega)
        clear oP hge hlt
        go_wp2_with fail
        rw [W2.out]
        refine (C4.out _).mono ?_
        rintro e w1 ⟨UN, rfl, FU, hw⟩
        replace hw := hw.symm
        subst hw
        obtain ⟨qb, U, rb, U', yb, ta⟩ := TL.out UN FU.out hk1.out
        have t1 := fun w => run_div ta.dv w
        have t2 := fun w => conv_int ta.cv w
        have t3 := fun w => run_sub ta.sb w
        have t4 := fun w => run_mul ta.ml w
        rw [show FloatKind.f64.nearest ((U : Nat) : Int) = floatOfInt .f64 ((U : Nat) : Int) from rfl] at t3
        rw [show FloatKind.f64.nearest ((U' : Nat) : Int) = floatOfInt .f64 ((U' : Nat) : Int) from rfl] at t4
        have hub := ta.un
        have HW : Hid (wrap64 ((U : Int) + 1) = ((U + 1 : Nat) : Int)) := hide' (by unfold wrap64; omega)
        have m0 : U % 2 = 0 → Int.tmod (U : Int) 2 = 0 := fun q => by rw [Int.tmod_eq_emod_of_nonneg (by omega)]; omega
        have m1 : U % 2 = 1 → Int.tmod (U : Int) 2 = 1 := fun q => by rw [Int.tmod_eq_emod_of_nonneg (by omega)]; omega
        have fR : Hid (Fin (Op.negFloat .f64 yb) R) := hide' (by rw [hR.out]; exact neg_fin ta.fy)
        obtain ⟨d, sd, fd⟩ := HL.out _ fR.out
        have t5 := fun w => run_sub sd w
        have HF := hide' (And.intro fR.out fd)
        have hneg2 : Op.unary .neg (.float .f64 yb) = pure (.float .f64 (Op.negFloat .f64 yb)) := rfl
        generalize Op.negFloat .f64 yb = ny at *
        have f4 := ta.four
        have h0' := h0
        clear ta sd fd hub C3 C4 TL FU fR
        rcases f4 with ⟨o4, eU⟩ | ⟨o4, p4, eU⟩ | ⟨o4, p4, eU⟩ | ⟨o4, eU⟩
        · have hwu : wrap64 ((U : Int) + 1) = (U' : Int) := by rw [eU]; exact HW.out
          clear m0 m1 eU
          go_wp2
          go_ret2
          exact ⟨_, d, rfl, hide' HF.out, rfl⟩
        · have m3 := m1 p4
          have hwu : wrap64 ((U : Int) + 1) = (U' : Int) := by rw [eU]; exact HW.out
          clear m0 m1 p4 eU
          go_wp2
          go_ret2
          exact ⟨_, d, rfl, hide' HF.out, rfl⟩
        · subst eU
          have m3 := m0 p4
          clear m0 m1 p4
          go_wp2
          go_ret2
          exact ⟨_, d, rfl, hide' HF.out, rfl⟩
        · subst eU
          clear m0 m1
          go_wp2
          go_ret2
          exact ⟨_, d, rfl, hide' HF.out, rfl⟩
    · have hlt' : ¬ E0 < 127 := by omega
      have hk1 : Hid (∀ K, K = 949 + k → S < 2 ^ K) := hide' (fun K hK => by
        have h1 := hb.out
        have h2 := he.out
        have h3 : 33554431 * 2 ^ e < 2 ^ 25 * 2 ^ e := Nat.mul_lt_mul_of_pos_right (by decide) (Nat.two_pow_pos _)
        rw [← Nat.pow_add, show 25 + e = K by omega] at h3
        unfold Bd at h1
        omega)
      clear hE0 hE1 hE2 hk hk0 hlt
      go_wp2_with fail
      rw [W2.out]
      refine (C4.out _).mono ?_
      rintro e w1 ⟨UN, rfl, FU, hw⟩
      replace hw := hw.symm
      subst hw
      obtain ⟨qb, U, rb, U', yb, ta⟩ := TL.out UN FU.out hk1.out
      have t1 := fun w => run_div ta.dv w
      have t2 := fun w => conv_int ta.cv w
      have t3 := fun w => run_sub ta.sb w
      have t4 := fun w => run_mul ta.ml w
      rw [show FloatKind.f64.nearest ((U : Nat) : Int) = floatOfInt .f64 ((U : Nat) : Int) from rfl] at t3
      rw [show FloatKind.f64.nearest ((U' : Nat) : Int) = floatOfInt .f64 ((U' : Nat) : Int) from rfl] at t4
      have hub := ta.un
      have HW : Hid (wrap64 ((U : Int) + 1) = ((U + 1 : Nat) : Int)) := hide' (by unfold wrap64; omega)
      have m0 : U % 2 = 0 → Int.tmod (U : Int) 2 = 0 := fun q => by rw [Int.tmod_eq_emod_of_nonneg (by omega)]; omega
      have m1 : U % 2 = 1 → Int.tmod (U : Int) 2 = 1 := fun q => by rw [Int.tmod_eq_emod_of_nonneg (by omega)]; omega
      have fR : Hid (Fin (Op.negFloat .f64 yb) R) := hide' (by rw [hR.out]; exact neg_fin ta.fy)
      obtain ⟨d, sd, fd⟩ := HL.out _ fR.out
      have t5 := fun w => run_sub sd w
      have HF := hide' (And.intro fR.out fd)
      have hneg2 : Op.unary .neg (.float .f64 yb) = pure (.float .f64 (Op.negFloat .f64 yb)) := rfl
      generalize Op.negFloat .f64 yb = ny at *
      have f4 := ta.four
      have h0' := h0
      clear ta sd fd hub C3 C4 TL FU fR
      rcases f4 with ⟨o4, eU⟩ | ⟨o4, p4, eU⟩ | ⟨o4, p4, eU⟩ | ⟨o4, eU⟩
      · have hwu : wrap64 ((U : Int) + 1) = (U' : Int) := by rw [eU]; exact HW.out
        clear m0 m1 eU
        go_wp2
        go_ret2
        exact ⟨_, d, rfl, hide' HF.out, rfl⟩
      · have m3 := m1 p4
        have hwu : wrap64 ((U : Int) + 1) = (U' : Int) := by rw [eU]; exact HW.out
        clear m0 m1 p4 eU
        go_wp2
        go_ret2
        exact ⟨_, d, rfl, hide' HF.out, rfl⟩
      · subst eU
        have m3 := m0 p4
        clear m0 m1 p4
        go_wp2
        go_ret2
        exact ⟨_, d, rfl, hide' HF.out, rfl⟩
      · subst eU
        clear m0 m1
        go_wp2
        go_ret2
        exact ⟨_, d, rfl, hide' HF.out, rfl⟩
end N
end Go.Proofs.Ytfkoacjfihaajaa
