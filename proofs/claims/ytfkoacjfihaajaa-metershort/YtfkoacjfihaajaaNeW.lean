import Derived.Test.YtfkoacjfihaajaaNeP
set_option linter.unusedVariables false
set_option linter.unusedSimpArgs false
namespace Go.Proofs.Ytfkoacjfihaajaa
open Go.RowKit
namespace N
open Fl M
theorem two_fin : Fin 4611686018427387904 (2 * (Q : Int)) := by
  have := int_fin_nat (n := 2) (by omega)
  rw [show FloatKind.f64.nearest ((2 : Nat) : Int) = 4611686018427387904 by decide +kernel] at this
  exact this
theorem m33_fin : Fin 4719772409215844352 (33554431 * (Q : Int)) := by
  have := int_fin_nat (n := 33554431) (by omega)
  rw [show FloatKind.f64.nearest ((33554431 : Nat) : Int) = 4719772409215844352 by decide +kernel] at this
  exact this
theorem lim0 : Fin 4607182418800017408 (((2 ^ 0 : Nat) : Int) * (Q : Int)) := one_fin
theorem rep_pow {k c : Nat} (hk : k ≤ 104) (hc : c ≤ 33554431) : Rep (((c : Int) * ((2 ^ k : Nat) : Int)) * (Q : Int)).natAbs := by
  obtain ⟨E, hE⟩ : ∃ E : Nat, E = 1074 := ⟨_, rfl⟩
  rw [Int.natAbs_mul, Int.natAbs_mul, Int.natAbs_natCast, Int.natAbs_natCast, Int.natAbs_natCast, Q_def hE, Nat.mul_assoc, ← Nat.pow_add]
  exact rep_mk (by omega) (by omega)
theorem lim_step {k Lm : Nat} (h : Fin Lm (((2 ^ k : Nat) : Int) * (Q : Int))) (hk : k < 103) : ∃ L', Ieee.double.mul 4611686018427387904 Lm = some L' ∧ Fin L' (((2 ^ (k + 1) : Nat) : Int) * (Q : Int)) := by
  have e1 : ((2 ^ (k + 1) : Nat) : Int) = 2 * ((2 ^ k : Nat) : Int) := by rw [Nat.pow_succ, Int.natCast_mul, Int.mul_comm]; rfl
  rw [e1]
  have r := rep_pow (k := k) (c := 2) (by omega) (by omega)
  have : FO (opO .mul (some 4611686018427387904) (some Lm)) (2 * ((2 ^ k : Nat) : Int) * (Q : Int)) := by
    refine FO.mul ⟨_, rfl, two_fin⟩ ⟨_, rfl, h⟩ ?_ r
    generalize (Q : Int) = q
    generalize ((2 ^ k : Nat) : Int) = u
    simp only [Int.mul_assoc, Int.mul_left_comm, Int.mul_comm]
  obtain ⟨L', a, b⟩ := this
  exact ⟨L', a, b⟩
theorem lim_end {k Lm e : Nat} (he : e = 1177) (h : Fin Lm (((2 ^ k : Nat) : Int) * (Q : Int))) (hk : k = 103) : ∃ P, Ieee.double.mul Lm 4719772409215844352 = some P ∧ Fin P ((Bd e : Nat) : Int) := by
  have r := rep_pow (k := k) (c := 33554431) (by omega) (by omega)
  have hB : ((Bd e : Nat) : Int) = (33554431 * ((2 ^ k : Nat) : Int)) * (Q : Int) := by
    obtain ⟨E, hE⟩ : ∃ E : Nat, E = 1074 := ⟨_, rfl⟩
    unfold Bd
    rw [Q_def hE, show e = k + E by omega, Nat.pow_add, ← Nat.mul_assoc, Int.natCast_mul, Int.natCast_mul]; rfl
  rw [hB]
  have : FO (opO .mul (some Lm) (some 4719772409215844352)) (33554431 * ((2 ^ k : Nat) : Int) * (Q : Int)) := by
    refine FO.mul ⟨_, rfl, h⟩ ⟨_, rfl, m33_fin⟩ ?_ r
    generalize (Q : Int) = q
    generalize ((2 ^ k : Nat) : Int) = u
    simp only [Int.mul_assoc, Int.mul_left_comm, Int.mul_comm]
  obtain ⟨L', a, b⟩ := this
  exact ⟨L', a, b⟩
set_option maxRecDepth 100000 in
set_option maxHeartbeats 4000000 in
theorem near_of {x z yb lost YW T SZ Z own none_ zz k k2 e : Nat} {w : World} (he : Hid (e = 1177)) (hxx : FloatKind.f64.format.order x x = some .eq) (S1 : Hid (∀ w, Calls Try.prog 25 #[.float .f64 x] w fun e w' => e = .returned (.tuple #[.float .f32 yb, .float .f64 lost]) ∧ w' = w))
    (HX : Hid ((∀ w, (convert 45 27 (.float .f32 yb)).run Try.prog w = .ok (.float .f64 YW) w) ∧ (∀ w, (binOp .add 27 (.float .f64 YW) (.float .f64 lost)).run Try.prog w = .ok (.float .f64 T) w) ∧ FloatKind.f64.format.order T x = some .eq)) (HA : Hid (∀ w, Calls Try.prog 33 #[.float .f64 x] w fun e w' => e = .returned (.float .f64 SZ) ∧ w' = w)) (HS : Hid (∀ P, Fin P ((Bd e : Nat) : Int) → (FloatKind.f64.format.order SZ P = some .gt ∨ FloatKind.f64.format.order SZ P = some .eq)))
    (HZ : Hid (Zk z w Z own none_ zz k k2)) (hz : FloatKind.f32.format.order own z = some .eq ∧ FloatKind.f64.format.order none_ 0 = some .eq ∧ FloatKind.f32.format.order zz 0 = some .eq) (hy : FloatKind.f32.format.order yb 0 = some .eq) :
    Calls Try.prog 14 #[.float .f64 x, .float .f32 z] w fun e w' => e = .returned (.bool true) ∧ Below w.heap.size w w' := by
  obtain ⟨z1, z2, z3⟩ := hz
  go_enter Try.func14, Try.ntmps14
  go_wp2_with fail
  refine (S1.out _).mono ?_
  rintro e w1 ⟨rfl, hw⟩
  replace hw := hw.symm
  subst hw
  have cY := HX.out.1
  have sT := HX.out.2.1
  have oT := HX.out.2.2
  have cZ := HZ.out.cv
  go_wp2_with fail
  refine (HZ.out.sh _).mono ?_
  rintro e w2 ⟨rfl, hw⟩
  replace hw := hw.symm
  subst hw
  clear cY sT oT cZ
  have sZ := HZ.out.sb
  go_wp2_with fail
  refine (HA.out _).mono ?_
  rintro e w2 ⟨rfl, hw⟩
  replace hw := hw.symm
  subst hw
  clear sZ
  obtain ⟨W, hW⟩ : ∃ W, W = w.drewN (k + k2) := ⟨_, rfl⟩
  rw [← hW]
  have HW : Hid (Below w.heap.size w W) := hide' (by rw [hW]; exact below_drewN _ _)
  clear hW
  go_wp2_with fail
  go_loopw [11, 12] (fun x i wx => ∃ k Lm : Nat, x = .float .f64 Lm ∧ i = .int .i64 (k : Int) ∧ k ≤ 103 ∧ Fin Lm (((2 ^ k : Nat) : Int) * (Q : Int)) ∧ wx = W) (fun _ i _ => 103 - (intOf i).toNat)
  case atStart => exact ⟨0, _, rfl, rfl, Nat.zero_le _, lim0, rfl⟩
  case round =>
    obtain ⟨k, Lm, rfl, rfl, hk, hL, rfl⟩ := hrel
    by_cases hlt : k < 103
    · have hlt' : (k : Int) < 103 := by omega
      obtain ⟨L', e', f'⟩ := lim_step hL hlt
      have hm := fun w => run_mul e' w
      have HF := hide' f'
      have Hlt := hide' hlt
      clear hL e' f' hlt hk
      go_wp2
      exact ⟨⟨k + 1, L', rfl, rfl, Hlt.out, HF.out, trivial⟩, msr' Hlt.out _ rfl⟩
    · obtain ⟨P, eP, fP⟩ := lim_end he.out hL (show k = 103 by omega)
      have hN' : ¬ ((k : Int) < 103) := by omega
      have hm := fun w => run_mul eP w
      have oP := HS.out P fP
      clear hL eP fP hlt hk
      rcases oP with oP | oP
      · go_wp2
        go_ret
        exact ⟨rfl, HW.out⟩
      · go_wp2
        go_ret
        exact ⟨rfl, HW.out⟩
set_option maxRecDepth 100000 in
set_option maxHeartbeats 4000000 in
theorem near_oh {x z yb lost YW T SZ Z own none_ zz k k2 e : Nat} {w : World} (he : Hid (e = 1177)) (hxx : FloatKind.f64.format.order x x = some .eq) (S1 : Hid (∀ w, Calls Try.prog 25 #[.float .f64 x] w fun e w' => e = .returned (.tuple #[.float .f32 yb, .float .f64 lost]) ∧ w' = w))
    (HX : Hid ((∀ w, (convert 45 27 (.float .f32 yb)).run Try.prog w = .ok (.float .f64 YW) w) ∧ (∀ w, (binOp .add 27 (.float .f64 YW) (.float .f64 lost)).run Try.prog w = .ok (.float .f64 T) w) ∧ FloatKind.f64.format.order T x = some .eq)) (HA : Hid (∀ w, Calls Try.prog 33 #[.float .f64 x] w fun e w' => e = .returned (.float .f64 SZ) ∧ w' = w)) (HS : Hid (∀ P, Fin P ((Bd e : Nat) : Int) → (FloatKind.f64.format.order SZ P = some .gt ∨ FloatKind.f64.format.order SZ P = some .eq)))
    (HZ : Hid (Zk z w Z own none_ zz k k2)) (hz : FloatKind.f32.format.order own 0 = some .eq ∧ FloatKind.f32.format.order zz 0 = none) (hy : FloatKind.f32.format.order yb 0 = some .eq) :
    Calls Try.prog 14 #[.float .f64 x, .float .f32 z] w fun e w' => e = .returned (.bool true) ∧ Below w.heap.size w w' := by
  obtain ⟨z1, z2⟩ := hz
  go_enter Try.func14, Try.ntmps14
  go_wp2_with fail
  refine (S1.out _).mono ?_
  rintro e w1 ⟨rfl, hw⟩
  replace hw := hw.symm
  subst hw
  have cY := HX.out.1
  have sT := HX.out.2.1
  have oT := HX.out.2.2
  have cZ := HZ.out.cv
  go_wp2_with fail
  refine (HZ.out.sh _).mono ?_
  rintro e w2 ⟨rfl, hw⟩
  replace hw := hw.symm
  subst hw
  clear cY sT oT cZ
  have sZ := HZ.out.sb
  go_wp2_with fail
  refine (HA.out _).mono ?_
  rintro e w2 ⟨rfl, hw⟩
  replace hw := hw.symm
  subst hw
  clear sZ
  obtain ⟨W, hW⟩ : ∃ W, W = w.drewN (k + k2) := ⟨_, rfl⟩
  rw [← hW]
  have HW : Hid (Below w.heap.size w W) := hide' (by rw [hW]; exact below_drewN _ _)
  clear hW
  go_wp2_with fail
  go_loopw [11, 12] (fun x i wx => ∃ k Lm : Nat, x = .float .f64 Lm ∧ i = .int .i64 (k : Int) ∧ k ≤ 103 ∧ Fin Lm (((2 ^ k : Nat) : Int) * (Q : Int)) ∧ wx = W) (fun _ i _ => 103 - (intOf i).toNat)
  case atStart => exact ⟨0, _, rfl, rfl, Nat.zero_le _, lim0, rfl⟩
  case round =>
    obtain ⟨k, Lm, rfl, rfl, hk, hL, rfl⟩ := hrel
    by_cases hlt : k < 103
    · have hlt' : (k : Int) < 103 := by omega
      obtain ⟨L', e', f'⟩ := lim_step hL hlt
      have hm := fun w => run_mul e' w
      have HF := hide' f'
      have Hlt := hide' hlt
      clear hL e' f' hlt hk
      go_wp2
      exact ⟨⟨k + 1, L', rfl, rfl, Hlt.out, HF.out, trivial⟩, msr' Hlt.out _ rfl⟩
    · obtain ⟨P, eP, fP⟩ := lim_end he.out hL (show k = 103 by omega)
      have hN' : ¬ ((k : Int) < 103) := by omega
      have hm := fun w => run_mul eP w
      have oP := HS.out P fP
      clear hL eP fP hlt hk
      rcases oP with oP | oP
      · go_wp2
        go_ret
        exact ⟨rfl, HW.out⟩
      · go_wp2
        go_ret
        exact ⟨rfl, HW.out⟩
set_option maxRecDepth 100000 in
set_option maxHeartbeats 4000000 in
theorem near_ih {x z yb lost YW T SZ Z own none_ zz k k2 e : Nat} {w : World} (he : Hid (e = 1177)) (hxx : FloatKind.f64.format.order x x = some .eq) (S1 : Hid (∀ w, Calls Try.prog 25 #[.float .f64 x] w fun e w' => e = .returned (.tuple #[.float .f32 yb, .float .f64 lost]) ∧ w' = w))
    (HX : Hid ((∀ w, (convert 45 27 (.float .f32 yb)).run Try.prog w = .ok (.float .f64 YW) w) ∧ (∀ w, (binOp .add 27 (.float .f64 YW) (.float .f64 lost)).run Try.prog w = .ok (.float .f64 T) w) ∧ FloatKind.f64.format.order T x = some .eq)) (HA : Hid (∀ w, Calls Try.prog 33 #[.float .f64 x] w fun e w' => e = .returned (.float .f64 SZ) ∧ w' = w)) (HS : Hid (∀ P, Fin P ((Bd e : Nat) : Int) → FloatKind.f64.format.order SZ P = some .lt))
    (HZ : Hid (Zk z w Z own none_ zz k k2)) (hz : FloatKind.f32.format.order own 0 = some .eq ∧ FloatKind.f32.format.order zz 0 = none) :
    Calls Try.prog 14 #[.float .f64 x, .float .f32 z] w fun e w' => e = .returned (.bool true) ∧ Below w.heap.size w w' := by
  obtain ⟨z1, z2⟩ := hz
  go_enter Try.func14, Try.ntmps14
  go_wp2_with fail
  refine (S1.out _).mono ?_
  rintro e w1 ⟨rfl, hw⟩
  replace hw := hw.symm
  subst hw
  have cY := HX.out.1
  have sT := HX.out.2.1
  have oT := HX.out.2.2
  have cZ := HZ.out.cv
  go_wp2_with fail
  refine (HZ.out.sh _).mono ?_
  rintro e w2 ⟨rfl, hw⟩
  replace hw := hw.symm
  subst hw
  clear cY sT oT cZ
  have sZ := HZ.out.sb
  go_wp2_with fail
  refine (HA.out _).mono ?_
  rintro e w2 ⟨rfl, hw⟩
  replace hw := hw.symm
  subst hw
  clear sZ
  obtain ⟨W, hW⟩ : ∃ W, W = w.drewN (k + k2) := ⟨_, rfl⟩
  rw [← hW]
  have HW : Hid (Below w.heap.size w W) := hide' (by rw [hW]; exact below_drewN _ _)
  clear hW
  go_wp2_with fail
  go_loopw [11, 12] (fun x i wx => ∃ k Lm : Nat, x = .float .f64 Lm ∧ i = .int .i64 (k : Int) ∧ k ≤ 103 ∧ Fin Lm (((2 ^ k : Nat) : Int) * (Q : Int)) ∧ wx = W) (fun _ i _ => 103 - (intOf i).toNat)
  case atStart => exact ⟨0, _, rfl, rfl, Nat.zero_le _, lim0, rfl⟩
  case round =>
    obtain ⟨k, Lm, rfl, rfl, hk, hL, rfl⟩ := hrel
    by_cases hlt : k < 103
    · have hlt' : (k : Int) < 103 := by omega
      obtain ⟨L', e', f'⟩ := lim_step hL hlt
      have hm := fun w => run_mul e' w
      have HF := hide' f'
      have Hlt := hide' hlt
      clear hL e' f' hlt hk
      go_wp2
      exact ⟨⟨k + 1, L', rfl, rfl, Hlt.out, HF.out, trivial⟩, msr' Hlt.out _ rfl⟩
    · obtain ⟨P, eP, fP⟩ := lim_end he.out hL (show k = 103 by omega)
      have hN' : ¬ ((k : Int) < 103) := by omega
      have hm := fun w => run_mul eP w
      have oP := HS.out P fP
      clear hL eP fP hlt hk
      go_wp2
      go_ret
      exact ⟨rfl, HW.out⟩
set_option maxRecDepth 100000 in
set_option maxHeartbeats 4000000 in
theorem near_if {x z yb lost YW T SZ Z own none_ zz k k2 e : Nat} {w : World} (he : Hid (e = 1177)) (hxx : FloatKind.f64.format.order x x = some .eq) (S1 : Hid (∀ w, Calls Try.prog 25 #[.float .f64 x] w fun e w' => e = .returned (.tuple #[.float .f32 yb, .float .f64 lost]) ∧ w' = w))
    (HX : Hid ((∀ w, (convert 45 27 (.float .f32 yb)).run Try.prog w = .ok (.float .f64 YW) w) ∧ (∀ w, (binOp .add 27 (.float .f64 YW) (.float .f64 lost)).run Try.prog w = .ok (.float .f64 T) w) ∧ FloatKind.f64.format.order T x = some .eq)) (HA : Hid (∀ w, Calls Try.prog 33 #[.float .f64 x] w fun e w' => e = .returned (.float .f64 SZ) ∧ w' = w)) (HS : Hid (∀ P, Fin P ((Bd e : Nat) : Int) → FloatKind.f64.format.order SZ P = some .lt))
    (HZ : Hid (Zk z w Z own none_ zz k k2)) (hz : FloatKind.f32.format.order own z = some .eq ∧ FloatKind.f64.format.order none_ 0 = some .eq ∧ FloatKind.f32.format.order zz 0 = some .eq) (hA : ∃ A d A', (∀ w, Calls Try.prog 33 #[.float .f64 lost] w fun e w' => e = .returned (.float .f64 A) ∧ w' = w) ∧ Ieee.double.sub x Z = some d ∧ (∀ w, Calls Try.prog 33 #[.float .f64 d] w fun e w' => e = .returned (.float .f64 A') ∧ w' = w) ∧ (FloatKind.f64.format.order A A' = some .lt ∨ FloatKind.f64.format.order A A' = some .eq)) (hcz : floatToFloatBits .f32 z .f64 = some Z) :
    Calls Try.prog 14 #[.float .f64 x, .float .f32 z] w fun e w' => e = .returned (.bool true) ∧ Below w.heap.size w w' := by
  obtain ⟨z1, z2, z3⟩ := hz
  go_enter Try.func14, Try.ntmps14
  go_wp2_with fail
  refine (S1.out _).mono ?_
  rintro e w1 ⟨rfl, hw⟩
  replace hw := hw.symm
  subst hw
  have cY := HX.out.1
  have sT := HX.out.2.1
  have oT := HX.out.2.2
  have cZ := HZ.out.cv
  go_wp2_with fail
  refine (HZ.out.sh _).mono ?_
  rintro e w2 ⟨rfl, hw⟩
  replace hw := hw.symm
  subst hw
  clear cY sT oT cZ
  have sZ := HZ.out.sb
  go_wp2_with fail
  refine (HA.out _).mono ?_
  rintro e w2 ⟨rfl, hw⟩
  replace hw := hw.symm
  subst hw
  clear sZ
  obtain ⟨W, hW⟩ : ∃ W, W = w.drewN (k + k2) := ⟨_, rfl⟩
  rw [← hW]
  have HW : Hid (Below w.heap.size w W) := hide' (by rw [hW]; exact below_drewN _ _)
  clear hW
  go_wp2_with fail
  go_loopw [11, 12] (fun x i wx => ∃ k Lm : Nat, x = .float .f64 Lm ∧ i = .int .i64 (k : Int) ∧ k ≤ 103 ∧ Fin Lm (((2 ^ k : Nat) : Int) * (Q : Int)) ∧ wx = W) (fun _ i _ => 103 - (intOf i).toNat)
  case atStart => exact ⟨0, _, rfl, rfl, Nat.zero_le _, lim0, rfl⟩
  case round =>
    obtain ⟨k, Lm, rfl, rfl, hk, hL, rfl⟩ := hrel
    by_cases hlt : k < 103
    · have hlt' : (k : Int) < 103 := by omega
      obtain ⟨L', e', f'⟩ := lim_step hL hlt
      have hm := fun w => run_mul e' w
      have HF := hide' f'
      have Hlt := hide' hlt
      clear hL e' f' hlt hk
      go_wp2
      exact ⟨⟨k + 1, L', rfl, rfl, Hlt.out, HF.out, trivial⟩, msr' Hlt.out _ rfl⟩
    · obtain ⟨P, eP, fP⟩ := lim_end he.out hL (show k = 103 by omega)
      have hN' : ¬ ((k : Int) < 103) := by omega
      have hm := fun w => run_mul eP w
      have oP := HS.out P fP
      clear hL eP fP hlt hk
      obtain ⟨A, d, A', cA, sd, cA', oA⟩ := hA
      have CA := hide' cA
      have CA' := hide' cA'
      have rd := fun w => run_sub sd w
      have cz := fun w => conv_3264 hcz w
      clear cA cA' sd
      go_wp2_with fail
      refine (CA.out _).mono ?_
      rintro e w3 ⟨rfl, hw⟩
      replace hw := hw.symm
      subst hw
      go_wp2_with fail
      refine (CA'.out _).mono ?_
      rintro e w3 ⟨rfl, hw⟩
      replace hw := hw.symm
      subst hw
      rcases oA with oA | oA
      · go_wp2
        go_ret
        exact ⟨rfl, HW.out⟩
      · go_wp2
        go_ret
        exact ⟨rfl, HW.out⟩
end N
end Go.Proofs.Ytfkoacjfihaajaa
