import Derived.Test.YtclmnkilfijeaaaDoorNuD
set_option linter.unusedVariables false
set_option linter.unusedSimpArgs false
namespace Go.Proofs.YtclmnkilfijeaaaDoor
open Go.RowKit
set_option maxRecDepth 100000 in
set_option maxHeartbeats 8000000 in
theorem short_low (r s0 m y s h l : Nat) (w : World) (h12 : 12 ≤ s0) (h63 : s0 ≤ 63) (hm : m = r * 2 ^ s0) (hy : 2 * y = 2 ^ s0) (m1 : 9223372036854775808 ≤ m) (m2 : m + y < 18446744073709551616) (hy2 : y ≤ 4611686018427387904) (hr : r < 4503599627370496)
    (hs : s = s0 - 5) (hh : 9223372036854775808 ≤ h) (hh2 : h < 18446744073709551616) (hl : l < 18446744073709551616)
    (h3 : 3 < w.heap.size) (hT : PwAt w 324 h l) :
    Calls Tryd.prog 31 #[.int .u64 (m : Nat), .int .i64 (-((1074 + s0 : Nat) : Int))] w fun e w' =>
      e = .returned (.tuple #[.int .u64 (Fp.pickU (r % 2) (Fp.usc (m - y) h l s) (Fp.usc (m + y) h l s) (Fp.usc m h l s) 324).1, .int .i64 (-((Fp.pickU (r % 2) (Fp.usc (m - y) h l s) (Fp.usc (m + y) h l s) (Fp.usc m h l s) 324).2 : Int))]) ∧ Below w.heap.size w w' := by
  have hy0 : 0 < y := by
    have : 0 < 2 ^ s0 := Nat.two_pow_pos _
    omega
  obtain ⟨o, ho⟩ : ∃ o, o = r % 2 := ⟨_, rfl⟩
  rw [← ho]
  have o1 : o ≤ 1 := by omega
  have b1 := Fp.usc_le (m - y) h l s (by omega) (by omega) hh2
  have b2 := Fp.usc_le (m + y) h l s (by omega) (by omega) hh2
  have b3 := Fp.usc_le m h l s (by omega) (by omega) hh2
  have q2 := usc_pos (x := m + y) (l := l) (s := s) (by omega) (by omega) hh hh2 (by omega)
  have sp : 7 ≤ s := by omega
  have e64 : 2 ^ (64 - s) ≤ 2 ^ 60 := Nat.pow_le_pow_right (by omega) (by omega)
  have e60 : (2 : Nat) ^ 60 = 1152921504606846976 := by decide
  have HU1 := hide' fun b w k0 k1 k2 => uscale_any (m - y) h l s b w (by omega) hh2 hl (by omega) k0 k1 k2
  have HU2 := hide' fun b w k0 k1 k2 => uscale_any (m + y) h l s b w (by omega) hh2 hl (by omega) k0 k1 k2
  have HU3 := hide' fun b w k0 k1 k2 => uscale_any m h l s b w (by omega) hh2 hl (by omega) k0 k1 k2
  generalize Fp.usc (m - y) h l s = u1 at *
  generalize Fp.usc (m + y) h l s = u2 at *
  generalize Fp.usc m h l s = u3 at *
  generalize 2 ^ (64 - s) = z at *
  have v1 : u1 < 1152921504606846976 := by omega
  have v2 : u2 < 1152921504606846976 := by omega
  have v3 : u3 < 1152921504606846976 := by omega
  clear b1 b2 b3 e64 e60
  have HN1 := hide' fun w => nudge_any u1 o (by omega) (by omega) w
  have HN2 := hide' fun w => nudge_any u2 (-(o : Int)) (by omega) (by omega) w
  obtain ⟨n1, hn1⟩ : ∃ n1 : Nat, n1 = u1 + o := ⟨_, rfl⟩
  obtain ⟨n2, hn2⟩ : ∃ n2 : Nat, n2 = u2 - o := ⟨_, rfl⟩
  rw [show (u1 : Int) + (o : Int) = (n1 : Int) by omega] at HN1
  rw [show (u2 : Int) + -(o : Int) = (n2 : Int) by omega] at HN2
  have HC := hide' fun w => ceil_any n1 (by omega) w
  have HF := hide' fun w => floor_any n2 (by omega) w
  have HR := hide' fun w => round_any u3 (by omega) w
  have hpk : Fp.pickU o u1 u2 u3 324 = (if (n1 + 3) / 4 ≤ n2 / 4 / 10 * 10 then (n2 / 4 / 10, 324 - 1) else if (n1 + 3) / 4 < n2 / 4 then (Fp.rnd u3, 324) else ((n1 + 3) / 4, 324)) := by
    unfold Fp.pickU; rw [hn1, hn2]
  rw [hpk]
  have vd : n2 / 4 < 1152921504606846976 := by omega
  have vc : (n1 + 3) / 4 < 1152921504606846976 := by omega
  generalize (n1 + 3) / 4 = dmin at *
  generalize n2 / 4 = dmax at *
  generalize Fp.rnd u3 = dr at *
  have HP := hide' fun b w hb k0 k1 k2 f0 f1 f2 t => prescale_any b h l 324 1076 s (-((1074 + s0 : Nat) : Int)) w hb (by omega) (by omega) (by omega) (by omega) (by omega) k0 k1 k2 f0 f1 f2 t
  have HT := hide' hT
  have HL := hide' fun w => log10Pow2_any (-1074) (by omega) (by omega) w
  rw [show (-1074 : Int) * 78913 / 262144 = -324 by decide] at HL
  have HM := hide' fun w => log2Pow10_any 324 (by omega) (by omega) w
  rw [show (324 : Int) * 108853 / 32768 = 1076 by decide] at HM
  obtain ⟨E, hE⟩ : ∃ E : Int, E = -((1074 + s0 : Nat) : Int) := ⟨_, rfl⟩
  rw [← hE] at HP ⊢
  have hz : ¬ (3 = w.heap.size) := by omega
  have HH := hide' (And.intro hpk (And.intro h3 (And.intro hn1 hn2)))
  obtain ⟨M, hM⟩ : ∃ M : Int, M = m := ⟨_, rfl⟩
  obtain ⟨Y, hY⟩ : ∃ Y : Int, Y = y := ⟨_, rfl⟩
  have a1 : E ≤ -1086 := by omega
  have a2 : -1137 ≤ E := by omega
  have m3 : 9223372036854775808 ≤ M := by omega
  have m4 : M + Y < 18446744073709551616 := by omega
  have m5 : 0 < Y := by omega
  have m6 : Y ≤ 4611686018427387904 := by omega
  rw [← hM]
  have hE3 : decide (-1085 ≤ E) = false := decide_eq_false (by omega)
  have hE4 : decide (-1085 < E) = false := decide_eq_false (by omega)
  rw [show (-1074 : Int) = E + (11 + (-1085 - E)) by omega] at HL
  have hE5 : 0 ≤ 11 + (-1085 - E) - 1 := by omega
  have hE6 : 11 + (-1085 - E) - 1 ≤ 64 := by omega
  have hz0 : (11 + (-1085 - E)).toNat = s0 := by omega
  obtain ⟨RR, hRR⟩ : ∃ R : Int, R = r := ⟨_, rfl⟩
  have hpw : 2 ^ (s0 - 1) = y := by
    have q : 2 ^ (s0 - 1 + 1) = 2 * 2 ^ (s0 - 1) := Nat.pow_succ'
    rw [show s0 - 1 + 1 = s0 by omega] at q
    omega
  have e1 : IntKind.u64.wrap (2 ^ ((11 + (-1085 - E)).toNat - 1)) = Y := by
    rw [hz0]
    have : ((2 : Int) ^ (s0 - 1)) = ((2 ^ (s0 - 1) : Nat) : Int) := by push_cast; rfl
    rw [this, hpw, wrapu (by omega) (by omega), hY]
  have e2 : M / 2 ^ (11 + (-1085 - E)).toNat = RR := by
    rw [hz0, hM, hm]
    have : ((r * 2 ^ s0 : Nat) : Int) / 2 ^ s0 = ((r * 2 ^ s0 / 2 ^ s0 : Nat) : Int) := by push_cast; rfl
    rw [this, Nat.mul_div_cancel _ (Nat.two_pow_pos _), hRR]
  have e3 : bits .and .i64 RR 1 = (o : Int) := by rw [hRR, and_one_i64 r (by omega), ho]
  have r1 : 0 ≤ RR := by omega
  have r2 : RR < 4503599627370496 := by omega
  rw [show ((m - y : Nat) : Int) = M - Y by omega] at HU1
  rw [show ((m + y : Nat) : Int) = M + Y by omega] at HU2
  rw [← hM] at HU3
  obtain ⟨DX, hDX⟩ : ∃ M : Int, M = dmax := ⟨_, rfl⟩
  obtain ⟨DN, hDN⟩ : ∃ M : Int, M = dmin := ⟨_, rfl⟩
  obtain ⟨DR, hDR⟩ : ∃ M : Int, M = dr := ⟨_, rfl⟩
  obtain ⟨k, X, hk, hX, hcase⟩ : ∃ (k : Nat) (X : Int), (if dmin ≤ dmax / 10 * 10 then (dmax / 10, 324 - 1) else if dmin < dmax then (dr, 324) else (dmin, 324)).2 = k ∧ X = ((if dmin ≤ dmax / 10 * 10 then (dmax / 10, 324 - 1) else if dmin < dmax then (dr, 324) else (dmin, 324)).1 : Nat) ∧
      ((DN ≤ DX / 10 * 10 ∧ X = DX / 10 ∧ k = 323) ∨ (¬ (DN ≤ DX / 10 * 10) ∧ DN < DX ∧ X = DR ∧ k = 324) ∨ (¬ (DN ≤ DX / 10 * 10) ∧ ¬ (DN < DX) ∧ X = DN ∧ k = 324)) := by
    refine ⟨_, _, rfl, rfl, ?_⟩
    split
    · left; simp only; exact ⟨by omega, by omega, by first | rfl | trivial | omega⟩
    · right
      split
      · left; simp only; refine ⟨by omega, by omega, ?_⟩; simp only [and_true]; omega
      · right; simp only; refine ⟨by omega, by omega, ?_⟩; simp only [and_true]; omega
  rw [hk, ← hX]
  have hX0 : 0 ≤ X := by omega
  clear hk hX
  have i1 : DX < 1152921504606846976 := by omega
  have i2 : DN < 1152921504606846976 := by omega
  have i3 : 0 ≤ DX := by omega
  have i4 : 0 ≤ DN := by omega
  rw [← hDX] at HF
  rw [← hDN] at HC
  rw [← hDR] at HR
  clear m1 m2 hh hh2 hl v1 v2 v3 vd vc q2 hT hpk hn1 hn2 hs hy2 hy0 hr hE hM hY hm hy hDX hDN hDR hRR hz0 hpw ho
  cases hm0 : (M == 9223372036854775808)
  · rcases hcase with ⟨g1, rfl, rfl⟩ | ⟨g1, g2, rfl, rfl⟩ | ⟨g1, g2, rfl, rfl⟩
    · go_enter Tryd.func31, Tryd.ntmps31
      go_wp2_with (fail)
      refine (HL.out _).mono ?_
      rintro e w1 ⟨rfl, rfl⟩
      go_wp2_with (fail)
      refine (HM.out _).mono ?_
      rintro e w1 ⟨rfl, rfl⟩
      go_wp2_with (fail)
      refine (HP.out _ _ (fun q => hz q.symm) (by simp) (by simp) (by simp) (by simp) (by simp) (by simp) (HT.out.turn (S := fun _ => False) ((Turn.refl _ _).alloc _) HH.out.2.1 (fun q => q))).mono ?_
      rintro e w2 ⟨rfl, k0, k1, k2, ht⟩
      have R1 := hide' (And.intro k0 (And.intro k1 (And.intro k2 ht)))
      clear k0 k1 k2 ht
      go_wp2_with (fail)
      refine (HU1.out _ _ R1.out.1 R1.out.2.1 R1.out.2.2.1).mono ?_
      rintro e w3 ⟨rfl, d3, rfl⟩
      go_wp2_with (fail)
      refine (HN1.out _).mono ?_
      rintro e w1 ⟨rfl, rfl⟩
      go_wp2_with (fail)
      refine (HC.out _).mono ?_
      rintro e w1 ⟨rfl, rfl⟩
      go_wp2_with (fail)
      refine (HU2.out _ _ (cd R1.out.1 _) (cd R1.out.2.1 _) (cd R1.out.2.2.1 _)).mono ?_
      rintro e w4 ⟨rfl, d4, rfl⟩
      go_wp2_with (fail)
      refine (HN2.out _).mono ?_
      rintro e w1 ⟨rfl, rfl⟩
      go_wp2_with (fail)
      refine (HF.out _).mono ?_
      rintro e w1 ⟨rfl, rfl⟩
      go_wp2_with (fail)
      go_ret2
      exact ⟨rfl, short_below R1.out.2.2.2 _⟩
    · go_enter Tryd.func31, Tryd.ntmps31
      go_wp2_with (fail)
      refine (HL.out _).mono ?_
      rintro e w1 ⟨rfl, rfl⟩
      go_wp2_with (fail)
      refine (HM.out _).mono ?_
      rintro e w1 ⟨rfl, rfl⟩
      go_wp2_with (fail)
      refine (HP.out _ _ (fun q => hz q.symm) (by simp) (by simp) (by simp) (by simp) (by simp) (by simp) (HT.out.turn (S := fun _ => False) ((Turn.refl _ _).alloc _) HH.out.2.1 (fun q => q))).mono ?_
      rintro e w2 ⟨rfl, k0, k1, k2, ht⟩
      have R1 := hide' (And.intro k0 (And.intro k1 (And.intro k2 ht)))
      clear k0 k1 k2 ht
      go_wp2_with (fail)
      refine (HU1.out _ _ R1.out.1 R1.out.2.1 R1.out.2.2.1).mono ?_
      rintro e w3 ⟨rfl, d3, rfl⟩
      go_wp2_with (fail)
      refine (HN1.out _).mono ?_
      rintro e w1 ⟨rfl, rfl⟩
      go_wp2_with (fail)
      refine (HC.out _).mono ?_
      rintro e w1 ⟨rfl, rfl⟩
      go_wp2_with (fail)
      refine (HU2.out _ _ (cd R1.out.1 _) (cd R1.out.2.1 _) (cd R1.out.2.2.1 _)).mono ?_
      rintro e w4 ⟨rfl, d4, rfl⟩
      go_wp2_with (fail)
      refine (HN2.out _).mono ?_
      rintro e w1 ⟨rfl, rfl⟩
      go_wp2_with (fail)
      refine (HF.out _).mono ?_
      rintro e w1 ⟨rfl, rfl⟩
      go_wp2_with (fail)
      refine (HU3.out _ _ (cd R1.out.1 _) (cd R1.out.2.1 _) (cd R1.out.2.2.1 _)).mono ?_
      rintro e w5 ⟨rfl, d5, rfl⟩
      go_wp2_with (fail)
      refine (HR.out _).mono ?_
      rintro e w1 ⟨rfl, rfl⟩
      go_wp2_with (fail)
      go_ret2
      exact ⟨rfl, short_below R1.out.2.2.2 _⟩
    · go_enter Tryd.func31, Tryd.ntmps31
      go_wp2_with (fail)
      refine (HL.out _).mono ?_
      rintro e w1 ⟨rfl, rfl⟩
      go_wp2_with (fail)
      refine (HM.out _).mono ?_
      rintro e w1 ⟨rfl, rfl⟩
      go_wp2_with (fail)
      refine (HP.out _ _ (fun q => hz q.symm) (by simp) (by simp) (by simp) (by simp) (by simp) (by simp) (HT.out.turn (S := fun _ => False) ((Turn.refl _ _).alloc _) HH.out.2.1 (fun q => q))).mono ?_
      rintro e w2 ⟨rfl, k0, k1, k2, ht⟩
      have R1 := hide' (And.intro k0 (And.intro k1 (And.intro k2 ht)))
      clear k0 k1 k2 ht
      go_wp2_with (fail)
      refine (HU1.out _ _ R1.out.1 R1.out.2.1 R1.out.2.2.1).mono ?_
      rintro e w3 ⟨rfl, d3, rfl⟩
      go_wp2_with (fail)
      refine (HN1.out _).mono ?_
      rintro e w1 ⟨rfl, rfl⟩
      go_wp2_with (fail)
      refine (HC.out _).mono ?_
      rintro e w1 ⟨rfl, rfl⟩
      go_wp2_with (fail)
      refine (HU2.out _ _ (cd R1.out.1 _) (cd R1.out.2.1 _) (cd R1.out.2.2.1 _)).mono ?_
      rintro e w4 ⟨rfl, d4, rfl⟩
      go_wp2_with (fail)
      refine (HN2.out _).mono ?_
      rintro e w1 ⟨rfl, rfl⟩
      go_wp2_with (fail)
      refine (HF.out _).mono ?_
      rintro e w1 ⟨rfl, rfl⟩
      go_wp2_with (fail)
      go_ret2
      exact ⟨rfl, short_below R1.out.2.2.2 _⟩
  · rcases hcase with ⟨g1, rfl, rfl⟩ | ⟨g1, g2, rfl, rfl⟩ | ⟨g1, g2, rfl, rfl⟩
    · go_enter Tryd.func31, Tryd.ntmps31
      go_wp2_with (fail)
      refine (HL.out _).mono ?_
      rintro e w1 ⟨rfl, rfl⟩
      go_wp2_with (fail)
      refine (HM.out _).mono ?_
      rintro e w1 ⟨rfl, rfl⟩
      go_wp2_with (fail)
      refine (HP.out _ _ (fun q => hz q.symm) (by simp) (by simp) (by simp) (by simp) (by simp) (by simp) (HT.out.turn (S := fun _ => False) ((Turn.refl _ _).alloc _) HH.out.2.1 (fun q => q))).mono ?_
      rintro e w2 ⟨rfl, k0, k1, k2, ht⟩
      have R1 := hide' (And.intro k0 (And.intro k1 (And.intro k2 ht)))
      clear k0 k1 k2 ht
      go_wp2_with (fail)
      refine (HU1.out _ _ R1.out.1 R1.out.2.1 R1.out.2.2.1).mono ?_
      rintro e w3 ⟨rfl, d3, rfl⟩
      go_wp2_with (fail)
      refine (HN1.out _).mono ?_
      rintro e w1 ⟨rfl, rfl⟩
      go_wp2_with (fail)
      refine (HC.out _).mono ?_
      rintro e w1 ⟨rfl, rfl⟩
      go_wp2_with (fail)
      refine (HU2.out _ _ (cd R1.out.1 _) (cd R1.out.2.1 _) (cd R1.out.2.2.1 _)).mono ?_
      rintro e w4 ⟨rfl, d4, rfl⟩
      go_wp2_with (fail)
      refine (HN2.out _).mono ?_
      rintro e w1 ⟨rfl, rfl⟩
      go_wp2_with (fail)
      refine (HF.out _).mono ?_
      rintro e w1 ⟨rfl, rfl⟩
      go_wp2_with (fail)
      go_ret2
      exact ⟨rfl, short_below R1.out.2.2.2 _⟩
    · go_enter Tryd.func31, Tryd.ntmps31
      go_wp2_with (fail)
      refine (HL.out _).mono ?_
      rintro e w1 ⟨rfl, rfl⟩
      go_wp2_with (fail)
      refine (HM.out _).mono ?_
      rintro e w1 ⟨rfl, rfl⟩
      go_wp2_with (fail)
      refine (HP.out _ _ (fun q => hz q.symm) (by simp) (by simp) (by simp) (by simp) (by simp) (by simp) (HT.out.turn (S := fun _ => False) ((Turn.refl _ _).alloc _) HH.out.2.1 (fun q => q))).mono ?_
      rintro e w2 ⟨rfl, k0, k1, k2, ht⟩
      have R1 := hide' (And.intro k0 (And.intro k1 (And.intro k2 ht)))
      clear k0 k1 k2 ht
      go_wp2_with (fail)
      refine (HU1.out _ _ R1.out.1 R1.out.2.1 R1.out.2.2.1).mono ?_
      rintro e w3 ⟨rfl, d3, rfl⟩
      go_wp2_with (fail)
      refine (HN1.out _).mono ?_
      rintro e w1 ⟨rfl, rfl⟩
      go_wp2_with (fail)
      refine (HC.out _).mono ?_
      rintro e w1 ⟨rfl, rfl⟩
      go_wp2_with (fail)
      refine (HU2.out _ _ (cd R1.out.1 _) (cd R1.out.2.1 _) (cd R1.out.2.2.1 _)).mono ?_
      rintro e w4 ⟨rfl, d4, rfl⟩
      go_wp2_with (fail)
      refine (HN2.out _).mono ?_
      rintro e w1 ⟨rfl, rfl⟩
      go_wp2_with (fail)
      refine (HF.out _).mono ?_
      rintro e w1 ⟨rfl, rfl⟩
      go_wp2_with (fail)
      refine (HU3.out _ _ (cd R1.out.1 _) (cd R1.out.2.1 _) (cd R1.out.2.2.1 _)).mono ?_
      rintro e w5 ⟨rfl, d5, rfl⟩
      go_wp2_with (fail)
      refine (HR.out _).mono ?_
      rintro e w1 ⟨rfl, rfl⟩
      go_wp2_with (fail)
      go_ret2
      exact ⟨rfl, short_below R1.out.2.2.2 _⟩
    · go_enter Tryd.func31, Tryd.ntmps31
      go_wp2_with (fail)
      refine (HL.out _).mono ?_
      rintro e w1 ⟨rfl, rfl⟩
      go_wp2_with (fail)
      refine (HM.out _).mono ?_
      rintro e w1 ⟨rfl, rfl⟩
      go_wp2_with (fail)
      refine (HP.out _ _ (fun q => hz q.symm) (by simp) (by simp) (by simp) (by simp) (by simp) (by simp) (HT.out.turn (S := fun _ => False) ((Turn.refl _ _).alloc _) HH.out.2.1 (fun q => q))).mono ?_
      rintro e w2 ⟨rfl, k0, k1, k2, ht⟩
      have R1 := hide' (And.intro k0 (And.intro k1 (And.intro k2 ht)))
      clear k0 k1 k2 ht
      go_wp2_with (fail)
      refine (HU1.out _ _ R1.out.1 R1.out.2.1 R1.out.2.2.1).mono ?_
      rintro e w3 ⟨rfl, d3, rfl⟩
      go_wp2_with (fail)
      refine (HN1.out _).mono ?_
      rintro e w1 ⟨rfl, rfl⟩
      go_wp2_with (fail)
      refine (HC.out _).mono ?_
      rintro e w1 ⟨rfl, rfl⟩
      go_wp2_with (fail)
      refine (HU2.out _ _ (cd R1.out.1 _) (cd R1.out.2.1 _) (cd R1.out.2.2.1 _)).mono ?_
      rintro e w4 ⟨rfl, d4, rfl⟩
      go_wp2_with (fail)
      refine (HN2.out _).mono ?_
      rintro e w1 ⟨rfl, rfl⟩
      go_wp2_with (fail)
      refine (HF.out _).mono ?_
      rintro e w1 ⟨rfl, rfl⟩
      go_wp2_with (fail)
      go_ret2
      exact ⟨rfl, short_below R1.out.2.2.2 _⟩
end Go.Proofs.YtclmnkilfijeaaaDoor
