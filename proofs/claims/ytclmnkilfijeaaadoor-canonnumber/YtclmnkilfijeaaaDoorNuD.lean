import Derived.Test.YtclmnkilfijeaaaDoorNuC
set_option linter.unusedVariables false
set_option linter.unusedSimpArgs false
namespace Go.Proofs.YtclmnkilfijeaaaDoor
open Go.RowKit
set_option maxRecDepth 100000 in
set_option maxHeartbeats 8000000 in
theorem short_pow (L a h l s : Nat) (w : World) (hL : L + a = 1074) (ha : 52 ≤ a) (hL1 : 1 ≤ L)
    (hp : Fp.pPow a ≤ 340) (hlp : Fp.lpN (Fp.pPow a) ≤ a + 4) (hs : s = a + 8 - Fp.lpN (Fp.pPow a)) (hs2 : s ≤ 10) (hh : 9223372036854775808 ≤ h) (hh2 : h < 18446744073709551616) (hl : l < 18446744073709551616)
    (h3 : 3 < w.heap.size) (hT : PwAt w (Fp.pPow a) h l) :
    Calls Tryd.prog 31 #[.int .u64 9223372036854775808, .int .i64 (-((a + 11 : Nat) : Int))] w fun e w' =>
      e = .returned (.tuple #[.int .u64 (Fp.pickU 0 (Fp.usc (9223372036854775296) h l s) (Fp.usc (9223372036854776832) h l s) (Fp.usc (9223372036854775808) h l s) (Fp.pPow a)).1, .int .i64 (-((Fp.pickU 0 (Fp.usc (9223372036854775296) h l s) (Fp.usc (9223372036854776832) h l s) (Fp.usc (9223372036854775808) h l s) (Fp.pPow a)).2 : Int))]) ∧ Below w.heap.size w w' := by
  obtain ⟨m, hm⟩ : ∃ m, m = 9223372036854775808 := ⟨_, rfl⟩
  rw [show (9223372036854775808 : Int) = ((m : Nat) : Int) by omega, show (9223372036854775296 : Nat) = m - 512 by omega, show (9223372036854776832 : Nat) = m + 1024 by omega, ← hm]
  have m1 : 9223372036854775808 ≤ m := by omega
  have m2 : m + 1024 < 18446744073709551616 := by omega
  have hpp : Fp.pPow a = (a * 631305 + 261663 + 2097151) / 2097152 := rfl
  have hll : Fp.lpN (Fp.pPow a) = Fp.pPow a * 108853 / 32768 := rfl
  have hp1 : 1 ≤ Fp.pPow a := by omega
  generalize Fp.lpN (Fp.pPow a) = lp at *
  generalize Fp.pPow a = p at *
  have hod : 0 = m / 2048 % 2 := by omega
  obtain ⟨o, ho⟩ : ∃ o, o = 0 := ⟨_, rfl⟩
  rw [← ho]
  have o1 : o ≤ 1 := by omega
  have b1 := Fp.usc_le (m - 512) h l s (by omega) (by omega) hh2
  have b2 := Fp.usc_le (m + 1024) h l s (by omega) (by omega) hh2
  have b3 := Fp.usc_le m h l s (by omega) (by omega) hh2
  have q2 := usc_pos (x := m + 1024) (l := l) (s := s) (by omega) (by omega) hh hh2 (by omega)
  have sp : 4 ≤ s := by omega
  have e64 : 2 ^ (64 - s) ≤ 2 ^ 60 := Nat.pow_le_pow_right (by omega) (by omega)
  have e60 : (2 : Nat) ^ 60 = 1152921504606846976 := by decide
  have HU1 := hide' fun b w k0 k1 k2 => uscale_any (m - 512) h l s b w (by omega) hh2 hl (by omega) k0 k1 k2
  have HU2 := hide' fun b w k0 k1 k2 => uscale_any (m + 1024) h l s b w (by omega) hh2 hl (by omega) k0 k1 k2
  have HU3 := hide' fun b w k0 k1 k2 => uscale_any m h l s b w (by omega) hh2 hl (by omega) k0 k1 k2
  generalize Fp.usc (m - 512) h l s = u1 at *
  generalize Fp.usc (m + 1024) h l s = u2 at *
  generalize Fp.usc m h l s = u3 at *
  generalize 2 ^ (64 - s) = z at *
  have v1 : u1 < 1152921504606846976 := by omega
  have v2 : u2 < 1152921504606846976 := by omega
  have v3 : u3 < 1152921504606846976 := by omega
  clear b1 b2 b3 e64 e60
  have HN1 := hide' fun w => nudge_any u1 o (by omega) (by omega) w
  have HN2 := hide' fun w => nudge_any u2 (-(o : Int)) (by omega) (by omega) w
  obtain ⟨n1, hn1⟩ : ∃ n1 : Nat, n1 = u1 + o := ⟨_, rfl⟩
  obtain ⟨n2, hn2⟩ : ∃ n2 : Nat, n2 = u2 - o := ⟨_, rfl⟩
  rw [show (u1 : Int) + (o : Int) = (n1 : Int) by omega] at HN1
  rw [show (u2 : Int) + -(o : Int) = (n2 : Int) by omega] at HN2
  have HC := hide' fun w => ceil_any n1 (by omega) w
  have HF := hide' fun w => floor_any n2 (by omega) w
  have HR := hide' fun w => round_any u3 (by omega) w
  have hpk : Fp.pickU o u1 u2 u3 p = (if (n1 + 3) / 4 ≤ n2 / 4 / 10 * 10 then (n2 / 4 / 10, p - 1) else if (n1 + 3) / 4 < n2 / 4 then (Fp.rnd u3, p) else ((n1 + 3) / 4, p)) := by
    unfold Fp.pickU; rw [hn1, hn2]
  rw [hpk]
  have vd : n2 / 4 < 1152921504606846976 := by omega
  have vc : (n1 + 3) / 4 < 1152921504606846976 := by omega
  generalize (n1 + 3) / 4 = dmin at *
  generalize n2 / 4 = dmax at *
  generalize Fp.rnd u3 = dr at *
  have HP := hide' fun b w hb k0 k1 k2 f0 f1 f2 t => prescale_any b h l p lp s (-((a + 11 : Nat) : Int)) w hb hp (by omega) (by omega) (by omega) (by omega) k0 k1 k2 f0 f1 f2 t
  have HT := hide' hT
  have HL := hide' fun w => skewed_any (-(a : Int)) (by omega) (by omega) w
  rw [show (-(a : Int) * 631305 - 261663) / 2097152 = -(p : Int) by omega] at HL
  have HM := hide' fun w => log2Pow10_any p (by omega) (by omega) w
  rw [show (p : Int) * 108853 / 32768 = (lp : Int) by omega] at HM
  have hm0 : ((m : Int) == 9223372036854775808) = true := by rw [beq_iff_eq]; omega
  rw [show ((m - 512 : Nat) : Int) = (m : Int) - 512 by omega] at HU1
  rw [show ((m + 1024 : Nat) : Int) = (m : Int) + 1024 by omega] at HU2
  have hE1 : -1085 < -((a + 11 : Nat) : Int) := by omega
  have hodd : bits .and .i64 ((m : Int) / 2048) 1 = (o : Int) := by
    have := and_one_i64 (m / 2048) (by omega)
    rw [show ((m / 2048 : Nat) : Int) = (m : Int) / 2048 by omega] at this
    rw [this, ho, hod]
  have hz : ¬ (3 = w.heap.size) := by omega
  have HH := hide' (And.intro hpk (And.intro h3 (And.intro hn1 hn2)))
  clear hpk hpp hll hod ho hn1 hn2 hs
  obtain ⟨E, hE⟩ : ∃ E : Int, E = -((a + 11 : Nat) : Int) := ⟨_, rfl⟩
  rw [← hE] at HP hE1 ⊢
  rw [show -(a : Int) = E + 11 by omega] at HL
  have a1 : (-1085 : Int) ≤ E := by omega
  have a2 : E ≤ -63 := by omega
  obtain ⟨M, hM⟩ : ∃ M : Int, M = m := ⟨_, rfl⟩
  obtain ⟨DX, hDX⟩ : ∃ M : Int, M = dmax := ⟨_, rfl⟩
  obtain ⟨DN, hDN⟩ : ∃ M : Int, M = dmin := ⟨_, rfl⟩
  obtain ⟨DR, hDR⟩ : ∃ M : Int, M = dr := ⟨_, rfl⟩
  obtain ⟨k, X, hk, hX, hcase⟩ : ∃ (k : Nat) (X : Int), (if dmin ≤ dmax / 10 * 10 then (dmax / 10, p - 1) else if dmin < dmax then (dr, p) else (dmin, p)).2 = k ∧ X = ((if dmin ≤ dmax / 10 * 10 then (dmax / 10, p - 1) else if dmin < dmax then (dr, p) else (dmin, p)).1 : Nat) ∧
      ((DN ≤ DX / 10 * 10 ∧ X = DX / 10 ∧ (k : Int) = p - 1) ∨ (¬ (DN ≤ DX / 10 * 10) ∧ DN < DX ∧ X = DR ∧ k = p) ∨ (¬ (DN ≤ DX / 10 * 10) ∧ ¬ (DN < DX) ∧ X = DN ∧ k = p)) := by
    refine ⟨_, _, rfl, rfl, ?_⟩
    split
    · left; simp only; exact ⟨by omega, by omega, by omega⟩
    · right
      split
      · left; simp only; refine ⟨by omega, by omega, ?_⟩; simp only [and_true]; omega
      · right; simp only; refine ⟨by omega, by omega, ?_⟩; simp only [and_true]; omega
  rw [hk, ← hX]
  have hX0 : 0 ≤ X := by omega
  clear hk hX
  have i1 : DX < 1152921504606846976 := by omega
  have i2 : DN < 1152921504606846976 := by omega
  have i3 : 0 ≤ DX := by omega
  have i4 : 0 ≤ DN := by omega
  have m3 : 9223372036854775808 ≤ M := by omega
  have m4 : M < 18446744073709550592 := by omega
  rw [← hM] at hm0 hodd HU1 HU2 HU3 ⊢
  rw [← hDX] at HF
  rw [← hDN] at HC
  rw [← hDR] at HR
  clear m1 m2 hh hh2 hl v1 v2 v3 vd vc q2 hM hDX hDN hDR hE hT
  clear hm
  rcases hcase with ⟨g1, rfl, hk⟩ | ⟨g1, g2, rfl, rfl⟩ | ⟨g1, g2, rfl, rfl⟩
  · go_enter Tryd.func31, Tryd.ntmps31
    go_wp2_with (fail)
    refine (HL.out _).mono ?_
    rintro e w1 ⟨rfl, rfl⟩
    go_wp2_with (fail)
    refine (HM.out _).mono ?_
    rintro e w1 ⟨rfl, rfl⟩
    go_wp2_with (fail)
    refine (HP.out _ _ (fun q => hz q.symm) (by simp) (by simp) (by simp) (by simp) (by simp) (by simp) (HT.out.turn (S := fun _ => False) ((Turn.refl _ _).alloc _) HH.out.2.1 (fun q => q))).mono ?_
    rintro e w2 ⟨rfl, k0, k1, k2, ht⟩
    have R1 := hide' (And.intro k0 (And.intro k1 (And.intro k2 ht)))
    clear k0 k1 k2 ht
    go_wp2_with (fail)
    refine (HU1.out _ _ R1.out.1 R1.out.2.1 R1.out.2.2.1).mono ?_
    rintro e w3 ⟨rfl, d3, rfl⟩
    go_wp2_with (fail)
    refine (HN1.out _).mono ?_
    rintro e w1 ⟨rfl, rfl⟩
    go_wp2_with (fail)
    refine (HC.out _).mono ?_
    rintro e w1 ⟨rfl, rfl⟩
    go_wp2_with (fail)
    refine (HU2.out _ _ (cd R1.out.1 _) (cd R1.out.2.1 _) (cd R1.out.2.2.1 _)).mono ?_
    rintro e w4 ⟨rfl, d4, rfl⟩
    go_wp2_with (fail)
    refine (HN2.out _).mono ?_
    rintro e w1 ⟨rfl, rfl⟩
    go_wp2_with (fail)
    refine (HF.out _).mono ?_
    rintro e w1 ⟨rfl, rfl⟩
    go_wp2_with (fail)
    go_ret2
    exact ⟨by rw [hk]; rfl, short_below R1.out.2.2.2 _⟩
  · go_enter Tryd.func31, Tryd.ntmps31
    go_wp2_with (fail)
    refine (HL.out _).mono ?_
    rintro e w1 ⟨rfl, rfl⟩
    go_wp2_with (fail)
    refine (HM.out _).mono ?_
    rintro e w1 ⟨rfl, rfl⟩
    go_wp2_with (fail)
    refine (HP.out _ _ (fun q => hz q.symm) (by simp) (by simp) (by simp) (by simp) (by simp) (by simp) (HT.out.turn (S := fun _ => False) ((Turn.refl _ _).alloc _) HH.out.2.1 (fun q => q))).mono ?_
    rintro e w2 ⟨rfl, k0, k1, k2, ht⟩
    have R1 := hide' (And.intro k0 (And.intro k1 (And.intro k2 ht)))
    clear k0 k1 k2 ht
    go_wp2_with (fail)
    refine (HU1.out _ _ R1.out.1 R1.out.2.1 R1.out.2.2.1).mono ?_
    rintro e w3 ⟨rfl, d3, rfl⟩
    go_wp2_with (fail)
    refine (HN1.out _).mono ?_
    rintro e w1 ⟨rfl, rfl⟩
    go_wp2_with (fail)
    refine (HC.out _).mono ?_
    rintro e w1 ⟨rfl, rfl⟩
    go_wp2_with (fail)
    refine (HU2.out _ _ (cd R1.out.1 _) (cd R1.out.2.1 _) (cd R1.out.2.2.1 _)).mono ?_
    rintro e w4 ⟨rfl, d4, rfl⟩
    go_wp2_with (fail)
    refine (HN2.out _).mono ?_
    rintro e w1 ⟨rfl, rfl⟩
    go_wp2_with (fail)
    refine (HF.out _).mono ?_
    rintro e w1 ⟨rfl, rfl⟩
    go_wp2_with (fail)
    refine (HU3.out _ _ (cd R1.out.1 _) (cd R1.out.2.1 _) (cd R1.out.2.2.1 _)).mono ?_
    rintro e w5 ⟨rfl, d5, rfl⟩
    go_wp2_with (fail)
    refine (HR.out _).mono ?_
    rintro e w1 ⟨rfl, rfl⟩
    go_wp2_with (fail)
    go_ret2
    exact ⟨rfl, short_below R1.out.2.2.2 _⟩
  · go_enter Tryd.func31, Tryd.ntmps31
    go_wp2_with (fail)
    refine (HL.out _).mono ?_
    rintro e w1 ⟨rfl, rfl⟩
    go_wp2_with (fail)
    refine (HM.out _).mono ?_
    rintro e w1 ⟨rfl, rfl⟩
    go_wp2_with (fail)
    refine (HP.out _ _ (fun q => hz q.symm) (by simp) (by simp) (by simp) (by simp) (by simp) (by simp) (HT.out.turn (S := fun _ => False) ((Turn.refl _ _).alloc _) HH.out.2.1 (fun q => q))).mono ?_
    rintro e w2 ⟨rfl, k0, k1, k2, ht⟩
    have R1 := hide' (And.intro k0 (And.intro k1 (And.intro k2 ht)))
    clear k0 k1 k2 ht
    go_wp2_with (fail)
    refine (HU1.out _ _ R1.out.1 R1.out.2.1 R1.out.2.2.1).mono ?_
    rintro e w3 ⟨rfl, d3, rfl⟩
    go_wp2_with (fail)
    refine (HN1.out _).mono ?_
    rintro e w1 ⟨rfl, rfl⟩
    go_wp2_with (fail)
    refine (HC.out _).mono ?_
    rintro e w1 ⟨rfl, rfl⟩
    go_wp2_with (fail)
    refine (HU2.out _ _ (cd R1.out.1 _) (cd R1.out.2.1 _) (cd R1.out.2.2.1 _)).mono ?_
    rintro e w4 ⟨rfl, d4, rfl⟩
    go_wp2_with (fail)
    refine (HN2.out _).mono ?_
    rintro e w1 ⟨rfl, rfl⟩
    go_wp2_with (fail)
    refine (HF.out _).mono ?_
    rintro e w1 ⟨rfl, rfl⟩
    go_wp2_with (fail)
    go_ret2
    exact ⟨rfl, short_below R1.out.2.2.2 _⟩
end Go.Proofs.YtclmnkilfijeaaaDoor
