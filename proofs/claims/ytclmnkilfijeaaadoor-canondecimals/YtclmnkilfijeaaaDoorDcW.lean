import Derived.Test.YtclmnkilfijeaaaDoorDcA
set_option linter.unusedVariables false
set_option linter.unusedSimpArgs false
namespace Go.Proofs.YtclmnkilfijeaaaDoor
open Go.RowKit
theorem byte_at (l : List UInt8) (j : Nat) (c : UInt8) (h : l[j]? = some c) (hj : j < (⟨l.toArray⟩ : ByteArray).size) : (⟨l.toArray⟩ : ByteArray)[j]'hj = c := by
  have h1 : j < l.length := by simpa [ByteArray.size] using hj
  rw [List.getElem?_eq_getElem h1] at h
  rw [ByteArray.getElem_eq_getElem_data]
  simpa using Option.some.inj h
set_option maxRecDepth 100000 in
set_option maxHeartbeats 8000000 in
theorem canonDecimals_walk (n k : Int) (w : World) (hT : Tb w) : Calls Tryd.prog 5 #[.int .i64 n, .int .i64 k] w fun e w' => e = .returned (.bool true) ∧ Below w.heap.size w w' := by
  have HP := hide' fun k m a b w => pick_any k m a b w
  have HT := hide' hT
  clear hT
  go_enter Tryd.func5, Tryd.ntmps5
  go_wp2_with (fail)
  refine (HP.out _ 9 (by omega) (by omega) _).mono ?_
  rintro e w1 ⟨⟨v1, rfl, a1, a2⟩, rfl⟩
  obtain ⟨D, hD⟩ : ∃ D : Nat, (D : Int) = 1 + v1 := ⟨(1 + v1).toNat, by omega⟩
  go_wp2_with (fail)
  go_loopw [6, 7] (fun p i wx => ∃ (j : Nat) (P : Int), j ≤ D ∧ i = .int .i64 (j : Int) ∧ p = .int .i64 P ∧ Hid (P = ((10 ^ j : Nat) : Int)) ∧ wx = w1) (fun _ i _ => D - (intOf i).toNat)
  case atStart => exact ⟨0, 1, by omega, rfl, rfl, rfl, rfl⟩
  case round =>
    obtain ⟨j, P, hj, rfl, rfl, HE, rfl⟩ := hrel
    by_cases hlt : j < D
    · have hlt' : (j : Int) < 1 + v1 := by omega
      have hp9 : 10 ^ j ≤ 10 ^ 9 := Nat.pow_le_pow_right (by omega) (by omega)
      have e9 : (10 : Nat) ^ 9 = 1000000000 := by decide
      have q1 : 1 ≤ P := by rw [HE.out]; have : 0 < 10 ^ j := Nat.pow_pos (by omega); omega
      have q2 : P ≤ 1000000000 := by rw [HE.out]; omega
      clear hp9 e9
      go_wp2_with (fail)
      refine ⟨⟨j + 1, 10 * P, by omega, by simp, rfl, ?_, trivial⟩, by simp [intOf]; omega⟩
      show 10 * P = ((10 ^ (j + 1) : Nat) : Int)
      rw [HE.out, Nat.pow_succ]
      generalize 10 ^ j = z
      omega
    · have hj2 : j = D := by omega
      subst hj2
      have hnlt : ¬ ((j : Int) < 1 + v1) := by omega
      have hp9 : 10 ^ j ≤ 10 ^ 9 := Nat.pow_le_pow_right (by omega) (by omega)
      have e9 : (10 : Nat) ^ 9 = 1000000000 := by decide
      have hp10 : 10 ^ 1 ≤ 10 ^ j := Nat.pow_le_pow_right (by omega) (by omega)
      have q1 : 10 ≤ P := by rw [HE.out]; omega
      have q2 : P ≤ 1000000000 := by rw [HE.out]; omega
      clear hp9 e9 hp10
      go_wp2_with (fail)
      refine (HP.out _ (P - 1) (by omega) (by omega) _).mono ?_
      rintro e w2 ⟨⟨v2, rfl, b1, b2⟩, rfl⟩
      obtain ⟨m, hm⟩ : ∃ m : Nat, (m : Int) = 1 + v2 := ⟨(1 + v2).toNat, by omega⟩
      have hmP : m < 10 ^ j := by have := HE.out; omega
      have hp9 : 10 ^ j ≤ 10 ^ 9 := Nat.pow_le_pow_right (by omega) (by omega)
      have e9 : (10 : Nat) ^ 9 = 1000000000 := by decide
      obtain ⟨r, hr, hnear⟩ := Fp.div_near (n := m) (q := 10 ^ j) (by omega) (by omega) (Nat.pow_pos (by omega)) (by omega)
      obtain ⟨kk, nn, t, f1, f2, f3, f4, f5, f6⟩ := decimal_num hnear (by omega) hmP (by omega)
      have hrl : r < 18446744073709551616 := by
        have := near_lt_one hnear hmP (by omega)
        have : Fp.one = 4607182418800017408 := rfl
        omega
      obtain ⟨FM, hFM⟩ : ∃ F, F = FloatKind.f64.nearest (m : Int) := ⟨_, rfl⟩
      obtain ⟨FP, hFP⟩ : ∃ F, F = FloatKind.f64.nearest ((10 ^ j : Nat) : Int) := ⟨_, rfl⟩
      have g1 : floatOfInt FloatKind.f64 (1 + v2) = FM := by rw [← hm, hFM]; rfl
      have g2 : floatOfInt FloatKind.f64 P = FP := by rw [HE.out, hFP]; rfl
      rw [← hFM, ← hFP] at hr
      have hdv := fun w => run_fdiv FM FP r w hr
      have HN := hide' (number_any r hrl w2 HT.out)
      have HM := hide' (And.intro hm (And.intro f1 (And.intro f2 (And.intro f3 (And.intro f4 (And.intro f5 (And.intro f6 (And.intro hmP hD))))))))
      clear hm hmP hp9 e9 hr hnear f1 f2 f3 f4 f5 f6 hrl hFM hFP hlt hj
      go_wp2_with (fail)
      refine HN.out.mono ?_
      rintro e w3 ⟨⟨s, ok, rfl, hn⟩, bel⟩
      obtain ⟨rfl, rfl⟩ := hn.one HM.out.2.2.2.2.2.2.1
      clear hn
      have HB := hide' bel
      clear bel
      obtain ⟨hm, f1, f2, f3, f4, f5, f6, hmP, hD⟩ := HM.out
      obtain ⟨l, hl⟩ : ∃ l, l = [48, 46] ++ Fp.dg kk nn := ⟨_, rfl⟩
      rw [← hl]
      have hll : l.length = kk + 2 := by rw [hl, List.length_append, Fp.dg_length]; simp; omega
      obtain ⟨S, hS⟩ : ∃ S : ByteArray, S = ⟨l.toArray⟩ := ⟨_, rfl⟩
      rw [← hS]
      have hsz : S.size = kk + 2 := by rw [hS]; simpa [ByteArray.size] using hll
      have at_ : ∀ (i : Nat) (c : UInt8), l[i]? = some c → ∀ hi : i < S.size, S[i]'hi = c := by
        subst hS
        exact fun i c h hi => byte_at l i c h hi
      have p0 : 0 < S.size := by rw [hsz]; exact Nat.succ_pos _
      have p1 : 1 < S.size := by rw [hsz]; exact Nat.succ_lt_succ (Nat.succ_pos _)
      have x0 : S[0]'p0 = 48 := at_ 0 48 (by rw [hl]; rfl) _
      have x1 : S[1]'p1 = 46 := at_ 1 46 (by rw [hl]; rfl) _
      have xs : ∀ i, i < kk → ∃ hi : 2 + i < S.size, S[2 + i]'hi = Lib.dg nn (kk - 1 - i) := fun i hi => ⟨by omega, at_ (2 + i) _ (by rw [hl, Nat.add_comm 2 i]; simpa using dg_at kk nn i hi) _⟩
      have kk9 : kk ≤ 9 := by omega
      have d0 : (3 : Int) ≤ (kk : Int) + 2 := by omega
      have d0' : (kk : Int) + 2 ≤ 2 + (1 + v1) := by omega
      have d1 : decide ((kk : Int) + 2 < 3) = false := decide_eq_false (by omega)
      have d2 : decide (2 + (1 + v1) < (kk : Int) + 2) = false := decide_eq_false (by omega)
      have p2 : kk + 1 < S.size := by rw [hsz]; exact Nat.lt_succ_self _
      have x2 : S[kk + 1]'p2 = Lib.dg nn 0 := by
        have q := at_ (kk - 1 + 2) (Lib.dg nn 0) (by rw [hl]; have := dg_at kk nn (kk - 1) (by omega); rw [show kk - 1 - (kk - 1) = 0 by omega] at this; simpa using this) (by omega)
        have e : kk - 1 + 2 = kk + 1 := by omega
        simpa only [e] using q
      have d3 : (((S[kk + 1]'p2).toNat : Int) == 48) = false := by
        rw [x2, dg_byte, beq_eq_false_iff_ne, Nat.pow_zero, Nat.div_one]
        omega
      have HS := hide' (And.intro xs (And.intro hsz (And.intro x0 x1)))
      clear hm f1 f2 f4 f5 f6 hmP hD hl hll hS at_ xs x2
      go_wp2_with (fail)
      go_loopw [11, 12] (fun v i wx => ∃ (q : Nat) (X : Int), q ≤ j ∧ i = .int .i64 (2 + (q : Int)) ∧ v = .int .i64 X ∧ Hid (X = ((m / 10 ^ (j - q) : Nat) : Int)) ∧ wx = w3) (fun _ i _ => j + 2 - (intOf i).toNat)
      case atStart =>
        refine ⟨0, 0, by omega, by simp, rfl, ?_, rfl⟩
        show (0 : Int) = ((m / 10 ^ (j - 0) : Nat) : Int)
        rw [Nat.sub_zero, Nat.div_eq_of_lt HM.out.2.2.2.2.2.2.2.1]
        rfl
      case round =>
        obtain ⟨q, X, hq, rfl, rfl, HX, rfl⟩ := hrel
        obtain ⟨hm, f1, f2, f3', f4, f5, f6, hmP, hD⟩ := HM.out
        obtain ⟨xs, hsz', y0, y1⟩ := HS.out
        by_cases hqj : q < j
        · have hq1 : (2 : Int) + q < 2 + (1 + v1) := by omega
          have hpd := place_digit (k := kk) (n := nn) (t := t) (j := q) (by omega)
          rw [← f2, ← f1] at hpd
          have hst := value_step m j q hqj
          have hmod := Nat.mod_lt (m / 10 ^ (j - 1 - q)) (show 10 > 0 by omega)
          have hXb : m / 10 ^ (j - q) ≤ m := Nat.div_le_self _ _
          have hp9 : 10 ^ j ≤ 10 ^ 9 := Nat.pow_le_pow_right (by omega) (by omega)
          have e9 : (10 : Nat) ^ 9 = 1000000000 := by decide
          have hX0 : 0 ≤ X := by rw [HX.out]; omega
          have hX1 : X ≤ 1000000000 := by rw [HX.out]; omega
          generalize m / 10 ^ (j - 1 - q) % 10 = dgt at *
          by_cases hqk : q < kk
          · rw [if_pos hqk] at hpd
            obtain ⟨pq, xq⟩ := xs q hqk
            have hq2 : (2 : Int) + q < (kk : Int) + 2 := by omega
            obtain ⟨C, hC⟩ : ∃ C : Int, C = (((S[2 + q]'pq).toNat : Nat) : Int) := ⟨_, rfl⟩
            have hC2 : C = 48 + (dgt : Int) := by rw [hC, xq, hpd]; omega
            have C1 : 48 ≤ C := by omega
            have C2 : C ≤ 57 := by omega
            have HW := hide' (And.intro hst (And.intro hC2 hqj))
            have hC' := hC.symm
            clear hC hC2 hst hpd hmod hXb hp9 e9 xs xq hm f1 f2 f4 f5 f6 hmP hD f3' hsz' y0 y1
            go_wp2_with (fail)
            obtain ⟨hst, hC2, hqj2⟩ := HW.out
            refine ⟨⟨q + 1, 10 * X + (C - 48), by omega, by (first | (congr 1; done) | (congr 1; push_cast; omega)), rfl, ?_, trivial⟩, by simp [intOf]; omega⟩
            show 10 * X + (C - 48) = ((m / 10 ^ (j - (q + 1)) : Nat) : Int)
            rw [hst, HX.out, hC2]
            generalize m / 10 ^ (j - q) = z
            omega
          · rw [if_neg hqk] at hpd
            have hq2 : ¬ ((2 : Int) + q < (kk : Int) + 2) := by omega
            have hd0 : dgt = 0 := by omega
            have HW := hide' (And.intro hst (And.intro hd0 hqj))
            clear hst hpd hmod hXb hp9 e9 xs hm f1 f2 f4 f5 f6 hmP hD f3' hsz' y0 y1 hd0
            go_wp2_with (fail)
            obtain ⟨hst, hd0, hqj2⟩ := HW.out
            refine ⟨⟨q + 1, 10 * X, by omega, by (first | (congr 1; done) | (congr 1; push_cast; omega)), rfl, ?_, trivial⟩, by simp [intOf]; omega⟩
            show 10 * X = ((m / 10 ^ (j - (q + 1)) : Nat) : Int)
            rw [hst, HX.out, hd0]
            generalize m / 10 ^ (j - q) = z
            omega
        · have hqe : q = j := by omega
          subst hqe
          have hq1 : ¬ ((2 : Int) + q < 2 + (1 + v1)) := by omega
          have hXm : X = 1 + v2 := by
            rw [HX.out, Nat.sub_self, Nat.pow_zero, Nat.div_one]; exact hm
          have HB2 := hide' HB.out
          clear xs hm f1 f2 f4 f5 f6 hmP hD f3' hsz' y0 y1 HX
          subst hXm
          go_wp2_with (fail)
          go_ret
          exact ⟨by simp, HB2.out⟩
end Go.Proofs.YtclmnkilfijeaaaDoor
