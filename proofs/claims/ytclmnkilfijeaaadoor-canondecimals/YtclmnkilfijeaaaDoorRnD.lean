import Derived.Test.YtclmnkilfijeaaaDoorRnC
set_option linter.unusedVariables false
set_option linter.unusedSimpArgs false
namespace Go.Proofs.YtclmnkilfijeaaaDoor
open Go.RowKit
theorem near_in (M : Int) (w : World) : (convert 3 24 (.int .i64 M)).run Tryd.prog w = .ok (.float .f64 (FloatKind.f64.nearest M)) w := rfl
theorem app2 (b : List UInt8) : (ByteArray.mk #[48, 46]) ++ ⟨b.toArray⟩ = ⟨([48, 46] ++ b).toArray⟩ := app_mk [48, 46] b
/-- what is told of a float: a text and a word -/
def RetNum (r : Nat) (e : Ending) : Prop := ∃ s ok, e = .returned (.tuple #[.string s, .bool ok]) ∧ NumIs r s ok
set_option maxRecDepth 100000 in
set_option maxHeartbeats 8000000 in
theorem refnum_between (r : Nat) (h0 : 0 < r) (h1 : r < Fp.one) (w : World) :
    Calls Tryd.prog 7 #[.float .f64 r] w fun e w' => RetNum r e ∧ w' = w := by
  have hone : Fp.one = 4607182418800017408 := rfl
  obtain ⟨q, hq, hqi⟩ := div_one h0 (by omega)
  have hd := fun w => run_fdiv 4607182418800017408 r q w hq
  have o1 : FloatKind.f64.format.order r 0 = some .gt := by
    rw [show FloatKind.f64.format = Ieee.double from rfl, Fp.order_rung (by omega) (by omega), Nat.compare_eq_gt.2 h0]
  have o2 : FloatKind.f64.format.order r 4607182418800017408 = some .lt := by
    rw [show FloatKind.f64.format = Ieee.double from rfl, Fp.order_rung (by omega) (by omega), Nat.compare_eq_lt.2 (by omega)]
  have o3 : (FloatKind.f64.format.order q 0 == some .lt) = false := by
    have := not_below hqi
    rw [beq_eq_false_iff_ne]; exact this
  have HR := hide' (And.intro h0 h1)
  have HDg := hide' fun n k hn hk w => digits_any n k hn hk w
  have HMul := hide' fun q a b => mul_any r q h0 h1 a b
  have HTest := hide' fun n k a b c => div_test (n := n) (k := k) h0 h1 a b c
  have HFirst := hide' fun n k a b c => means_first (n := n) (k := k) h0 h1 a b c
  clear h0 h1 hq hqi hone
  go_enter Tryd.func7, Tryd.ntmps7
  go_wp2
  go_loopw [4, 5] (fun p k wx => ∃ (j : Nat) (P : Int), 1 ≤ j ∧ j ≤ 10 ∧ k = .int .i64 (j : Int) ∧ p = .int .i64 P ∧ Hid (P = ((10 ^ (j - 1) : Nat) : Int) ∧ ∀ i m, i < j → ¬ Fp.Means r i m) ∧ wx = w) (fun _ k _ => 10 - (intOf k).toNat)
  case atStart => exact ⟨1, 1, by omega, by omega, rfl, rfl, ⟨rfl, fun i m hi hm => by have := hm.1; omega⟩, rfl⟩
  case round =>
    obtain ⟨j, P, hj1, hj2, rfl, rfl, HN, rfl⟩ := hrel
    by_cases hj : j ≤ 9
    · have hj' : (j : Int) ≤ 9 := by omega
      have hp10 : 10 * 10 ^ (j - 1) = 10 ^ j := by rw [← Nat.pow_succ', show (j - 1).succ = j by omega]
      have hpj : 10 ^ j ≤ 10 ^ 9 := Nat.pow_le_pow_right (by omega) hj
      have e9 : (10 : Nat) ^ 9 = 1000000000 := by decide
      have hpp : 0 < 10 ^ j := Nat.pow_pos (by omega)
      obtain ⟨Q, hQ⟩ : ∃ Q : Int, Q = ((10 ^ j : Nat) : Int) := ⟨_, rfl⟩
      have hw10 : wrap64 (10 * P) = Q := by
        have e := HN.out.1
        rw [hQ, ← hp10, e]
        generalize 10 ^ (j - 1) = z at *
        unfold wrap64
        omega
      obtain ⟨r2, N, n1, n2, n3, n4⟩ := HMul.out (10 ^ j) hpp (by omega)
      obtain ⟨FQ, hFQ⟩ : ∃ F, F = FloatKind.f64.nearest ((10 ^ j : Nat) : Int) := ⟨_, rfl⟩
      have hfo : floatOfInt FloatKind.f64 Q = FQ := by rw [hQ, hFQ]; rfl
      rw [← hFQ] at n1
      have hmul := fun w => run_fmul r FQ r2 w n1
      have hti := fun w => run_toInt r2 N w n2 n3
      have Q1 : 1 ≤ Q := by omega
      have Q2 : Q ≤ 1000000000 := by omega
      obtain ⟨NI, hNI⟩ : ∃ NI : Int, NI = (N : Int) := ⟨_, rfl⟩
      rw [← hNI] at hti
      have N1 : 0 ≤ NI := by omega
      have N2 : NI ≤ 1073741825 := by omega
      have HQ := hide' (And.intro hQ (And.intro hFQ (And.intro n4 (And.intro hNI (And.intro hpj (And.intro e9 hpp))))))
      clear hp10 hpj e9 hpp hQ n1 n2 n3 n4 hFQ hNI
      go_wp2
      go_loopw [7] (fun v wx => ∃ (i : Nat), i ≤ 5 ∧ v = .int .i64 (NI - 2 + (i : Int)) ∧ Hid (∀ m : Nat, NI - 2 ≤ (m : Int) → (m : Int) < NI - 2 + i → ¬ (0 < m ∧ m < 10 ^ j ∧ Fp.Near r m (10 ^ j))) ∧ wx = wr) (fun v _ => 10 - (intOf v - NI + 2).toNat)
      case atStart => exact ⟨0, by omega, by simp, fun m a b => by omega, rfl⟩
      case round =>
        obtain ⟨i, hi, rfl, HI, rfl⟩ := hrel
        obtain ⟨hQ, hFQ, n4, hNI, hpj, e9, hpp⟩ := HQ.out
        by_cases hi5 : i = 5
        · subst hi5
          have hno : ∀ i m, i < j + 1 → ¬ Fp.Means r i m := by
            intro i m him hm
            rcases Nat.lt_or_ge i j with c | c
            · exact HN.out.2 i m c hm
            · obtain rfl : i = j := by omega
              obtain ⟨_, _, k3, k4, _, k6⟩ := hm
              by_cases hb : 104 * 4503599627370496 + 4503599627370496 ≤ r
              · obtain ⟨a1, a2⟩ := n4 hb m k6
                exact HI.out m (by omega) (by omega) ⟨k3, k4, k6⟩
              · exact Fp.small_none (by omega) HR.out.1 hj k6
          have HNo := hide' (And.intro hQ hno)
          clear hQ hFQ n4 hNI hpj e9 hpp hno
          go_wp2
          refine ⟨⟨j + 1, Q, by omega, by omega, by simp, rfl, ⟨?_, HNo.out.2⟩, trivial⟩, by simp [intOf]; omega⟩
          rw [HNo.out.1, Nat.add_sub_cancel]
        · have hi5' : (i : Int) ≤ 4 := by omega
          obtain ⟨V, hV⟩ : ∃ V : Int, V = NI - 2 + (i : Int) := ⟨_, rfl⟩
          have v1 : NI - 2 ≤ V := by omega
          have v2 : V ≤ NI + 2 := by omega
          by_cases hc : 0 < V ∧ V < Q
          · obtain ⟨c1, c2⟩ := hc
            obtain ⟨m, hm⟩ : ∃ m : Nat, (m : Int) = V := ⟨V.toNat, by omega⟩
            obtain ⟨x, hx, hiff⟩ := HTest.out m j hj (by omega) (by omega)
            obtain ⟨FV, hFV⟩ : ∃ F, F = FloatKind.f64.nearest (m : Int) := ⟨_, rfl⟩
            have hfv : floatOfInt FloatKind.f64 V = FV := by rw [← hm, hFV]; rfl
            rw [← hFV, ← hFQ] at hx
            have hdv := fun w => run_fdiv FV FQ x w hx
            cases hb : (Ieee.double.order x r == some .eq)
            · have hb' : (FloatKind.f64.format.order x r == some .eq) = false := hb
              have hnn : ¬ Fp.Near r m (10 ^ j) := fun z => by rw [hiff.2 z] at hb; cases hb
              have HNo : Hid (∀ m : Nat, NI - 2 ≤ (m : Int) → (m : Int) < NI - 2 + ((i + 1 : Nat) : Int) → ¬ (0 < m ∧ m < 10 ^ j ∧ Fp.Near r m (10 ^ j))) := by
                intro m' a b
                by_cases e : m' = m
                · subst e; exact fun z => hnn z.2.2
                · exact HI.out m' a (by omega)
              clear hQ hFQ n4 hNI hpj e9 hpp hx hFV hiff hb hnn hm
              rw [← hV]
              have HV := hide' hV
              clear hV
              go_wp2
              refine ⟨⟨i + 1, by omega, ?_, HNo, trivial⟩, ?_⟩
              · have := HV.out
                congr 1
                push_cast
                omega
              · have := HV.out
                simp [intOf]
                omega
            · have hb' : (FloatKind.f64.format.order x r == some .eq) = true := hb
              have hM := HFirst.out m j hj (hiff.1 hb) HN.out.2
              have HD := hide' (HDg.out m j (by omega) hj)
              rw [hm] at HD
              have HMn := hide' hM
              have hsz : (⟨(Fp.dg j m).toArray⟩ : ByteArray).size = j := by simp [ByteArray.size, Fp.dg_length]
              have happ := app2 (Fp.dg j m)
              generalize (⟨(Fp.dg j m).toArray⟩ : ByteArray) = db at *
              have hno : ¬ (9223372036854775807 < 2 + db.size) := by omega
              have HA := hide' (And.intro happ hsz)
              clear hQ hFQ n4 hNI hpj e9 hpp hx hFV hiff hb hm hM happ hsz
              rw [← hV]
              clear hV
              go_wp2_with (first | (go_at_call 12; refine (HD.out _).mono ?_; rintro e w1 ⟨rfl, rfl⟩))
              go_ret2
              exact ⟨⟨_, _, rfl, .inr (.inr (.inr ⟨rfl, HR.out.1, HR.out.2, j, m, HMn.out, HA.out.1⟩))⟩, rfl⟩
          · have HNo : Hid (∀ m : Nat, NI - 2 ≤ (m : Int) → (m : Int) < NI - 2 + ((i + 1 : Nat) : Int) → ¬ (0 < m ∧ m < 10 ^ j ∧ Fp.Near r m (10 ^ j))) := by
              intro m' a b
              by_cases e : (m' : Int) = V
              · exact fun z => hc ⟨by omega, by omega⟩
              · exact HI.out m' a (by omega)
            clear hQ hFQ n4 hNI hpj e9 hpp
            rw [← hV]
            have HV := hide' hV
            clear hV
            by_cases c1 : 0 < V
            · have c2 : ¬ (V < Q) := fun z => hc ⟨c1, z⟩
              clear hc
              go_wp2
              refine ⟨⟨i + 1, by omega, ?_, HNo, trivial⟩, ?_⟩
              · have := HV.out
                congr 1
                push_cast
                omega
              · have := HV.out
                simp [intOf]
                omega
            · clear hc
              go_wp2
              refine ⟨⟨i + 1, by omega, ?_, HNo, trivial⟩, ?_⟩
              · have := HV.out
                congr 1
                push_cast
                omega
              · have := HV.out
                simp [intOf]
                omega
    · have hj' : ¬ ((j : Int) ≤ 9) := by omega
      go_wp2
      go_ret2
      refine ⟨⟨_, _, rfl, .inl ⟨rfl, rfl, by have := HR.out.1; omega, by have := HR.out.2; omega, fun _ _ k n hm => ?_⟩⟩, rfl⟩
      exact HN.out.2 k n (by have := hm.2.1; omega) hm
/-- below nought, or no number -/
theorem order_neg {r : Nat} (h1 : ¬ r < 9218868437227405312) (h2 : r ≠ 9218868437227405312) (h3 : r ≠ 9223372036854775808) (hr : r < 18446744073709551616) : Ieee.double.order r 0 ≠ some .gt ∧ Ieee.double.order r 0 ≠ some .eq := by
  have hz : Ieee.double.read 0 = .number false 0 (-1074) := Fp.read_low (by omega)
  unfold Ieee.Format.order
  rw [hz]
  by_cases c : r < 9223372036854775808
  · have : Ieee.double.read r = .nan false (r - 9218868437227405312) := by
      unfold Ieee.Format.read
      simp only [Fp.d_sign, Fp.d_bin, Fp.d_inf, Fp.d_least]
      rw [show r / 9223372036854775808 % 2 = 0 by omega, show r % 9223372036854775808 = r by omega, if_neg (by omega), if_neg (by omega), if_neg (by omega)]
      rfl
    rw [this]
    exact ⟨(fun q => by cases q), (fun q => by cases q)⟩
  · obtain ⟨g, hg⟩ : ∃ g, r = 9223372036854775808 + g := ⟨r - 9223372036854775808, by omega⟩
    have hs : r / 9223372036854775808 % 2 = 1 := by omega
    have hm : r % 9223372036854775808 = g := by omega
    have cases3 : (∃ m e, m ≠ 0 ∧ Ieee.double.read r = .number true m e) ∨ Ieee.double.read r = .infinity true ∨ ∃ f, Ieee.double.read r = .nan true f := by
      unfold Ieee.Format.read
      simp only [Fp.d_sign, Fp.d_bin, Fp.d_inf, Fp.d_least]
      rw [hs, hm]
      by_cases a1 : g < 4503599627370496
      · left; rw [if_pos a1]; exact ⟨_, _, by omega, rfl⟩
      · rw [if_neg a1]
        by_cases a2 : g < 9218868437227405312
        · left; rw [if_pos a2]; exact ⟨_, _, by omega, rfl⟩
        · rw [if_neg a2]
          by_cases a3 : g = 9218868437227405312
          · right; left; rw [if_pos a3]; rfl
          · right; right; rw [if_neg a3]; exact ⟨_, rfl⟩
    rcases cases3 with ⟨m, e, hm0, h⟩ | h | ⟨f, h⟩
    · rw [h]
      unfold Ieee.Datum.order Ieee.signed
      simp only [if_true, Bool.false_eq_true, if_false]
      have hpos : 0 < m <<< (e - min e (-1074)).toNat := by
        rw [Nat.shiftLeft_eq]
        exact Nat.mul_pos (by omega) (Nat.two_pow_pos _)
      have hlt : compare (-((m <<< (e - min e (-1074)).toNat : Nat) : Int)) (((0 : Nat) <<< ((-1074 : Int) - min e (-1074)).toNat : Nat) : Int) = .lt := by
        rw [Nat.zero_shiftLeft]
        exact Int.compare_eq_lt.2 (by omega)
      rw [hlt]
      exact ⟨(fun q => by cases q), (fun q => by cases q)⟩
    · rw [h]
      exact ⟨(fun q => by cases q), (fun q => by cases q)⟩
    · rw [h]
      exact ⟨(fun q => by cases q), (fun q => by cases q)⟩
/-- THE DOCUMENT's Number -/
theorem refnum_any (r : Nat) (hr : r < 18446744073709551616) (w : World) : Calls Tryd.prog 7 #[.float .f64 r] w fun e w' => RetNum r e ∧ w' = w := by
  have hone : Fp.one = 4607182418800017408 := rfl
  have ref : (r ≠ 0 ∧ r ≠ Fp.one ∧ (0 < r → r < Fp.one → ∀ k n, ¬ Fp.Means r k n)) → ((FloatKind.f64.format.order r 0 ≠ some .gt ∧ FloatKind.f64.format.order r 0 ≠ some .eq) ∨ (FloatKind.f64.format.order r 4607182418800017408 ≠ some .lt ∧ FloatKind.f64.format.order r 4607182418800017408 ≠ some .eq)) →
      Calls Tryd.prog 7 #[.float .f64 r] w fun e w' => RetNum r e ∧ w' = w := by
    intro h1 h2
    refine (refnum_no r w h2).mono ?_
    rintro e w' ⟨rfl, rfl⟩
    exact ⟨⟨_, _, rfl, .inl ⟨rfl, rfl, h1⟩⟩, rfl⟩
  by_cases c0 : r = 0
  · subst c0
    refine (refnum_zero w).mono ?_
    rintro e w' ⟨rfl, rfl⟩
    exact ⟨⟨_, _, rfl, .inr (.inl ⟨rfl, rfl, rfl⟩)⟩, rfl⟩
  by_cases c1 : r = Fp.one
  · subst c1
    refine (refnum_one w).mono ?_
    rintro e w' ⟨rfl, rfl⟩
    exact ⟨⟨_, _, rfl, .inr (.inr (.inl ⟨rfl, rfl, rfl⟩))⟩, rfl⟩
  by_cases c2 : r < Fp.one
  · exact refnum_between r (by omega) c2 w
  have hno : r ≠ 0 ∧ r ≠ Fp.one ∧ (0 < r → r < Fp.one → ∀ k n, ¬ Fp.Means r k n) := ⟨c0, c1, fun _ q => absurd q c2⟩
  by_cases c3 : r < 9218868437227405312
  · refine ref hno (.inr ?_)
    rw [show FloatKind.f64.format = Ieee.double from rfl, Fp.order_rung c3 (by omega), Nat.compare_eq_gt.2 (by omega)]
    exact ⟨(fun q => by cases q), (fun q => by cases q)⟩
  by_cases c4 : r = 9218868437227405312
  · refine ref hno (.inr ?_)
    rw [c4, show FloatKind.f64.format = Ieee.double from rfl, order_inf]
    exact ⟨(fun q => by cases q), (fun q => by cases q)⟩
  by_cases c5 : r = 9223372036854775808
  · subst c5
    refine (refnum_minus w).mono ?_
    rintro e w' ⟨rfl, rfl⟩
    exact ⟨⟨_, _, rfl, .inl ⟨rfl, rfl, hno⟩⟩, rfl⟩
  refine ref hno (.inl ?_)
  rw [show FloatKind.f64.format = Ieee.double from rfl]
  exact order_neg c3 c4 c5 hr
end Go.Proofs.YtclmnkilfijeaaaDoor
