import Derived.Test.YtfkoacjfihaajaaFiW
set_option linter.unusedVariables false
set_option linter.unusedSimpArgs false
namespace Go.Proofs.Ytfkoacjfihaajaa
open Go.RowKit
namespace M
open Fl
theorem one_down : hvn 1021 4607182418800017408 = 9007199254740992 := by decide +kernel
theorem order_pos {a b : Nat} (ha : a < 9218868437227405312) (hb : b < 9218868437227405312) : FloatKind.f64.format.order a b = some (compare a b) := by
  have := order_fin (fin_pos ha) (fin_pos hb)
  rw [show FloatKind.f64.format.order a b = Ieee.double.order a b from rfl, this]
  congr 1
  rcases Nat.lt_trichotomy a b with k | k | k
  · have := V_mono 52 k
    rw [Nat.compare_eq_lt.2 k, Int.compare_eq_lt.2 (by omega)]
  · subst k; rw [Nat.compare_eq_eq.2 rfl, Int.compare_eq_eq.2 rfl]
  · have := V_mono 52 k
    rw [Nat.compare_eq_gt.2 k, Int.compare_eq_gt.2 (by omega)]
theorem order_lt {a b : Nat} (ha : a < 9218868437227405312) (hb : b < 9218868437227405312) (h : a < b) : FloatKind.f64.format.order a b = some .lt := by rw [order_pos ha hb, Nat.compare_eq_lt.2 h]
theorem order_gt {a b : Nat} (ha : a < 9218868437227405312) (hb : b < 9218868437227405312) (h : b < a) : FloatKind.f64.format.order a b = some .gt := by rw [order_pos ha hb, Nat.compare_eq_gt.2 h]
/-- twice the half -/
theorem twice {A : Nat} (h : A < 9218868437227405312) (hb : 9007199254740992 ≤ A) : Ieee.double.add (hv A) (hv A) = some A := by
  have e : rn 52 0 (V 52 (hv A) + V 52 (hv A)) = A := by
    rw [← Nat.mul_two, V_hv hb]
    have := rn_V 52 0 A
    rwa [Nat.pow_zero, Nat.mul_one] at this
  rw [add_pos (hv_lt h) (hv_lt h) (by rw [e]; exact h), e]
theorem twice0 : Ieee.double.add (hv 0) (hv 0) = some 0 := by decide +kernel
/-- what the law asks in the end -/
theorem half_end {A : Nat} (h : A < 9218868437227405312) : (A = 0 ∧ Ieee.double.add (hv A) (hv A) = some A) ∨ (FloatKind.f64.format.order A 0 = some .gt ∧ FloatKind.f64.format.order A 9007199254740992 = some .lt) ∨ (FloatKind.f64.format.order A 0 = some .gt ∧ (FloatKind.f64.format.order A 9007199254740992 = some .eq ∨ FloatKind.f64.format.order A 9007199254740992 = some .gt) ∧ Ieee.double.add (hv A) (hv A) = some A) := by
  rcases Nat.eq_zero_or_pos A with e | e
  · subst e; exact .inl ⟨rfl, twice0⟩
  · rcases Nat.lt_trichotomy A 9007199254740992 with k | k | k
    · exact .inr (.inl ⟨order_gt h (by omega) e, order_lt h (by omega) k⟩)
    · exact .inr (.inr ⟨order_gt h (by omega) e, .inl (by rw [k]; exact order_self (by omega)), twice h (by omega)⟩)
    · exact .inr (.inr ⟨order_gt h (by omega) e, .inr (order_gt h (by omega) k), twice h (by omega)⟩)
theorem wmul {D h G : Nat} (e : G = D * h) (hb : G < 9223372036854775808) : wrap64 ((D : Int) * (h : Int)) = (G : Int) := by
  rw [e] at *
  rw [← Int.natCast_mul]
  unfold wrap64; omega
theorem wself {D : Nat} (h : D < 9223372036854775808) : wrap64 (D : Int) = (D : Int) := by unfold wrap64; omega
theorem div_add_self' {T h : Nat} (hh : 1 ≤ h) : (T + h) / h = T / h + 1 := Nat.add_div_right T (by omega)
set_option maxRecDepth 100000 in
set_option maxHeartbeats 4000000 in
theorem half_walk (x0 : Int) (a : Option Addr) (cap : Nat) (ss : List S3) (x2 : Int) (w : World) (hI : Rw 3 S3.arr w a ss) (hs : ss.length ≤ 5864062014634) (hcap : ss.length ≤ cap) :
    Calls Try.prog 9 #[.int .i64 x0, .slice a ss.length cap, .int .i64 x2] w fun e w' => e = .returned (.bool true) ∧ Below w.heap.size w w' := by
  have P1 := hide' (pick_any x0 1000 w (by omega) (by omega))
  have hp := pk_lt x0 (m := 1000) (by omega)
  obtain ⟨p, hpe⟩ : ∃ p, pk x0 1000 = p := ⟨_, rfl⟩
  rw [hpe] at hp P1
  obtain ⟨h, hh⟩ : ∃ h, h = p + 1 := ⟨_, rfl⟩
  have hw1 : Hid (wrap64 (1 + (p : Int)) = (h : Int)) := hide' (by rw [hh]; exact wone hp)
  have H1 := hide' (noted_any h a cap ss w (by omega) hI hs hcap)
  have Hh := hide' (show 1 ≤ h ∧ h ≤ 1000 by omega)
  have HS := hide' hs
  have P2 := hide' (fun w => pick_any x2 100000 w (by omega) (by omega))
  have hp2 := pk_lt x2 (m := 100000) (by omega)
  obtain ⟨n, hne⟩ : ∃ p, pk x2 100000 = p := ⟨_, rfl⟩
  rw [hne] at hp2 P2
  have Hp2 := hide' hp2
  clear hp hpe hh hI hs hcap hp2 hne
  go_enter Try.func9, Try.ntmps9
  go_wp2_with fail
  refine P1.out.mono ?_
  rintro e w1 ⟨rfl, rfl⟩
  clear P1
  go_wp2_with fail
  rw [hw1.out]
  refine H1.out.mono ?_
  rintro e w2 ⟨c, now, r, rfl, HM⟩
  clear H1 hw1
  go_wp2_with fail
  refine (P2.out _).mono ?_
  rintro e w3 ⟨rfl, rfl⟩
  clear P2
  obtain ⟨T, hT⟩ : ∃ T, T = now + n := ⟨_, rfl⟩
  have hTb : T + h < 9223372036854775808 := by have := HM.out.1; have := HS.out; have := Hp2.out; have := Hh.out; omega
  have W1 := hide' (wadd hT (by omega))
  obtain ⟨U, hU⟩ : ∃ U, U = T + h := ⟨_, rfl⟩
  have W2 := hide' (wadd hU (by omega))
  obtain ⟨D, hD⟩ : ∃ D, D = T / h := ⟨_, rfl⟩
  have W3 : Hid ((T : Int) / (h : Int) = (D : Int)) := hide' (by rw [hD]; rfl)
  have W5 : Hid (wrap64 (D : Int) = (D : Int)) := hide' (wself (by rw [hD]; have := Nat.div_le_self T h; omega))
  obtain ⟨G, hG⟩ : ∃ G, G = D * h := ⟨_, rfl⟩
  have hGT : G ≤ T := by rw [hG, hD]; exact Nat.div_mul_le_self _ _
  have W4 := hide' (wmul hG (by omega))
  obtain ⟨A, hA⟩ : ∃ A, A = hvn (T / h - now / h) r := ⟨_, rfl⟩
  have hAf : A < 9218868437227405312 := by rw [hA]; exact hvn_lt HM.out.2.fin _
  have C1 := hide' (fun w2 (q : Mt c h now r w2) => rate_ok (now := T) q (by omega) Hh.out.1 HM.out.2.fin (by omega))
  simp only [← hA] at C1
  have hB : hvn (U / h - now / h) r = hv A := by
    rw [hU, div_add_self' Hh.out.1, hA]
    have : now / h ≤ T / h := Nat.div_le_div_right (by omega)
    rw [show T / h + 1 - now / h = (T / h - now / h) + 1 by omega]
    rfl
  have C2 := hide' (fun w2 (q : Mt c h now r w2) => rate_ok (now := U) q (by omega) Hh.out.1 HM.out.2.fin (by omega))
  simp only [hB] at C2
  obtain ⟨X, E, hX, C3⟩ : ∃ (X : Nat) (E : Int), ((now : Int) ≤ (G : Int) ∧ X = A ∧ E = 0 ∨ ¬ ((now : Int) ≤ (G : Int)) ∧ E = 1) ∧ Hid (∀ w2, Mt c h now r w2 → Calls Try.prog 18 #[.pointer (some ⟨c, 0, none⟩), .int .i64 (G : Nat)] w2 fun e w' => e = .returned (.tuple #[.float .f64 X, .int .i64 E]) ∧ ∃ k, w' = w2.drewN k) := by
    by_cases h0 : now ≤ G
    · refine ⟨A, 0, .inl ⟨by omega, rfl, rfl⟩, hide' (fun w2 q => ?_)⟩
      have := rate_ok (now := G) q h0 Hh.out.1 HM.out.2.fin (by omega)
      rw [hG, Nat.mul_div_cancel _ (by have := Hh.out.1; omega), hD, ← hA] at this
      rw [hG, hD]
      exact this
    · exact ⟨0, 1, .inr ⟨by omega, rfl⟩, hide' (fun w2 q => (rate_early q (by omega)).mono (fun e w' ⟨h1, h2⟩ => ⟨h1, 0, h2⟩))⟩
  have HB := hide' HM.out.2.bel
  have HQ := hide' HM.out.2.mt
  have HO := hide' (order_self hAf)
  have HE := hide' (half_end hAf)
  have Hh0 : Hid (¬ ((h : Int) = 0)) := hide' (by have := Hh.out.1; omega)
  have HR := hide' (fun k => hvn_lt (r := 4607182418800017408) (by omega) k)
  clear hT hTb hU hD hG hGT hA hAf hB HM HS Hp2 Hh
  generalize hHA : hv A = HA at *
  clear hHA
  go_wp2_with fail
  rw [W1.out]
  refine (C1.out _ HQ.out).mono ?_
  rintro e w4 ⟨rfl, k4, rfl⟩
  go_wp2_with fail
  rw [W2.out]
  refine (C2.out _ (HQ.out.drewN _)).mono ?_
  rintro e w5 ⟨rfl, k5, rfl⟩
  have hh0 := Hh0.out
  go_wp2_with fail
  rw [W3.out, W5.out, W4.out]
  refine (C3.out _ (HQ.out.drewN _)).mono ?_
  rintro e w6 ⟨rfl, k6, rfl⟩
  go_wp2_with fail
  refine (C1.out _ (HQ.out.drewN _)).mono ?_
  rintro e w7 ⟨rfl, k7, rfl⟩
  clear C1 C2 C3
  have ho := HO.out
  have HB7 := hide' (bel_drewN HB.out (k4 + k5 + k6 + k7))
  rcases hX with ⟨hz, rfl, rfl⟩ | ⟨hz, rfl⟩
  · have hz' : now ≤ G := by omega
    clear hz
    have w3 := W3.out
    have w4 := W4.out
    have w5 := W5.out
    go_wp2_with fail
    clear w3 w4 w5
    go_loopw [20, 21] (fun x i wx => ∃ k : Nat, x = .float .f64 (hvn k 4607182418800017408) ∧ i = .int .i64 (k : Int) ∧ k ≤ 1021 ∧ Below w1.heap.size w1 wx) (fun _ i _ => 1021 - (intOf i).toNat)
    case atStart => exact ⟨0, rfl, rfl, Nat.zero_le _, HB7.out⟩
    case round =>
      obtain ⟨k, rfl, rfl, hk, hb⟩ := hrel
      by_cases hlt : k < 1021
      · have hlt' : (k : Int) < 1021 := by omega
        have hq := fun w => run_half (HR.out k) w
        generalize hx : hvn k 4607182418800017408 = x at *
        have Hx := hide' hx
        have Hlt := hide' hlt
        have Hb := hide' hb
        clear hx hlt hk hb
        go_wp2
        exact ⟨⟨k + 1, by rw [← Hx.out]; rfl, rfl, Hlt.out, Hb.out⟩, msr' Hlt.out _ rfl⟩
      · obtain ⟨N, hN⟩ : ∃ N : Nat, N = k := ⟨_, rfl⟩
        have hN' : ¬ ((N : Int) < 1021) := by omega
        have hv : hvn k 4607182418800017408 = 9007199254740992 := by rw [show k = 1021 by omega]; exact one_down
        rw [hv, ← hN]
        have Hb := hide' hb
        clear hv hN hlt hk hb
        rcases HE.out with ⟨e0, ea⟩ | ⟨o1, o2⟩ | ⟨o1, o2 | o2, ea⟩
        · subst e0
          have hra := fun w => run_add ea w
          clear ea
          go_wp2
          go_ret
          exact ⟨rfl, Hb.out⟩
        · go_wp2
          go_ret
          exact ⟨rfl, Hb.out⟩
        · have hra := fun w => run_add ea w
          clear ea
          go_wp2
          go_ret
          exact ⟨rfl, Hb.out⟩
        · have hra := fun w => run_add ea w
          clear ea
          go_wp2
          go_ret
          exact ⟨rfl, Hb.out⟩
  · have hz' : ¬ now ≤ G := by omega
    clear hz
    have w3 := W3.out
    have w4 := W4.out
    have w5 := W5.out
    go_wp2_with fail
    clear w3 w4 w5
    go_loopw [20, 21] (fun x i wx => ∃ k : Nat, x = .float .f64 (hvn k 4607182418800017408) ∧ i = .int .i64 (k : Int) ∧ k ≤ 1021 ∧ Below w1.heap.size w1 wx) (fun _ i _ => 1021 - (intOf i).toNat)
    case atStart => exact ⟨0, rfl, rfl, Nat.zero_le _, HB7.out⟩
    case round =>
      obtain ⟨k, rfl, rfl, hk, hb⟩ := hrel
      by_cases hlt : k < 1021
      · have hlt' : (k : Int) < 1021 := by omega
        have hq := fun w => run_half (HR.out k) w
        generalize hx : hvn k 4607182418800017408 = x at *
        have Hx := hide' hx
        have Hlt := hide' hlt
        have Hb := hide' hb
        clear hx hlt hk hb
        go_wp2
        exact ⟨⟨k + 1, by rw [← Hx.out]; rfl, rfl, Hlt.out, Hb.out⟩, msr' Hlt.out _ rfl⟩
      · obtain ⟨N, hN⟩ : ∃ N : Nat, N = k := ⟨_, rfl⟩
        have hN' : ¬ ((N : Int) < 1021) := by omega
        have hv : hvn k 4607182418800017408 = 9007199254740992 := by rw [show k = 1021 by omega]; exact one_down
        rw [hv, ← hN]
        have Hb := hide' hb
        clear hv hN hlt hk hb
        rcases HE.out with ⟨e0, ea⟩ | ⟨o1, o2⟩ | ⟨o1, o2 | o2, ea⟩
        · subst e0
          have hra := fun w => run_add ea w
          clear ea
          go_wp2
          go_ret
          exact ⟨rfl, Hb.out⟩
        · go_wp2
          go_ret
          exact ⟨rfl, Hb.out⟩
        · have hra := fun w => run_add ea w
          clear ea
          go_wp2
          go_ret
          exact ⟨rfl, Hb.out⟩
        · have hra := fun w => run_add ea w
          clear ea
          go_wp2
          go_ret
          exact ⟨rfl, Hb.out⟩
end M
end Go.Proofs.Ytfkoacjfihaajaa
