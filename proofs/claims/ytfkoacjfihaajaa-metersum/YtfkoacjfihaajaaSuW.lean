import Derived.Test.YtfkoacjfihaajaaSuP
import Derived.Test.YtfkoacjfihaajaaMeB
set_option linter.unusedVariables false
set_option linter.unusedSimpArgs false
namespace Go.Proofs.Ytfkoacjfihaajaa
open Go.RowKit
namespace M
open Fl N
theorem Nu.step {k h L A B ra rb rc n0 n m : Nat} (u : Nu k h L A B ra rb rc n0) (hh : 1 ≤ h) (hk : k < 300) (hn : n < 1000) (hm : m < 1000) (h0 : k = 0 → n0 = n) :
    ∃ A' B' ra' rb' rc', Ieee.double.add (hvn (k * h / 15 / h - L / h) ra) (FloatKind.f64.nearest (n : Int)) = some ra' ∧ Ieee.double.add (hvn (k * h / 15 / h - L / h) rb) (FloatKind.f64.nearest (m : Int)) = some rb' ∧ Ieee.double.add (hvn (k * h / 15 / h - L / h) rc) (FloatKind.f64.nearest ((n + m : Nat) : Int)) = some rc' ∧ Nu (k + 1) h (k * h / 15) A' B' ra' rb' rc' n0 := by
  have hL : L ≤ k * h / 15 := Nat.le_trans u.lo (Nat.div_le_div_right (Nat.mul_le_mul_right _ (by omega)))
  have hp : L / h ≤ k * h / 15 / h := Nat.div_le_div_right hL
  have hp' := per (k := k) hh (by omega)
  generalize hP : k * h / 15 / h = p' at *
  have hw := pow_le hp'
  have hmono : 2 ^ (L / h) ≤ 2 ^ p' := Nat.pow_le_pow_right (by omega) hp
  have e1 : k * 1000 * 2 ^ (L / h) ≤ k * 1000 * 2 ^ p' := Nat.mul_le_mul_left _ hmono
  have a1 := u.ha
  have b1 := u.hb
  have e2 : n * 2 ^ p' ≤ 1000 * 2 ^ p' := Nat.mul_le_mul_right _ (by omega)
  have e3 : m * 2 ^ p' ≤ 1000 * 2 ^ p' := Nat.mul_le_mul_right _ (by omega)
  have e4 : (k + 1) * 1000 * 2 ^ p' = k * 1000 * 2 ^ p' + 1000 * 2 ^ p' := by rw [show (k + 1) * 1000 = k * 1000 + 1000 by omega, Nat.add_mul]
  have e5 : (k + 1) * 1000 * 2 ^ p' ≤ 300000 * 524288 := Nat.mul_le_mul (by omega) hw
  have e6 : (n + m) * 2 ^ p' = n * 2 ^ p' + m * 2 ^ p' := Nat.add_mul _ _ _
  have e7 : n ≤ n * 2 ^ p' := Nat.le_mul_of_pos_right _ (Nat.two_pow_pos _)
  have s1 : A + n * 2 ^ p' < 9007199254740992 := by omega
  have s2 : B + m * 2 ^ p' < 9007199254740992 := by omega
  have s3 : A + B + (n + m) * 2 ^ p' < 9007199254740992 := by omega
  obtain ⟨ra', x1, y1⟩ := u.ua.step hp (by omega) s1 (by omega)
  obtain ⟨rb', x2, y2⟩ := u.ub.step hp (by omega) s2 (by omega)
  obtain ⟨rc', x3, y3⟩ := u.uc.step hp (by omega) s3 (by omega)
  refine ⟨A + n * 2 ^ p', B + m * 2 ^ p', ra', rb', rc', x1, x2, x3, by rw [hP]; exact y1, by rw [hP]; exact y2, ?_, ?_, ?_, ?_, ?_⟩
  · rw [hP]
    have e : A + n * 2 ^ p' + (B + m * 2 ^ p') = A + B + (n + m) * 2 ^ p' := by omega
    rw [e]; exact y3
  · rw [Nat.add_sub_cancel]; exact Nat.le_refl _
  · rw [hP]; omega
  · rw [hP]; omega
  · intro _
    rcases Nat.eq_zero_or_pos k with q | q
    · rw [h0 q]; omega
    · have := u.fst q; omega
theorem Nu.start (h n0 : Nat) : Nu 0 h 0 0 0 0 0 0 n0 := by
  have e : 0 / h = 0 := Nat.zero_div _
  exact ⟨by rw [e]; exact Un.zero, by rw [e]; exact Un.zero, by rw [e]; exact Un.zero, by omega, by omega, by omega, fun q => by omega⟩
theorem Ms.drewN {w0 w : World} {ca cb cc h L ra rb rc : Nat} (m : Ms w0 ca cb cc h L ra rb rc w) (n : Nat) : Ms w0 ca cb cc h L ra rb rc (w.drewN n) := ⟨m.ma.drewN n, m.mb.drewN n, m.mc.drewN n, bel_drewN m.bel n, m.ba, m.ab, m.bc⟩
theorem w15 {k h : Nat} (hk : k < 300) (hh : h ≤ 1000) : wrap64 ((k : Int) * (h : Int)) = ((k * h : Nat) : Int) ∧ wrap64 (((k * h / 15 : Nat) : Int)) = ((k * h / 15 : Nat) : Int) ∧ ((k * h : Nat) : Int) / 15 = ((k * h / 15 : Nat) : Int) ∧ Int.tdiv ((k * h : Nat) : Int) 15 = ((k * h / 15 : Nat) : Int) := by
  have h1 : k * h ≤ 300 * 1000 := Nat.mul_le_mul (by omega) hh
  rw [← Int.natCast_mul]
  generalize k * h = X at *
  refine ⟨by unfold wrap64; omega, by unfold wrap64; omega, by omega, ?_⟩
  rw [Int.tdiv_eq_ediv_of_nonneg (by omega)]; omega
theorem wsum2 {n m : Nat} (hn : n < 1000) (hm : m < 1000) : wrap64 ((n : Int) + (m : Int)) = ((n + m : Nat) : Int) := by unfold wrap64; omega
set_option maxRecDepth 100000 in
set_option maxHeartbeats 4000000 in
theorem sum_walk (x0 : Int) (a1 : Option Addr) (c1 : Nat) (l1 : List Int) (a2 : Option Addr) (c2 : Nat) (l2 : List Int) (w : World) (hI1 : Rw 1 iarr w a1 l1) (hI2 : Rw 1 iarr w a2 l2) :
    Calls Try.prog 11 #[.int .i64 x0, .slice a1 l1.length c1, .slice a2 l2.length c2] w fun e w' => e = .returned (.bool true) ∧ Below w.heap.size w w' := by
  have P1 := hide' (pick_any x0 1000 w (by omega) (by omega))
  have hp := pk_lt x0 (m := 1000) (by omega)
  obtain ⟨p, hpe⟩ : ∃ p, pk x0 1000 = p := ⟨_, rfl⟩
  rw [hpe] at hp P1
  obtain ⟨h, hh⟩ : ∃ h, h = p + 1 := ⟨_, rfl⟩
  have hw1 : Hid (wrap64 (1 + (p : Int)) = (h : Int)) := hide' (by rw [hh]; exact wone hp)
  have Hh := hide' (show 1 ≤ h ∧ h ≤ 1000 by omega)
  have HN := hide' (fun w => new_any h w (by omega))
  have HI1 := hide' (fun w' (b : Below w.heap.size w w') => hI1.below b)
  have HI2 := hide' (fun w' (b : Below w.heap.size w w') => hI2.below b)
  obtain ⟨N, hN⟩ : ∃ N, N = min l1.length (min l2.length 300) := ⟨_, rfl⟩
  obtain ⟨n0, hn0⟩ : ∃ n0, n0 = pk (l1.getD 0 0) 1000 := ⟨_, rfl⟩
  have Hn0 := hide' hn0
  have HNN := hide' hN
  clear hp hpe hh hI1 hI2 hn0 hN
  go_enter Try.func11, Try.ntmps11
  go_wp2_with fail
  refine P1.out.mono ?_
  rintro e w1 ⟨rfl, hw⟩
  replace hw := hw.symm
  subst hw
  clear P1
  go_wp2_with fail
  rw [hw1.out]
  clear hw1
  refine (HN.out _).mono ?_
  rintro e w2 ⟨rfl, e2⟩
  have m2 : Mt w.heap.size h 0 0 w2 := by rw [e2]; exact heap_alloc_new _ _
  have b2 : Below w.heap.size w w2 := by rw [e2]; exact (Below.refl _ _).alloc (Nat.le_refl _) _
  have H2 := hide' (And.intro m2 b2)
  clear e2 m2 b2
  obtain ⟨ca, hca⟩ : ∃ c, c = w.heap.size := ⟨_, rfl⟩
  have Hca := hide' hca
  rw [← hca] at H2 ⊢
  clear hca
  go_wp2_with fail
  refine (HN.out _).mono ?_
  rintro e w3 ⟨rfl, e3⟩
  have m3 : Mt w2.heap.size h 0 0 w3 := by rw [e3]; exact heap_alloc_new _ _
  have b3 : Below w2.heap.size w2 w3 := by rw [e3]; exact (Below.refl _ _).alloc (Nat.le_refl _) _
  have H3 : Hid ((Mt ca h 0 0 w3 ∧ Below ca w w3) ∧ Mt w2.heap.size h 0 0 w3 ∧ ca < w2.heap.size) := hide' ⟨⟨H2.out.1.below b3, H2.out.2.trans (b3.mono (Nat.le_of_lt H2.out.1.lt))⟩, m3, H2.out.1.lt⟩
  clear e3 m3 b3 H2
  obtain ⟨cb, hcb⟩ : ∃ c, c = w2.heap.size := ⟨_, rfl⟩
  rw [← hcb] at H3 ⊢
  clear hcb
  go_wp2_with fail
  refine (HN.out _).mono ?_
  rintro e w4 ⟨rfl, e4⟩
  have m4 : Mt w3.heap.size h 0 0 w4 := by rw [e4]; exact heap_alloc_new _ _
  have b4 : Below w3.heap.size w3 w4 := by rw [e4]; exact (Below.refl _ _).alloc (Nat.le_refl _) _
  have H4 : Hid (Ms w ca cb w3.heap.size h 0 0 0 0 w4) := hide' ⟨H3.out.1.1.below b4, H3.out.2.1.below b4, m4, by rw [← Hca.out]; exact H3.out.1.2.trans (b4.mono (Nat.le_of_lt H3.out.1.1.lt)), by rw [Hca.out]; exact Nat.le_refl _, H3.out.2.2, H3.out.2.1.lt⟩
  clear e4 m4 b4 H3 HN
  obtain ⟨cc, hcc⟩ : ∃ c, c = w3.heap.size := ⟨_, rfl⟩
  rw [← hcc] at H4 ⊢
  clear hcc
  go_wp2_with fail
  go_loopw [14, 15] (fun x i wx => ∃ k L A B ra rb rc : Nat, x = .int .i64 (L : Int) ∧ i = .int .i64 (k : Int) ∧ k ≤ N ∧ Nu k h L A B ra rb rc n0 ∧ Ms w ca cb cc h L ra rb rc wx) (fun _ i _ => N - (intOf i).toNat)
  case atStart => exact ⟨0, 0, 0, 0, 0, 0, 0, rfl, rfl, Nat.zero_le _, Nu.start h n0, H4.out⟩
  case round =>
    obtain ⟨k, L, A, B, ra, rb, rc, rfl, rfl, hk, hu, hm⟩ := hrel
    clear H4
    by_cases hlt : k < N
    · have hN3 : k < l1.length ∧ k < l2.length ∧ k < 300 := by have := HNN.out; omega
      obtain ⟨g1, g2, g3⟩ := hN3
      obtain ⟨z1, hz1⟩ : ∃ z, l1[k]? = some z := ⟨_, List.getElem?_eq_getElem g1⟩
      obtain ⟨z2, hz2⟩ : ∃ z, l2[k]? = some z := ⟨_, List.getElem?_eq_getElem g2⟩
      obtain ⟨b1, off1, ea1, _, y1⟩ := icell (HI1.out _ hm.bel) hz1
      obtain ⟨b2, off2, ea2, _, y2⟩ := icell (HI2.out _ hm.bel) hz2
      have hp1 := pk_lt z1 (m := 1000) (by omega)
      have hp2 := pk_lt z2 (m := 1000) (by omega)
      have P1 := hide' (pick_any z1 1000 wr (by omega) (by omega))
      have P2 := hide' (pick_any z2 1000 wr (by omega) (by omega))
      have h00 : k = 0 → n0 = pk z1 1000 := fun q => by
        rw [q] at hz1
        rw [Hn0.out, List.getD_eq_getElem?_getD, hz1]; rfl
      obtain ⟨n, hne⟩ : ∃ p, pk z1 1000 = p := ⟨_, rfl⟩
      obtain ⟨m, hme⟩ : ∃ p, pk z2 1000 = p := ⟨_, rfl⟩
      rw [hne] at hp1 P1 h00
      rw [hme] at hp2 P2
      obtain ⟨A', B', ra', rb', rc', x1, x2, x3, hu'⟩ := hu.step Hh.out.1 g3 hp1 hp2 h00
      have hLL : L ≤ k * h / 15 := Nat.le_trans hu.lo (Nat.div_le_div_right (Nat.mul_le_mul_right _ (by omega)))
      have hTb : k * h / 15 < 9223372036854775808 := by
        have : k * h ≤ 300 * 1000 := Nat.mul_le_mul (by omega) Hh.out.2
        omega
      obtain ⟨u1, u2, u3, u4⟩ := w15 g3 Hh.out.2
      have HW := hide' (And.intro u1 (And.intro u2 u3))
      have HW4 := hide' (wsum2 hp1 hp2)
      obtain ⟨T, hT⟩ : ∃ T, k * h / 15 = T := ⟨_, rfl⟩
      rw [hT] at x1 x2 x3 hu' hLL hTb HW
      have C1 := hide' (note_ok (n := n) (now := T) hm.ma hLL Hh.out.1 hu.ua.lt hTb x1)
      have C2 := hide' (fun w2 (q : Mt cb h L rb w2) => note_ok (n := m) (now := T) q hLL Hh.out.1 hu.ub.lt hTb x2)
      have C3 := hide' (fun w2 (q : Mt cc h L rc w2) => note_ok (n := n + m) (now := T) q hLL Hh.out.1 hu.uc.lt hTb x3)
      have HM := hide' hm
      have HU := hide' hu'
      have Hlt := hide' hlt
      have ek := hide' (wsucN k (by omega))
      have Hms := hide' (msr' hlt _ rfl)
      have g1' : (k : Int) < (l1.length : Int) := by omega
      have g2' : (k : Int) < (l2.length : Int) := by omega
      have g3' : (k : Int) < 300 := by omega
      obtain ⟨K, hK⟩ : ∃ K, k * h = K := ⟨_, rfl⟩
      rw [hK] at HW
      clear hm hu hz1 hz2 hp1 hp2 h00 hne hme x1 x2 x3 hu' hLL hTb u1 u2 u3 u4 hT hlt hk g1 g2 g3 hK
      subst ea1
      subst ea2
      have v1 := HW.out.1
      have v2 := HW.out.2.1
      have v3 := HW.out.2.2
      go_wp2_with fail
      refine P1.out.mono ?_
      rintro e w5 ⟨rfl, hw⟩
      replace hw := hw.symm
      subst hw
      clear v1 v2 v3
      go_wp2_with fail
      refine P2.out.mono ?_
      rintro e w5 ⟨rfl, hw⟩
      replace hw := hw.symm
      subst hw
      go_wp2_with fail
      rw [HW.out.2.1]
      refine C1.out.mono ?_
      rintro e w5 ⟨rfl, q5, t5⟩
      have K5 : Hid (Mt ca h T ra' w5 ∧ Mt cb h L rb w5 ∧ Mt cc h L rc w5 ∧ Below w.heap.size w w5) := hide' ⟨q5, HM.out.mb.kept t5 (fun q => by have := HM.out.ab; omega), HM.out.mc.kept t5 (fun q => by have := HM.out.ab; have := HM.out.bc; omega), HM.out.bel.trans (t5.below (fun j hj => by rw [hj]; exact HM.out.ba) HM.out.bel.size)⟩
      clear q5 t5 C1
      go_wp2_with fail
      refine (C2.out _ K5.out.2.1).mono ?_
      rintro e w6 ⟨rfl, q6, t6⟩
      have K6 : Hid (Mt ca h T ra' w6 ∧ Mt cb h T rb' w6 ∧ Mt cc h L rc w6 ∧ Below w.heap.size w w6) := hide' ⟨K5.out.1.kept t6 (fun q => by have := HM.out.ab; omega), q6, K5.out.2.2.1.kept t6 (fun q => by have := HM.out.bc; omega), K5.out.2.2.2.trans (t6.below (fun j hj => by rw [hj]; exact Nat.le_trans HM.out.ba (Nat.le_of_lt HM.out.ab)) K5.out.2.2.2.size)⟩
      clear q6 t6 C2 K5
      go_wp2_with fail
      rw [HW4.out]
      refine (C3.out _ K6.out.2.2.1).mono ?_
      rintro e w7 ⟨rfl, q7, t7⟩
      have K7 : Hid (Ms w ca cb cc h T ra' rb' rc' w7) := hide' ⟨K6.out.1.kept t7 (fun q => by have := HM.out.ab; have := HM.out.bc; omega), K6.out.2.1.kept t7 (fun q => by have := HM.out.bc; omega), q7, K6.out.2.2.2.trans (t7.below (fun j hj => by rw [hj]; exact Nat.le_trans HM.out.ba (Nat.le_of_lt (Nat.lt_trans HM.out.ab HM.out.bc))) K6.out.2.2.2.size), HM.out.ba, HM.out.ab, HM.out.bc⟩
      clear q7 t7 C3 K6 HM HW HW4 P1 P2
      go_wp2
      exact ⟨⟨k + 1, T, A', B', ra', rb', rc', rfl, by first | rfl | (rw [ek.out]), Hlt.out, HU.out, K7.out⟩, by first | exact Hms.out | (rw [ek.out]; exact Hms.out)⟩
    · have hkN : k = N := by omega
      have hL9 := per (k := k - 1) Hh.out.1 (by have := HNN.out; omega)
      have hLp : L / h ≤ 19 := Nat.le_trans (Nat.div_le_div_right hu.lo) hL9
      have hLb : L < 9223372036854775808 := by
        have h1 := hu.lo
        have : (k - 1) * h ≤ 300 * 1000 := Nat.mul_le_mul (by have := HNN.out; omega) Hh.out.2
        omega
      have self : ∀ r, hvn (L / h - L / h) r = r := fun r => by rw [Nat.sub_self]; rfl
      have R1 := hide' (fun w2 (q : Mt ca h L ra w2) => rate_ok q (Nat.le_refl L) Hh.out.1 hu.ua.lt hLb)
      have R2 := hide' (fun w2 (q : Mt cb h L rb w2) => rate_ok q (Nat.le_refl L) Hh.out.1 hu.ub.lt hLb)
      have R3 := hide' (fun w2 (q : Mt cc h L rc w2) => rate_ok q (Nat.le_refl L) Hh.out.1 hu.uc.lt hLb)
      simp only [self] at R1 R2 R3
      have HS := hide' (And.intro (hu.ua.sum hu.ub hu.uc (by omega)) (order_self hu.uc.lt))
      have HM := hide' hm
      have HZ : Hid ((l1.length : Int) = 0 ∨ (¬ ((l1.length : Int) = 0) ∧ (l2.length : Int) = 0) ∨ ¬ ((l1.length : Int) = 0) ∧ ¬ ((l2.length : Int) = 0) ∧ ∃ (b1 off1 : Nat) (z0 : Int) (q : Nat), wr.cell? ⟨b1, off1, none⟩ = some (.int .i64 z0) ∧ a1 = some ⟨b1, off1, none⟩ ∧ Hid (∀ w, Calls Try.prog 31 #[.int .i64 z0, .int .i64 1000] w fun e w' => e = .returned (.int .i64 (n0 : Nat)) ∧ w' = w) ∧ Ieee.double.div (floatOfInt .f64 (n0 : Int)) 4697254411347427328 = some q ∧ (FloatKind.f64.format.order rc q = some .gt ∨ FloatKind.f64.format.order rc q = some .eq)) := by
        apply hide'
        by_cases g1 : l1.length = 0
        · exact .inl (by omega)
        · by_cases g2 : l2.length = 0
          · exact .inr (.inl ⟨by omega, by omega⟩)
          · refine .inr (.inr ⟨by omega, by omega, ?_⟩)
            obtain ⟨z0, hz0⟩ : ∃ z, l1[0]? = some z := ⟨_, List.getElem?_eq_getElem (by omega)⟩
            obtain ⟨b1, off1, ea, _, y0⟩ := icell (HI1.out _ hm.bel) hz0
            have e0 : pk z0 1000 = n0 := by rw [Hn0.out, List.getD_eq_getElem?_getD, hz0]; rfl
            have hf := hu.fst (by have := HNN.out; omega)
            have hn := pk_lt z0 (m := 1000) (by omega)
            rw [e0] at hn
            obtain ⟨q, hq, hoq⟩ := hu.uc.first (n := n0) (by omega) hn (by omega)
            exact ⟨b1, off1, z0, q, y0, ea, hide' (fun w => by have := pick_any z0 1000 w (by omega) (by omega); rw [e0] at this; exact this), hq, hoq⟩
      have h3 : ¬ ((k : Int) < (l1.length : Int)) ∨ ((k : Int) < (l1.length : Int) ∧ ¬ ((k : Int) < (l2.length : Int))) ∨ ((k : Int) < (l1.length : Int) ∧ (k : Int) < (l2.length : Int) ∧ ¬ ((k : Int) < 300)) := by
        have := HNN.out; omega
      clear hm hu hLb hLp hL9 self hkN hlt hk HNN Hn0 HI1 HI2 Hh
      generalize l1.length = N1 at *
      generalize l2.length = N2 at *
      rcases h3 with h3 | ⟨h3, h4⟩ | ⟨h3, h4, h5⟩
      · skip
        go_wp2_with fail
        refine (R1.out _ HM.out.ma).mono ?_
        rintro e w5 ⟨rfl, k5, rfl⟩
        go_wp2_with fail
        refine (R2.out _ (HM.out.drewN k5).mb).mono ?_
        rintro e w6 ⟨rfl, k6, rfl⟩
        simp only [World.drewN_drewN]
        go_wp2_with fail
        refine (R3.out _ (HM.out.drewN (k5 + k6)).mc).mono ?_
        rintro e w7 ⟨rfl, k7, rfl⟩
        simp only [World.drewN_drewN]
        have HB := hide' (bel_drewN HM.out.bel (k5 + k6 + k7))
        have hs := fun w => run_add HS.out.1 w
        have ho := HS.out.2
        clear R1 R2 R3
        rcases HZ.out with hz | ⟨hz, hz2⟩ | ⟨hz, hz2, b1, off1, z0, q, y0, ea, PK, hq, hoq⟩
        · have hy : N1 = 0 := by omega
          go_wp2
          go_ret
          exact ⟨rfl, HB.out⟩
        · have hy : ¬ N1 = 0 := by omega
          have hy2 : N2 = 0 := by omega
          go_wp2
          go_ret
          exact ⟨rfl, HB.out⟩
        · have hd := fun w => run_div hq w
          clear hq
          subst ea
          have hy : ¬ N1 = 0 := by omega
          have hy2 : ¬ N2 = 0 := by omega
          have hy3 : (0 : Int) < (N1 : Int) := by omega
          rcases hoq with hoq | hoq
          · go_wp2_with fail
            refine (PK.out _).mono ?_
            rintro e w8 ⟨rfl, hw⟩
            replace hw := hw.symm
            subst hw
            go_wp2
            go_ret
            exact ⟨rfl, HB.out⟩
          · go_wp2_with fail
            refine (PK.out _).mono ?_
            rintro e w8 ⟨rfl, hw⟩
            replace hw := hw.symm
            subst hw
            go_wp2
            go_ret
            exact ⟨rfl, HB.out⟩
      · skip
        go_wp2_with fail
        refine (R1.out _ HM.out.ma).mono ?_
        rintro e w5 ⟨rfl, k5, rfl⟩
        go_wp2_with fail
        refine (R2.out _ (HM.out.drewN k5).mb).mono ?_
        rintro e w6 ⟨rfl, k6, rfl⟩
        simp only [World.drewN_drewN]
        go_wp2_with fail
        refine (R3.out _ (HM.out.drewN (k5 + k6)).mc).mono ?_
        rintro e w7 ⟨rfl, k7, rfl⟩
        simp only [World.drewN_drewN]
        have HB := hide' (bel_drewN HM.out.bel (k5 + k6 + k7))
        have hs := fun w => run_add HS.out.1 w
        have ho := HS.out.2
        clear R1 R2 R3
        rcases HZ.out with hz | ⟨hz, hz2⟩ | ⟨hz, hz2, b1, off1, z0, q, y0, ea, PK, hq, hoq⟩
        · have hy : N1 = 0 := by omega
          go_wp2
          go_ret
          exact ⟨rfl, HB.out⟩
        · have hy : ¬ N1 = 0 := by omega
          have hy2 : N2 = 0 := by omega
          go_wp2
          go_ret
          exact ⟨rfl, HB.out⟩
        · have hd := fun w => run_div hq w
          clear hq
          subst ea
          have hy : ¬ N1 = 0 := by omega
          have hy2 : ¬ N2 = 0 := by omega
          have hy3 : (0 : Int) < (N1 : Int) := by omega
          rcases hoq with hoq | hoq
          · go_wp2_with fail
            refine (PK.out _).mono ?_
            rintro e w8 ⟨rfl, hw⟩
            replace hw := hw.symm
            subst hw
            go_wp2
            go_ret
            exact ⟨rfl, HB.out⟩
          · go_wp2_with fail
            refine (PK.out _).mono ?_
            rintro e w8 ⟨rfl, hw⟩
            replace hw := hw.symm
            subst hw
            go_wp2
            go_ret
            exact ⟨rfl, HB.out⟩
      · skip
        go_wp2_with fail
        refine (R1.out _ HM.out.ma).mono ?_
        rintro e w5 ⟨rfl, k5, rfl⟩
        go_wp2_with fail
        refine (R2.out _ (HM.out.drewN k5).mb).mono ?_
        rintro e w6 ⟨rfl, k6, rfl⟩
        simp only [World.drewN_drewN]
        go_wp2_with fail
        refine (R3.out _ (HM.out.drewN (k5 + k6)).mc).mono ?_
        rintro e w7 ⟨rfl, k7, rfl⟩
        simp only [World.drewN_drewN]
        have HB := hide' (bel_drewN HM.out.bel (k5 + k6 + k7))
        have hs := fun w => run_add HS.out.1 w
        have ho := HS.out.2
        clear R1 R2 R3
        rcases HZ.out with hz | ⟨hz, hz2⟩ | ⟨hz, hz2, b1, off1, z0, q, y0, ea, PK, hq, hoq⟩
        · have hy : N1 = 0 := by omega
          go_wp2
          go_ret
          exact ⟨rfl, HB.out⟩
        · have hy : ¬ N1 = 0 := by omega
          have hy2 : N2 = 0 := by omega
          go_wp2
          go_ret
          exact ⟨rfl, HB.out⟩
        · have hd := fun w => run_div hq w
          clear hq
          subst ea
          have hy : ¬ N1 = 0 := by omega
          have hy2 : ¬ N2 = 0 := by omega
          have hy3 : (0 : Int) < (N1 : Int) := by omega
          rcases hoq with hoq | hoq
          · go_wp2_with fail
            refine (PK.out _).mono ?_
            rintro e w8 ⟨rfl, hw⟩
            replace hw := hw.symm
            subst hw
            go_wp2
            go_ret
            exact ⟨rfl, HB.out⟩
          · go_wp2_with fail
            refine (PK.out _).mono ?_
            rintro e w8 ⟨rfl, hw⟩
            replace hw := hw.symm
            subst hw
            go_wp2
            go_ret
            exact ⟨rfl, HB.out⟩
end M
end Go.Proofs.Ytfkoacjfihaajaa
