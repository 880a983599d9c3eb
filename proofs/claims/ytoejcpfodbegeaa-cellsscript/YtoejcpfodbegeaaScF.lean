import Derived.Test.YtoejcpfodbegeaaScP
set_option linter.unusedVariables false
set_option linter.unusedSimpArgs false
namespace Go.Proofs.Ytoejcpfodbegeaa
open Go.RowKit
namespace F
open M
set_option maxRecDepth 100000 in
set_option maxHeartbeats 1000000 in
theorem script_no (wd : Int) (a a2 : Option Addr) (l c l2 c2 : Nat) (w : World) (h : wd < 1 ∨ 65536 < wd) :
    Calls Try.prog 4 #[.int .i64 wd, .slice a l c, .slice a2 l2 c2] w fun e w' => e = .returned (.bool true) ∧ Below w.heap.size w w' := by
  have H1 := hide' (M.new_no wd w h)
  have H2 := hide' (F.new_no wd w h)
  clear h
  go_enter Try.func4, Try.ntmps4
  go_wp2_with fail
  refine H1.out.mono ?_
  rintro e w1 ⟨rfl, hw⟩
  replace hw := hw.symm
  subst hw
  go_wp2_with fail
  refine H2.out.mono ?_
  rintro e w1 ⟨rfl, hw⟩
  replace hw := hw.symm
  subst hw
  go_wp2_with fail
  refine H1.out.mono ?_
  rintro e w1 ⟨rfl, hw⟩
  replace hw := hw.symm
  subst hw
  go_wp2_with fail
  refine H2.out.mono ?_
  rintro e w1 ⟨rfl, hw⟩
  replace hw := hw.symm
  subst hw
  go_wp2
  go_ret
  exact ⟨rfl, Below.refl _ _⟩
/-- a step out of a script -/
theorem sts_cells {w wx : World} {a : Option Addr} {ss : List St} (h : Sts w a ss) (bl : Below w.heap.size w wx) {k : Nat} (hk : k < ss.length) : ∃ b off, a = some ⟨b, off, none⟩ ∧ ∀ r, r < 9 → wx.cell? ⟨b, off + k * 9 + r, none⟩ = ss[k].arr[r]? := by
  rcases h with hI | ⟨b, off, rfl, hb, hc⟩
  · rw [hI] at hk; simp at hk
  · exact ⟨b, off, rfl, fun r hr => (bl.cell (p := ⟨b, off + k * 9 + r, none⟩) hb).trans (hc k hk r hr)⟩
set_option maxRecDepth 100000 in
set_option maxHeartbeats 4000000 in
theorem script_yes (n : Nat) (hn : 0 < n ∧ n ≤ 65536) (a a2 : Option Addr) (c c2 : Nat) (ss ss2 : List St) (w : World) (hI : Sts w a ss) (hok : ∀ s ∈ ss, s.ok) (hl : ss.length ≤ 1954687338268) (hI2 : Sts w a2 ss2) (hok2 : ∀ s ∈ ss2, s.ok) (hl2 : ss2.length ≤ 1954687338268) :
    Calls Try.prog 4 #[.int .i64 (n : Nat), .slice a ss.length c, .slice a2 ss2.length c2] w fun e w' => e = .returned (.bool true) ∧ Below w.heap.size w w' := by
  have H1 := hide' (fun w => M.new_any n w hn.1 hn.2 _ rfl)
  have H2 := hide' (fun w => F.new_any n w hn.1 hn.2 _ rfl)
  have HN := hide' hn
  have HI := hide' hI
  have HI2 := hide' hI2
  have HOK := hide' hok
  have HOK2 := hide' hok2
  obtain ⟨mx, hmx⟩ : ∃ mx : Nat, mx = 1954687338268 := ⟨_, rfl⟩
  have HL : Hid (ss.length ≤ mx) := by rw [hmx]; exact hl
  have HL2 : Hid (ss2.length ≤ mx) := by rw [hmx]; exact hl2
  have HX := hide' hmx
  clear hmx
  clear hn hI hI2 hok hok2 hl hl2
  go_enter Try.func4, Try.ntmps4
  go_wp2_with fail
  refine (H1.out _).mono ?_
  rintro e w1 ⟨x, rfl, D1, h1, b1⟩
  go_wp2_with fail
  refine (H2.out _).mono ?_
  rintro e w2 ⟨y, rfl, R1, h2, b2⟩
  go_wp2_with fail
  refine (H1.out _).mono ?_
  rintro e w3 ⟨x2, rfl, D2, h3, b3⟩
  go_wp2_with fail
  refine (H2.out _).mono ?_
  rintro e w4 ⟨y2, rfl, R2, h4, b4⟩
  have HQ := hide' (Q2.made h1 b1 h2 b2 h3 b3 h4 b4)
  clear h1 b1 h2 b2 h3 b3 h4 b4 H1 H2
  go_wp2_with fail
  go_loopw [15] (fun i wx => ∃ (k k1 k2 : Nat), i = .int .i64 (k : Int) ∧ k1 ≤ k ∧ k2 ≤ k ∧ k ≤ mx ∧ Q2 w n k1 k2 x y x2 y2 wx) (fun i _ => (mx + 1) - (intOf i).toNat)
  case atStart => exact ⟨0, 0, 0, rfl, Nat.le_refl _, Nat.le_refl _, by omega, HQ.out⟩
  case round =>
    obtain ⟨k, k1, k2, rfl, q1, q2, q3, hQ⟩ := hrel
    have HQ1 := hide' hQ
    have bl := hQ.bel
    have Hq := hide' (And.intro q1 (And.intro q2 q3))
    have Hwk := hide' (wrap_kk k (by have := HX.out; omega))
    have Hwk2 := hide' (vint_kk k (by have := HX.out; omega))
    clear hQ q1 q2 q3 HQ
    by_cases hlt : k < ss.length
    · have hk1 := Nat.lt_of_lt_of_le hlt HL.out
      obtain ⟨b, off, rfl, hcs⟩ := sts_cells HI.out bl hlt
      have hok := HOK.out _ (List.getElem_mem hlt)
      generalize ss[k] = s at *
      obtain ⟨sd, sa, sb, sc, ⟨xk, xa, xv, xo, xg⟩⟩ := s
      have hkk := Hq.out.1
      have Hc := hide' (HQ1.out.one ⟨sd, sa, sb, sc, ⟨xk, xa, xv, xo, xg⟩⟩ hok (by have := HX.out; have := Hq.out.1; have := Hq.out.2.2; omega))
      unfold St.arr at Hc
      simp only at Hc
      have c0 : wr.cell? ⟨b, off + k * 9, none⟩ = some (.int .i64 sd) := hcs 0 (by omega)
      have c1 : wr.cell? ⟨b, off + k * 9 + 1, none⟩ = some (.int .i64 sa) := hcs 1 (by omega)
      have c2 : wr.cell? ⟨b, off + k * 9 + 2, none⟩ = some (.int .i64 sb) := hcs 2 (by omega)
      have c3 : wr.cell? ⟨b, off + k * 9 + 3, none⟩ = some (.int .i64 sc) := hcs 3 (by omega)
      have c4 : wr.cell? ⟨b, off + k * 9 + 4, none⟩ = some (.int .i8 xk) := hcs 4 (by omega)
      have c5 : wr.cell? ⟨b, off + k * 9 + 5, none⟩ = some (.int .i64 xa) := hcs 5 (by omega)
      have c6 : wr.cell? ⟨b, off + k * 9 + 6, none⟩ = some (.int .i64 xv) := hcs 6 (by omega)
      have c7 : wr.cell? ⟨b, off + k * 9 + 7, none⟩ = some (.int .i64 xo) := hcs 7 (by omega)
      have c8 : wr.cell? ⟨b, off + k * 9 + 8, none⟩ = some (.bool xg) := hcs 8 (by omega)
      clear hcs hok hkk bl
      by_cases hlt2 : k < ss2.length
      · go_wp2_with fail
        refine Hc.out.mono ?_
        rintro e w5 ⟨rfl, h5⟩
        have H5 := hide' h5
        have bl5 := h5.bel
        obtain ⟨b2, off2, rfl, hcs2⟩ := sts_cells HI2.out bl5 hlt2
        have hok2 := HOK2.out _ (List.getElem_mem hlt2)
        generalize ss2[k] = s2 at *
        obtain ⟨sd2, sa2, sb2, sc2, ⟨xk2, xa2, xv2, xo2, xg2⟩⟩ := s2
        have Hc2 := hide' (H5.out.two ⟨sd2, sa2, sb2, sc2, ⟨xk2, xa2, xv2, xo2, xg2⟩⟩ hok2 (by have := HX.out; have := Hq.out.2.1; have := Hq.out.2.2; omega))
        unfold St.arr at Hc2
        simp only at Hc2
        have e0 : w5.cell? ⟨b2, off2 + k * 9, none⟩ = some (.int .i64 sd2) := hcs2 0 (by omega)
        have e1 : w5.cell? ⟨b2, off2 + k * 9 + 1, none⟩ = some (.int .i64 sa2) := hcs2 1 (by omega)
        have e2 : w5.cell? ⟨b2, off2 + k * 9 + 2, none⟩ = some (.int .i64 sb2) := hcs2 2 (by omega)
        have e3 : w5.cell? ⟨b2, off2 + k * 9 + 3, none⟩ = some (.int .i64 sc2) := hcs2 3 (by omega)
        have e4 : w5.cell? ⟨b2, off2 + k * 9 + 4, none⟩ = some (.int .i8 xk2) := hcs2 4 (by omega)
        have e5 : w5.cell? ⟨b2, off2 + k * 9 + 5, none⟩ = some (.int .i64 xa2) := hcs2 5 (by omega)
        have e6 : w5.cell? ⟨b2, off2 + k * 9 + 6, none⟩ = some (.int .i64 xv2) := hcs2 6 (by omega)
        have e7 : w5.cell? ⟨b2, off2 + k * 9 + 7, none⟩ = some (.int .i64 xo2) := hcs2 7 (by omega)
        have e8 : w5.cell? ⟨b2, off2 + k * 9 + 8, none⟩ = some (.bool xg2) := hcs2 8 (by omega)
        clear hcs2 hok2 bl5 h5 Hc c0 c1 c2 c3 c4 c5 c6 c7 c8
        go_wp2_with fail
        refine Hc2.out.mono ?_
        rintro e w6 ⟨rfl, h6⟩
        have H6 := hide' h6
        clear Hc2 h6 e0 e1 e2 e3 e4 e5 e6 e7 e8 H5
        go_wp2
        go_roundw
        case rel => exact ⟨k + 1, k1 + 1, k2 + 1, Hwk2.out, by have := Hq.out.1; omega, by have := Hq.out.2.1; omega, by omega, H6.out⟩
        case measure => exact msr (by omega) Hwk.out
      · go_wp2_with fail
        refine Hc.out.mono ?_
        rintro e w5 ⟨rfl, h5⟩
        have H5 := hide' h5
        clear Hc h5 c0 c1 c2 c3 c4 c5 c6 c7 c8
        go_wp2
        go_roundw
        case rel => exact ⟨k + 1, k1 + 1, k2, Hwk2.out, by have := Hq.out.1; omega, by have := Hq.out.2.1; omega, by omega, H5.out⟩
        case measure => exact msr (by omega) Hwk.out
    · by_cases hlt2 : k < ss2.length
      · have hk1 := Nat.lt_of_lt_of_le hlt2 HL2.out
        obtain ⟨b2, off2, rfl, hcs2⟩ := sts_cells HI2.out bl hlt2
        have hok2 := HOK2.out _ (List.getElem_mem hlt2)
        generalize ss2[k] = s2 at *
        obtain ⟨sd2, sa2, sb2, sc2, ⟨xk2, xa2, xv2, xo2, xg2⟩⟩ := s2
        have Hc2 := hide' (HQ1.out.two ⟨sd2, sa2, sb2, sc2, ⟨xk2, xa2, xv2, xo2, xg2⟩⟩ hok2 (by have := HX.out; have := Hq.out.2.1; have := Hq.out.2.2; omega))
        unfold St.arr at Hc2
        simp only at Hc2
        have e0 : wr.cell? ⟨b2, off2 + k * 9, none⟩ = some (.int .i64 sd2) := hcs2 0 (by omega)
        have e1 : wr.cell? ⟨b2, off2 + k * 9 + 1, none⟩ = some (.int .i64 sa2) := hcs2 1 (by omega)
        have e2 : wr.cell? ⟨b2, off2 + k * 9 + 2, none⟩ = some (.int .i64 sb2) := hcs2 2 (by omega)
        have e3 : wr.cell? ⟨b2, off2 + k * 9 + 3, none⟩ = some (.int .i64 sc2) := hcs2 3 (by omega)
        have e4 : wr.cell? ⟨b2, off2 + k * 9 + 4, none⟩ = some (.int .i8 xk2) := hcs2 4 (by omega)
        have e5 : wr.cell? ⟨b2, off2 + k * 9 + 5, none⟩ = some (.int .i64 xa2) := hcs2 5 (by omega)
        have e6 : wr.cell? ⟨b2, off2 + k * 9 + 6, none⟩ = some (.int .i64 xv2) := hcs2 6 (by omega)
        have e7 : wr.cell? ⟨b2, off2 + k * 9 + 7, none⟩ = some (.int .i64 xo2) := hcs2 7 (by omega)
        have e8 : wr.cell? ⟨b2, off2 + k * 9 + 8, none⟩ = some (.bool xg2) := hcs2 8 (by omega)
        clear hcs2 hok2 bl
        go_wp2_with fail
        refine Hc2.out.mono ?_
        rintro e w6 ⟨rfl, h6⟩
        have H6 := hide' h6
        clear Hc2 h6 e0 e1 e2 e3 e4 e5 e6 e7 e8
        go_wp2
        go_roundw
        case rel => exact ⟨k + 1, k1, k2 + 1, Hwk2.out, by have := Hq.out.1; omega, by have := Hq.out.2.1; omega, by omega, H6.out⟩
        case measure => exact msr (by omega) Hwk.out
      · obtain ⟨U, V, ws, tr, bad, ws2, tr2, bad2, p1, p2, hd, l1, l2, t1, t2, bl0⟩ := HQ1.out.ex
        obtain ⟨D1, R1, hM1, hR1, hd1, hU1⟩ := p1
        obtain ⟨D2, R2, hM2, hR2, hd2, hU2⟩ := p2
        have HF := hide' (show tr.length < 1999999999990 by have := HX.out; have := Hq.out.1; have := Hq.out.2.2; omega)
        have HMx := hide' (show k1 < 1999999999990 by have := HX.out; have := Hq.out.1; have := Hq.out.2.2; omega)
        have A12 := hide' (piece_all ws n l1)
        have L1 := hide' l1
        have DRV := hide' (fun j (hj : D1 j) => show ¬ (R1 j ∨ D2 j ∨ R2 j) from fun q => by
          rcases q with q | q | q
          · exact hd1 j hj q
          · exact hd j ((hU1 j).2 (.inl hj)) ((hU2 j).2 (.inl q))
          · exact hd j ((hU1 j).2 (.inl hj)) ((hU2 j).2 (.inr q)))
        have Z0 : Hid (All4 D1 R1 D2 R2 w.heap.size x y x2 y2 ws tr bad ws k1 tr bad ws2 k2 tr2 bad2 wr) := ⟨hM1, hR1, hM2, hR2⟩
        have B0 := hide' bl0
        have Hbad := hide' hM1.1
        clear hM1 hR1 hM2 hR2 hd1 hd2 hU1 hU2 hd bl0 bl l1 l2 t1 t2 HQ1
        have Ht := hide' (M.trace_any Z0.out.1 (by have := HF.out; omega))
        go_wp2_with fail
        refine Ht.out.mono ?_
        rintro e w5 ⟨ro5, rc5, rfl, hr5, b5⟩
        have Z5 := hide' (Z0.out.below b5)
        have B5 := hide' (B0.out.trans (b5.mono B0.out.size))
        have K5 := hide' hr5
        have S5 := hide' b5.size
        clear Ht hr5 b5
        have Hw := hide' (M.words_any 0 (n : Int) Z5.out.1 (by have := HN.out; omega))
        rw [A12.out.1, A12.out.2, L1.out] at Hw
        go_wp2_with fail
        refine Hw.out.mono ?_
        rintro e w6 ⟨ro6, rc6, rfl, hr6, b6⟩
        have Z6 := hide' (Z5.out.below b6)
        have B6 := hide' (B5.out.trans (b6.mono B5.out.size))
        have K6 := hide' ((turn_below (S := fun _ => False) b6).row K5.out (fun _ _ q => q))
        have A6 := hide' hr6
        have S6 := hide' b6.size
        have KB : Hid (∀ j, At ro5 j → wr.heap.size ≤ j ∧ j < w5.heap.size) := fun j hj => ⟨(row_at K5.out hj).1, (row_at K5.out hj).2.1⟩
        have AB : Hid (∀ j, At ro6 j → w5.heap.size ≤ j ∧ j < w6.heap.size) := fun j hj => ⟨(row_at A6.out hj).1, (row_at A6.out hj).2.1⟩
        have DB : Hid (∀ j, (D1 j ∨ R1 j ∨ D2 j ∨ R2 j) → j < wr.heap.size) := fun j hj => (Z0.out.low hj).2
        clear Hw hr6 b6 K5 Z5 B5
        have Ht := hide' (M.trace_any Z6.out.1 (by have := HF.out; omega))
        go_wp2_with fail
        refine Ht.out.mono ?_
        rintro e w7 ⟨ro7, rc7, rfl, hr7, b7⟩
        have S7 := hide' b7.size
        have Z7 := hide' (Z6.out.below b7)
        have B7 := hide' (B6.out.trans (b7.mono B6.out.size))
        have K7 := hide' ((turn_below (S := fun _ => False) b7).row K6.out (fun _ _ q => q))
        have A7 := hide' ((turn_below (S := fun _ => False) b7).row A6.out (fun _ _ q => q))
        have GB : Hid (∀ j, At ro7 j → w6.heap.size ≤ j) := fun j hj => (row_at hr7 hj).1
        have Ho := hide' (ownTrace_any hr7 (by have := HF.out; omega) b7.size)
        clear Ht hr7 b7 K6 A6 Z6 B6
        go_wp2_with fail
        refine Ho.out.mono ?_
        rintro e w8 ⟨rfl, t8⟩
        have S8 := hide' (Nat.le_trans S7.out t8.size)
        have Z8 := hide' (Z7.out.kept t8 (fun j _ q p => by have := GB.out j q; have := DB.out j p; have := S5.out; have := S6.out; omega))
        have B8 := hide' (B7.out.trans (t8.below (fun j hj => by have := GB.out j hj; have := B0.out.size; have := S5.out; have := S6.out; omega) B7.out.size))
        have K8 := hide' (t8.row K7.out (fun j hj q => by have := GB.out j q; have := (KB.out j (own_at hj)).2; have := S6.out; omega))
        have A8 := hide' (t8.row A7.out (fun j hj q => by have := GB.out j q; have := (AB.out j (own_at hj)).2; omega))
        clear Ho t8 K7 A7 Z7 B7
        have Hs := hide' (M.store_any 0 12345 Z8.out.1 (by have := HF.out; omega))
        go_wp2_with fail
        refine Hs.out.mono ?_
        rintro e w9 ⟨rfl, t9⟩
        obtain ⟨D1', z9, u9⟩ := Z8.out.to DRV.out t9
        have Z9 := hide' z9
        have B9 := hide' (B8.out.trans (u9.below (fun j hj => (Z8.out.low (.inl hj)).1) B8.out.size))
        have K9 := hide' (u9.row K8.out (fun j hj q => by have := DB.out j (.inl q); have := (KB.out j (own_at hj)).1; omega))
        have A9 := hide' (u9.row A8.out (fun j hj q => by have := DB.out j (.inl q); have := (AB.out j (own_at hj)).1; have := S5.out; omega))
        have S9 := hide' (Nat.le_trans S8.out u9.size)
        clear Hs t9 u9 z9 K8 A8 Z8 B8
        have L9 := hide' ((put_len ws 0 12345).trans L1.out)
        have A129 := hide' (piece_all (put ws 0 12345) n L9.out)
        have Hw := hide' (M.words_any 0 (n : Int) Z9.out.1 (by have := HN.out; omega))
        rw [A129.out.1, A129.out.2, L9.out] at Hw
        go_wp2_with fail
        refine Hw.out.mono ?_
        rintro e w10 ⟨ro10, rc10, rfl, hr10, b10⟩
        have Z10 := hide' (Z9.out.below b10)
        have B10 := hide' (B9.out.trans (b10.mono B9.out.size))
        have K10 := hide' ((turn_below (S := fun _ => False) b10).row K9.out (fun _ _ q => q))
        have A10 := hide' ((turn_below (S := fun _ => False) b10).row A9.out (fun _ _ q => q))
        have GB10 : Hid (∀ j, At ro10 j → w9.heap.size ≤ j) := fun j hj => (row_at hr10 hj).1
        have DB9 : Hid (∀ j, (D1' j ∨ R1 j ∨ D2 j ∨ R2 j) → j < w9.heap.size) := fun j hj => (Z9.out.low hj).2
        have Ho := hide' (ownWords_any hr10 HN.out.2 b10.size)
        clear Hw hr10 b10 K9 A9 Z9
        go_wp2_with fail
        refine Ho.out.mono ?_
        rintro e w11 ⟨rfl, t11⟩
        have Z11 := hide' (Z10.out.kept t11 (fun j _ q p => by have := GB10.out j q; have := DB9.out j p; omega))
        have B11 := hide' (B10.out.trans (t11.below (fun j hj => by have := GB10.out j hj; have := B9.out.size; omega) B10.out.size))
        have K11 := hide' (t11.row K10.out (fun j hj q => by have := GB10.out j q; have := (KB.out j (own_at hj)).2; have := S6.out; have := S9.out; omega))
        have A11 := hide' (t11.row A10.out (fun j hj q => by have := GB10.out j q; have := (AB.out j (own_at hj)).2; have := S9.out; omega))
        clear Ho t11 K10 A10 Z10 B10 B9
        have Hw := hide' (F.words_any 0 (n : Int) Z11.out.2.1 (by have := HMx.out; omega) (by have := HN.out; omega))
        rw [A12.out.1, A12.out.2, L1.out] at Hw
        go_wp2_with fail
        refine Hw.out.mono ?_
        rintro e w12 ⟨ro12, rc12, rfl, hr12, b12⟩
        have Z12 := hide' (Z11.out.below b12)
        have B12 := hide' (B11.out.trans (b12.mono B11.out.size))
        have K12 := hide' ((turn_below (S := fun _ => False) b12).row K11.out (fun _ _ q => q))
        have A12' := hide' ((turn_below (S := fun _ => False) b12).row A11.out (fun _ _ q => q))
        have W12 := hide' hr12
        clear Hw hr12 b12 K11 A11 Z11 B11
        have Ht := hide' (F.trace_any Z12.out.2.1)
        go_wp2_with fail
        refine Ht.out.mono ?_
        rintro e w13 ⟨ro13, rc13, rfl, hr13, hw13⟩
        replace hw13 := hw13.symm
        subst hw13
        have He := hide' (entries_eq tr ro5 ro13 rc5 rc13 w12 (acs_row K12.out) (acs_row hr13) (by have := HF.out; omega))
        clear Ht hr13
        go_wp2_with fail
        refine He.out.mono ?_
        rintro e w14 ⟨rfl, nn, hw14⟩
        have tn : Turn (fun _ => False) w12 w14 := by rw [hw14]; exact (Turn.refl _ w12).drewN nn
        have Z14 := hide' (Z12.out.kept tn (fun _ _ q => q.elim))
        have B14 := hide' (B12.out.trans (tn.below (fun _ q => q.elim) B12.out.size))
        have A14 := hide' (tn.row A12'.out (fun _ _ q => q))
        have W14 := hide' (tn.row W12.out (fun _ _ q => q))
        clear He hw14 tn Z12 B12 A12' W12 K12
        have Hi := hide' (ints_eq ws ro6 ro12 rc6 rc12 w14 (ints_row A14.out L1.out) (ints_row W14.out L1.out) (by rw [L1.out]; have := HN.out; omega))
        rw [L1.out] at Hi
        go_wp2_with fail
        refine Hi.out.mono ?_
        rintro e w15 ⟨rfl, nn, hw15⟩
        have tn : Turn (fun _ => False) w14 w15 := by rw [hw15]; exact (Turn.refl _ w14).drewN nn
        have Z15 := hide' (Z14.out.kept tn (fun _ _ q => q.elim))
        have B15 := hide' (B14.out.trans (tn.below (fun _ q => q.elim) B14.out.size))
        clear Hi hw15 tn Z14 B14 A14 W14
        have G1 := hide' (M.bad_any Z15.out.1)
        have G2 := hide' (F.bad_any Z15.out.2.1)
        have G3 := hide' (M.bad_any Z15.out.2.2.1)
        have G4 := hide' (F.bad_any Z15.out.2.2.2)
        have G5 := hide' (M.len_any Z15.out.1)
        rw [L9.out] at G5
        have hle : bad ≤ bad + bd ws 0 := Nat.le_add_right _ _
        generalize bad + bd ws 0 = bb at *
        have hle' : decide ((bad : Int) ≤ (bb : Int)) = true := by simp; omega
        go_wp2_with fail
        refine G1.out.mono ?_
        rintro e w16 ⟨rfl, hw16⟩
        replace hw16 := hw16.symm
        subst hw16
        go_wp2_with fail
        refine G2.out.mono ?_
        rintro e w16 ⟨rfl, hw16⟩
        replace hw16 := hw16.symm
        subst hw16
        go_wp2_with fail
        refine G3.out.mono ?_
        rintro e w16 ⟨rfl, hw16⟩
        replace hw16 := hw16.symm
        subst hw16
        go_wp2_with fail
        refine G4.out.mono ?_
        rintro e w16 ⟨rfl, hw16⟩
        replace hw16 := hw16.symm
        subst hw16
        go_wp2_with fail
        refine G5.out.mono ?_
        rintro e w16 ⟨rfl, hw16⟩
        replace hw16 := hw16.symm
        subst hw16
        clear G1 G2 G3 G4 G5 Z15
        go_wp2
        go_ret
        exact ⟨rfl, B15.out⟩
end F
end Go.Proofs.Ytoejcpfodbegeaa
