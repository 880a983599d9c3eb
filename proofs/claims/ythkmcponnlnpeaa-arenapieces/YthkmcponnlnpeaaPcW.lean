import Derived.Test.YthkmcponnlnpeaaPcP
set_option linter.unusedVariables false
set_option linter.unusedSimpArgs false
namespace Go.Proofs.Ythkmcponnlnpeaa
open Go.RowKit Go.Sort
namespace Ar
open Fr
set_option maxRecDepth 100000 in
set_option maxHeartbeats 16000000 in
theorem pieces_walk (words from_ : Int) (ao : Option Addr) (cap : Nat) (os : List Op4) (w : World) (hI : Ops w ao os) (hok : ∀ o ∈ os, o.ok) (hl : os.length ≤ 8796093022208) :
    Calls Try.prog 9 #[.int .i64 words, .int .i64 from_, .slice ao os.length cap] w fun r w' => r = .returned (.bool true) ∧ Below w.heap.size w w' := by
  have HLy := hide' (Lv.lively_any w)
  have HI := hide' hI
  have Hok := hide' hok
  have Hl := hide' hl
  obtain ⟨z1, z2⟩ := at_lt (i := words) (n := 120) (by omega)
  obtain ⟨N, hN⟩ : ∃ N : Nat, (N : Int) = 1 + words % 120 := ⟨(1 + words % 120).toNat, by omega⟩
  obtain ⟨z3, z4⟩ := at_lt (i := from_) (n := (N : Int)) (by omega)
  obtain ⟨S0, hS0⟩ : ∃ S0 : Nat, (S0 : Int) = from_ % (N : Int) := ⟨(from_ % (N : Int)).toNat, by omega⟩
  have hNb : Hid (1 ≤ N ∧ N ≤ 120 ∧ S0 < N) := hide' ⟨by omega, by omega, by omega⟩
  have HP1 := hide' (fun w => M.pick_any words 120 w (by omega) (by omega))
  have HP2 := hide' (fun w => M.pick_any from_ (N : Int) w (by omega) (by omega))
  rw [← hS0] at HP2
  have HN := hide' hN
  have HwN : Hid (wrap64 (N : Int) = (N : Int)) := (show wrap64 (N : Int) = (N : Int) by unfold wrap64; omega)
  have hw1 : wrap64 (1 + words % 120) = 1 + words % 120 := by unfold wrap64; omega
  generalize words % 120 = q0 at *
  clear hI hok hl z3 z4 hS0 z1 z2 hN
  go_enter Try.func9, Try.ntmps9
  go_wp2_with fail
  refine HLy.out.mono ?_
  rintro r w1 ⟨rfl, b1⟩
  have Hb1 := hide' b1
  clear HLy b1
  go_wp2_with fail
  refine (HP1.out _).mono ?_
  rintro r w2 ⟨rfl, hw⟩
  replace hw := hw.symm
  subst hw
  clear HP1
  go_wp2_with fail
  rw [← HN.out, HwN.out]
  clear hw1 HN HwN
  refine (HP2.out _).mono ?_
  rintro r w2 ⟨rfl, hw⟩
  replace hw := hw.symm
  subst hw
  clear HP2
  have HM := hide' (M.new_any N w1 (by have := hNb.out; omega) (by have := hNb.out; omega) (N : Int) rfl)
  go_wp2_with fail
  refine HM.out.mono ?_
  rintro r w2 ⟨x, rfl, DM, hm, b2⟩
  have HNw := hide' (atl_new S0 hm (by rw [List.length_replicate]; exact hNb.out.2.2))
  have Hb2 := hide' (Hb1.out.trans (b2.mono Hb1.out.size))
  have HB := hide' Hb1.out.size
  clear HM hm b2
  go_wp2_with fail
  refine HNw.out.mono ?_
  rintro r w3 ⟨ab, rfl, D3, hA3, b3, _⟩
  have HA3 := hide' hA3
  have Hb3 := hide' (Hb2.out.trans (b3.mono Hb2.out.size))
  generalize hst : (S0 : Int) = st at *
  clear HNw hA3 b3
  go_wp2_with fail
  go_loopw [7, 14] (fun t7 t14 wr => ∃ (k : Nat) (ws : List Int) (L : List Bk) (D : Nat → Prop), t14 = .int .i64 (k : Int) ∧ t7 = .bool true ∧ k ≤ os.length ∧ Atl D w1.heap.size ab x ws [] 0 st L ((k + 1) * 65537) wr ∧ ws.length = N ∧ Below w.heap.size w wr) (fun _ t14 _ => os.length - (intOf t14).toNat)
  case atStart => exact ⟨0, _, _, D3, rfl, rfl, Nat.zero_le _, HA3.out.mono (by omega), by rw [List.length_replicate], Hb3.out⟩
  case round =>
    obtain ⟨k, ws, L, D, rfl, rfl, hk, hA, hwl, hbr⟩ := hrel
    by_cases hlt : k < os.length
    · obtain ⟨o, ho⟩ : ∃ o, os[k]? = some o := ⟨_, List.getElem?_eq_getElem hlt⟩
      have hoo := Hok.out o (List.mem_of_getElem? ho)
      have hlt' : (k : Int) < (os.length : Int) := by omega
      rcases HI.out with q | ⟨gb, off, hao, hgb, hcl⟩
      · rw [q] at hlt; simp at hlt
      have i0 := (hbr.cell (p := ⟨gb, off + k * 4, none⟩) hgb).trans (hcl k o ho 0 (by omega))
      have i1 := (hbr.cell (p := ⟨gb, off + k * 4 + 1, none⟩) hgb).trans (hcl k o ho 1 (by omega))
      have i2 := (hbr.cell (p := ⟨gb, off + k * 4 + 2, none⟩) hgb).trans (hcl k o ho 2 (by omega))
      have i3 := (hbr.cell (p := ⟨gb, off + k * 4 + 3, none⟩) hgb).trans (hcl k o ho 3 (by omega))
      have ek : wrap64 ((k : Int) + 1) = (k : Int) + 1 := by have := Hl.out; unfold wrap64; omega
      have Hend := hide' (hend hlt)
      have hcb : Hid ((k + 1) * 65537 < 4611686018425000000) := (show (k + 1) * 65537 < 4611686018425000000 by have := Hl.out; omega)
      have ba : Below wr.heap.size wr (wr.alloc (.cells o.arr 80)) := (Below.refl _ _).alloc (Nat.le_refl _) _
      have HBk := hide' (atl_blocks (hA.below ba))
      have hbx : Hid ((wr.alloc (.cells o.arr 80)).heap[wr.heap.size]? = some (.cells o.arr 80 (0, 0))) := hide' (heap_alloc_new _ _)
      have HA := hide' hA
      have Hba := hide' ba
      have Hbr := hide' hbr
      have hlenE0 := hide' hwl
      have Hoo := hide' hoo
      have hfew : Hid (ws.length ≤ 65536) := hide' hA.pure.2.2.2.2.2.1
      have hLlt : Hid (L.length < 1000000) := (show L.length < 1000000 by have := hA.pure.2.2.1; omega)
      have hLp : Hid (0 < L.length) := hide' hA.pure.2.2.2.1
      obtain rfl := hao
      change wr.cell? ⟨gb, off + k * 4, none⟩ = some (.int .i64 o.kind) at i0
      change wr.cell? ⟨gb, off + k * 4 + 1, none⟩ = some (.int .i64 o.arena) at i1
      change wr.cell? ⟨gb, off + k * 4 + 2, none⟩ = some (.int .i64 o.n) at i2
      change wr.cell? ⟨gb, off + k * 4 + 3, none⟩ = some (.int .i64 o.value) at i3
      clear hA ba hbr hcl hgb hwl ho hk hoo
      go_wp2_with fail
      refine HBk.out.mono ?_
      rintro r w4 ⟨g, rcl, rfl, hr4, b4⟩
      have hA4 := (HA.out.below Hba.out).below b4
      have HWo := hide' (atl_words hA4)
      rw [hlenE0.out] at HWo
      have HA4 := hide' hA4
      have Hr4 := hide' hr4
      have Hb4 := hide' b4
      clear HBk hr4 b4 hA4 i0 i1 i2 i3
      go_wp2_with fail
      refine HWo.out.mono ?_
      rintro r w5 ⟨ro, rcw, rfl, hr5, b5⟩
      have hsz45 : wr.heap.size ≤ w4.heap.size := Nat.le_trans Hba.out.size Hb4.out.size
      have hX5 : Xr wr.heap.size wr.heap.size o g rcl L ro rcw ws w5 := ⟨(b5.block _ (Nat.lt_of_lt_of_le (lt_of_heap hbx.out) Hb4.out.size)).trans ((Hb4.out.block _ (lt_of_heap hbx.out)).trans hbx.out), Nat.le_refl _, RowB.mono (Hr4.out.kept (turn_below (S := fun _ => False) b5) (fun _ _ q => q)) Hba.out.size, World.ownsRow.mono (by rw [hlenE0.out]; exact hr5) hsz45⟩
      have hA5 := HA4.out.below b5
      have hb5 : Below w.heap.size w w5 := (Hbr.out.trans (Hba.out.mono Hbr.out.size)).trans ((Hb4.out.mono (Nat.le_trans Hbr.out.size Hba.out.size)).trans (b5.mono (Nat.le_trans Hbr.out.size hsz45)))
      have hp5 := hA5.pure
      have HCv := hide' (covers_any st (ws.length : Int) hX5.row hp5.1 hp5.2.1 hp5.2.2.2.2.1 (by have := hfew.out; omega) hLlt.out)
      rw [hlenE0.out] at HCv
      have HX5 := hide' hX5
      have HA5 := hide' hA5
      have HB5 := hide' hb5
      have hDn : Hid (∀ j, D j → j < wr.heap.size) := hide' HA.out.lts
      obtain ⟨kx0, kx2⟩ := op_cells hX5.hb
      clear HWo hr5 b5 hX5 hA5 hb5 hp5 HA4 Hr4 Hb4 hsz45
      go_wp2_with fail
      refine HCv.out.mono ?_
      rintro r w6 ⟨rfl, hw⟩
      replace hw := hw.symm
      subst hw
      clear HCv

      have hLl5 : Hid (L.length ≤ 65536) := hide' HA5.out.pure.2.2.1
      by_cases hk1 : o.kind = 1
      ·
        as_aux_lemma =>
          have HT := hide' (atl_take o.n HA5.out hcb.out Hoo.out.2)
          have hk1 := hide' hk1
          rw [hk1.out] at kx0
          go_wp2_with fail
          refine HT.out.mono ?_
          rintro r w7 hT
          clear HT kx0 kx2
          rcases hT with ⟨q, rfl, T7⟩ | ⟨q, hf, rfl, T7⟩ | ⟨q, hf0, hnw, rfl, ws9, L9, T7, hlw, hfe, hgd, hsz, hou⟩
          · as_aux_lemma =>
              obtain ⟨D9, hA9', t9, s9⟩ := T7
              have hA7 := hA9'
              have hX7 := HX5.out.kept t9 hDn.out
              have HB7 : Hid (Below w.heap.size w w7) := hide' (HB5.out.trans (t9.below (fun j q => Nat.le_trans HB.out (HA5.out.lo q).1) HB5.out.size))
              have HF := hide' (fits_any o.n hX7.row hLlt.out)
              obtain ⟨kx0, kx2⟩ := op_cells hX7.hb
              rw [hk1.out] at kx0
              have HX7 := hide' hX7
              have HA7 := hide' hA9'
              clear hX7 hA7 hA9' t9 s9 HX5 HA5 HB5
              have hfb := hide' (fit_bd HA7.out.pure.1 HA7.out.pure.2.2.2.2.1 o.n)
              generalize fit L o.n = ft at *
              go_wp2_with fail
              refine HF.out.mono ?_
              rintro r w8 ⟨rfl, hw⟩
              replace hw := hw.symm
              subst hw
              clear HF
              have hlen9 : Hid (ws.length = ws.length) := hide' rfl
              have hlenE := hlenE0
              have hwr : Hid (wrap64 (ft + 0) = ft + 0) := (show wrap64 (ft + 0) = ft + 0 by have := hfb.out; have := hfew.out; have := HA7.out.pure.2.2.2.2.1; unfold wrap64; omega)
              have hch : Hid (∀ i, i < ws.length → ws.getD i 0 = if ft ≤ (i : Int) ∧ (i : Int) < ft + 0 then (0 : Int) else ws.getD i 0) := (fun i hi => by rw [if_neg (by omega)])
              have HWo := hide' (atl_words HA7.out)
              rw [hlenE.out] at HWo
              have hX9 := HX7.out
              obtain ⟨kx0, kx2⟩ := op_cells hX9.hb
              clear hX9
              go_wp2_with fail
              refine HWo.out.mono ?_
              rintro r w10 ⟨ro10, rc10, rfl, hr10, b10⟩
              have hA10 := HA7.out.below b10
              have HX10 := hide' (HX7.out.below b10)
              have HBk := hide' (atl_blocks hA10)
              have HA10 := hide' hA10
              have Hr10 := hide' hr10
              have Hb10 := hide' (HB7.out.trans (b10.mono HB7.out.size))
              clear HWo hr10 b10 hA10 kx0 kx2
              go_wp2_with fail
              refine HBk.out.mono ?_
              rintro r w11 ⟨g11, rc11, rfl, hr11, b11⟩
              have hA11 := HA10.out.below b11
              have hX11 := HX10.out.below b11
              have hr10' : w11.ownsRow w7.heap.size 3 1 (.slice ro10 ws.length rc10) ws.length (M.ivs ws) := by rw [hlenE.out]; exact (turn_below (S := fun _ => False) b11).row Hr10.out (fun _ _ q => q)
              have HCh := hide' (changed_any (w := w11) (rc := rcw) (rc' := rc10) ft (0 : Int) (0 : Int) (row_ints hX11.was) (row_ints hr10') rfl (by have := hfew.out; omega) hwr.out hch.out)
              simp only [hlenE0.out, hlenE.out] at HCh
              have HX11 := hide' hX11
              have HA11 := hide' hA11
              have Hr11 := hide' hr11
              have Hb11 := hide' (Hb10.out.trans (b11.mono Hb10.out.size))
              clear HBk hr11 b11 hA11 hX11 hr10' HX10 Hr10 HA10
              go_wp2_with fail
              refine HCh.out.mono ?_
              rintro r w12 ⟨rfl, b12⟩
              have hA12 := HA11.out.below b12
              have hX12 := HX11.out.below b12
              have hr12 : RowB w10.heap.size (some ⟨g11, 0, none⟩) rc11 L w12 := Hr11.out.kept (turn_below (S := fun _ => False) b12) (fun _ _ q => q)
              have hp12 := hA12.pure
              have hLl9 : L.length < 1000000 := by have := hp12.2.2.1; omega
              have HCv := hide' (covers_any st (ws.length : Int) hr12 hp12.1 hp12.2.1 hp12.2.2.2.2.1 (by have := hp12.2.2.2.2.2.1; omega) hLl9)
              rw [hlenE.out] at HCv
              have HLv := hide' (atl_live hA12)
              have HOu := hide' (out_any hr12 hLl9)
              have HSz := hide' (size_any ft hr12 hLl9)
              have HLx := hide' (show L.length < 1000000 from hLlt.out)
              have HOl := hide' (out_any hX12.row HLx.out)
              obtain ⟨kx0, kx2⟩ := op_cells hX12.hb
              have HA12 := hide' (And.intro hA12 (Hb11.out.trans (b12.mono Hb11.out.size)))
              clear HCh hA12 hX12 hr12 hp12 b12 HX11 HA11 Hr11 hLl9
              go_wp2_with fail
              refine HCv.out.mono ?_
              rintro r w13 ⟨rfl, hw⟩
              replace hw := hw.symm
              subst hw
              clear HCv
              go_wp2_with fail
              refine HLv.out.mono ?_
              rintro r w13 ⟨rfl, hw⟩
              replace hw := hw.symm
              subst hw
              clear HLv
              go_wp2_with fail
              refine HOu.out.mono ?_
              rintro r w13 ⟨rfl, hw⟩
              replace hw := hw.symm
              subst hw
              clear HOu HSz HOl

              go_wp2
              go_roundw
              case rel => exact ⟨k + 1, ws, L, D9, by go_num, rfl, by omega, HA12.out.1.mono (by omega), hlenE.out, HA12.out.2⟩
              case measure => first | exact Hend.out | (rw [ek]; exact Hend.out)
          · as_aux_lemma =>
              obtain ⟨D9, hA9', t9, s9⟩ := T7
              have hA7 := hA9'
              have hX7 := HX5.out.kept t9 hDn.out
              have HB7 : Hid (Below w.heap.size w w7) := hide' (HB5.out.trans (t9.below (fun j q => Nat.le_trans HB.out (HA5.out.lo q).1) HB5.out.size))
              have HF := hide' (fits_any o.n hX7.row hLlt.out)
              obtain ⟨kx0, kx2⟩ := op_cells hX7.hb
              rw [hk1.out] at kx0
              have HX7 := hide' hX7
              have HA7 := hide' hA9'
              clear hX7 hA7 hA9' t9 s9 HX5 HA5 HB5
              rw [hf] at HF
              clear hf
              go_wp2_with fail
              refine HF.out.mono ?_
              rintro r w8 ⟨rfl, hw⟩
              replace hw := hw.symm
              subst hw
              clear HF
              have hlen9 : Hid (ws.length = ws.length) := hide' rfl
              have hlenE := hlenE0
              have hwr : Hid (wrap64 ((-1 : Int) + 0) = (-1 : Int) + 0) := (show wrap64 ((-1 : Int) + 0) = (-1 : Int) + 0 by unfold wrap64; omega)
              have hch : Hid (∀ i, i < ws.length → ws.getD i 0 = if (-1 : Int) ≤ (i : Int) ∧ (i : Int) < (-1 : Int) + 0 then (0 : Int) else ws.getD i 0) := (fun i hi => by rw [if_neg (by omega)])
              have HWo := hide' (atl_words HA7.out)
              rw [hlenE.out] at HWo
              have hX9 := HX7.out
              obtain ⟨kx0, kx2⟩ := op_cells hX9.hb
              clear hX9
              go_wp2_with fail
              refine HWo.out.mono ?_
              rintro r w10 ⟨ro10, rc10, rfl, hr10, b10⟩
              have hA10 := HA7.out.below b10
              have HX10 := hide' (HX7.out.below b10)
              have HBk := hide' (atl_blocks hA10)
              have HA10 := hide' hA10
              have Hr10 := hide' hr10
              have Hb10 := hide' (HB7.out.trans (b10.mono HB7.out.size))
              clear HWo hr10 b10 hA10 kx0 kx2
              go_wp2_with fail
              refine HBk.out.mono ?_
              rintro r w11 ⟨g11, rc11, rfl, hr11, b11⟩
              have hA11 := HA10.out.below b11
              have hX11 := HX10.out.below b11
              have hr10' : w11.ownsRow w7.heap.size 3 1 (.slice ro10 ws.length rc10) ws.length (M.ivs ws) := by rw [hlenE.out]; exact (turn_below (S := fun _ => False) b11).row Hr10.out (fun _ _ q => q)
              have HCh := hide' (changed_any (w := w11) (rc := rcw) (rc' := rc10) (-1 : Int) (0 : Int) (0 : Int) (row_ints hX11.was) (row_ints hr10') rfl (by have := hfew.out; omega) hwr.out hch.out)
              simp only [hlenE0.out, hlenE.out] at HCh
              have HX11 := hide' hX11
              have HA11 := hide' hA11
              have Hr11 := hide' hr11
              have Hb11 := hide' (Hb10.out.trans (b11.mono Hb10.out.size))
              clear HBk hr11 b11 hA11 hX11 hr10' HX10 Hr10 HA10
              go_wp2_with fail
              refine HCh.out.mono ?_
              rintro r w12 ⟨rfl, b12⟩
              have hA12 := HA11.out.below b12
              have hX12 := HX11.out.below b12
              have hr12 : RowB w10.heap.size (some ⟨g11, 0, none⟩) rc11 L w12 := Hr11.out.kept (turn_below (S := fun _ => False) b12) (fun _ _ q => q)
              have hp12 := hA12.pure
              have hLl9 : L.length < 1000000 := by have := hp12.2.2.1; omega
              have HCv := hide' (covers_any st (ws.length : Int) hr12 hp12.1 hp12.2.1 hp12.2.2.2.2.1 (by have := hp12.2.2.2.2.2.1; omega) hLl9)
              rw [hlenE.out] at HCv
              have HLv := hide' (atl_live hA12)
              have HOu := hide' (out_any hr12 hLl9)
              have HSz := hide' (size_any (-1 : Int) hr12 hLl9)
              have HLx := hide' (show L.length < 1000000 from hLlt.out)
              have HOl := hide' (out_any hX12.row HLx.out)
              obtain ⟨kx0, kx2⟩ := op_cells hX12.hb
              have HA12 := hide' (And.intro hA12 (Hb11.out.trans (b12.mono Hb11.out.size)))
              clear HCh hA12 hX12 hr12 hp12 b12 HX11 HA11 Hr11 hLl9
              go_wp2_with fail
              refine HCv.out.mono ?_
              rintro r w13 ⟨rfl, hw⟩
              replace hw := hw.symm
              subst hw
              clear HCv
              go_wp2_with fail
              refine HLv.out.mono ?_
              rintro r w13 ⟨rfl, hw⟩
              replace hw := hw.symm
              subst hw
              clear HLv
              go_wp2_with fail
              refine HOu.out.mono ?_
              rintro r w13 ⟨rfl, hw⟩
              replace hw := hw.symm
              subst hw
              clear HOu HSz HOl

              go_wp2
              go_roundw
              case rel => exact ⟨k + 1, ws, L, D9, by go_num, rfl, by omega, HA12.out.1.mono (by omega), hlenE.out, HA12.out.2⟩
              case measure => first | exact Hend.out | (rw [ek]; exact Hend.out)
          · as_aux_lemma =>
              obtain ⟨D9, hA9', t9, s9⟩ := T7
              have hA7 := hA9'
              have hX7 := HX5.out.kept t9 hDn.out
              have HB7 : Hid (Below w.heap.size w w7) := hide' (HB5.out.trans (t9.below (fun j q => Nat.le_trans HB.out (HA5.out.lo q).1) HB5.out.size))
              have HF := hide' (fits_any o.n hX7.row hLlt.out)
              obtain ⟨kx0, kx2⟩ := op_cells hX7.hb
              rw [hk1.out] at kx0
              have HX7 := hide' hX7
              have HA7 := hide' hA9'
              clear hX7 hA7 hA9' t9 s9 HX5 HA5 HB5
              have hsz9 := hide' hsz
              have hou9 := hide' hou
              have hlen9 := hide' hlw
              have hlenE : Hid (ws9.length = N) := (show ws9.length = N from hlw.trans hlenE0.out)
              have hch := hide' hgd
              have Hfe := hide' hfe
              have Hf0 := hide' hf0
              have hwr : Hid (wrap64 (fit L o.n + o.n) = fit L o.n + o.n) := (show wrap64 (fit L o.n + o.n) = fit L o.n + o.n by have := hfew.out; unfold wrap64; omega)
              have hf0' := hf0
              clear hsz hou hlw hgd hfe hnw hf0
              generalize fit L o.n = ft at *
              go_wp2_with fail
              refine HF.out.mono ?_
              rintro r w8 ⟨rfl, hw⟩
              replace hw := hw.symm
              subst hw
              clear HF
              have hkE := hk1
              obtain ⟨m1, hm1⟩ : ∃ m1, Hid ((outs L).length = m1) := ⟨_, hide' rfl⟩
              have hm1b : Hid (m1 ≤ 65536) := (show m1 ≤ 65536 by have h1 := outs_le L; have h2 := hLl5.out; rw [hm1.out] at h1; omega)
              have ewo : wrap64 ((m1 : Int) + 1) = (m1 : Int) + 1 := by have := hm1b.out; unfold wrap64; omega
              have HWo := hide' (atl_words HA7.out)
              rw [hlenE.out] at HWo
              have hX9 := HX7.out
              obtain ⟨kx0, kx2⟩ := op_cells hX9.hb
              clear hX9
              go_wp2_with fail
              refine HWo.out.mono ?_
              rintro r w10 ⟨ro10, rc10, rfl, hr10, b10⟩
              have hA10 := HA7.out.below b10
              have HX10 := hide' (HX7.out.below b10)
              have HBk := hide' (atl_blocks hA10)
              have HA10 := hide' hA10
              have Hr10 := hide' hr10
              have Hb10 := hide' (HB7.out.trans (b10.mono HB7.out.size))
              clear HWo hr10 b10 hA10 kx0 kx2
              go_wp2_with fail
              refine HBk.out.mono ?_
              rintro r w11 ⟨g11, rc11, rfl, hr11, b11⟩
              have hA11 := HA10.out.below b11
              have hX11 := HX10.out.below b11
              have hr10' : w11.ownsRow w7.heap.size 3 1 (.slice ro10 ws9.length rc10) ws9.length (M.ivs ws9) := by rw [hlenE.out]; exact (turn_below (S := fun _ => False) b11).row Hr10.out (fun _ _ q => q)
              have HCh := hide' (changed_any (w := w11) (rc := rcw) (rc' := rc10) ft o.n (0 : Int) (row_ints hX11.was) (row_ints hr10') hlen9.out (by have := hfew.out; omega) hwr.out hch.out)
              simp only [hlenE0.out, hlenE.out] at HCh
              have HX11 := hide' hX11
              have HA11 := hide' hA11
              have Hr11 := hide' hr11
              have Hb11 := hide' (Hb10.out.trans (b11.mono Hb10.out.size))
              clear HBk hr11 b11 hA11 hX11 hr10' HX10 Hr10 HA10
              go_wp2_with fail
              refine HCh.out.mono ?_
              rintro r w12 ⟨rfl, b12⟩
              have hA12 := HA11.out.below b12
              have hX12 := HX11.out.below b12
              have hr12 : RowB w10.heap.size (some ⟨g11, 0, none⟩) rc11 L9 w12 := Hr11.out.kept (turn_below (S := fun _ => False) b12) (fun _ _ q => q)
              have hp12 := hA12.pure
              have hLl9 : L9.length < 1000000 := by have := hp12.2.2.1; omega
              have HCv := hide' (covers_any st (ws9.length : Int) hr12 hp12.1 hp12.2.1 hp12.2.2.2.2.1 (by have := hp12.2.2.2.2.2.1; omega) hLl9)
              rw [hlenE.out] at HCv
              have HLv := hide' (atl_live hA12)
              have HOu := hide' (out_any hr12 hLl9)
              have HSz := hide' (size_any ft hr12 hLl9)
              have HLx := hide' (show L.length < 1000000 from hLlt.out)
              have HOl := hide' (out_any hX12.row HLx.out)
              obtain ⟨kx0, kx2⟩ := op_cells hX12.hb
              rw [hkE.out] at kx0
              rw [hou9.out] at HLv HOu
              rw [hm1.out] at HLv HOu HOl
              rw [hsz9.out] at HSz
              have HA12 := hide' (And.intro hA12 (Hb11.out.trans (b12.mono Hb11.out.size)))
              clear HCh hA12 hX12 hr12 hp12 b12 HX11 HA11 Hr11 hLl9
              go_wp2_with fail
              refine HCv.out.mono ?_
              rintro r w13 ⟨rfl, hw⟩
              replace hw := hw.symm
              subst hw
              clear HCv
              go_wp2_with fail
              refine HLv.out.mono ?_
              rintro r w13 ⟨rfl, hw⟩
              replace hw := hw.symm
              subst hw
              clear HLv
              go_wp2_with fail
              refine HOu.out.mono ?_
              rintro r w13 ⟨rfl, hw⟩
              replace hw := hw.symm
              subst hw

              go_wp2_with fail
              refine HSz.out.mono ?_
              rintro r w13 ⟨rfl, hw⟩
              replace hw := hw.symm
              subst hw
              clear HSz
              go_wp2_with fail
              refine HOu.out.mono ?_
              rintro r w13 ⟨rfl, hw⟩
              replace hw := hw.symm
              subst hw
              clear HOu
              go_wp2_with fail
              refine HOl.out.mono ?_
              rintro r w13 ⟨rfl, hw⟩
              replace hw := hw.symm
              subst hw
              clear HOl

              go_wp2
              go_roundw
              case rel => exact ⟨k + 1, ws9, L9, D9, by go_num, rfl, by omega, HA12.out.1.mono (by omega), hlenE.out, HA12.out.2⟩
              case measure => first | exact Hend.out | (rw [ek]; exact Hend.out)
      · by_cases hk2 : o.kind = 2
        ·
          as_aux_lemma =>
            have hkx := hide' hk2
            rw [hk2] at kx0
            have hka : Hid (Oo.okk o.n) := hide' (Oo.okk_of Hoo.out.1 Hoo.out.2)
            have hkb : Hid (-9223372036854775808 ≤ o.n ∧ o.n ≤ 9223372036854775807) := hide' Hoo.out
            clear hk1 hk2

            have HSz0 := hide' (size_any o.n HX5.out.row hLlt.out)
            have HG := hide' (atl_give o.n hka.out HA5.out hcb.out)
            go_wp2_with fail
            refine HSz0.out.mono ?_
            rintro r w6 ⟨rfl, hw⟩
            replace hw := hw.symm
            subst hw
            clear HSz0
            go_wp2_with fail
            refine HG.out.mono ?_
            rintro r w7 hG
            clear HG kx0 kx2
            rcases hG with ⟨hz, rfl, T7⟩ | ⟨hz, rfl, ha0, hae, ws9, L9, T7, hlw, hgd, hsz, hou⟩
            · as_aux_lemma =>
                rw [hz]
                obtain ⟨D9, hA9', t9, s9⟩ := T7
                have hX7 := HX5.out.kept t9 hDn.out
                have HB7 : Hid (Below w.heap.size w w7) := hide' (HB5.out.trans (t9.below (fun j q => Nat.le_trans HB.out (HA5.out.lo q).1) HB5.out.size))
                have HX7 := hide' hX7
                have HA7 := hide' hA9'
                clear hX7 hA9' t9 s9
                have hlen9 : Hid (ws.length = ws.length) := hide' rfl
                have hlenE := hlenE0
                have hwr : Hid (wrap64 (o.n + 0) = o.n + 0) := (show wrap64 (o.n + 0) = o.n + 0 by have := hkb.out; unfold wrap64; omega)
                have hch : Hid (∀ i, i < ws.length → ws.getD i 0 = if o.n ≤ (i : Int) ∧ (i : Int) < o.n + 0 then (-4611686018427387904 : Int) else ws.getD i 0) := (fun i hi => by rw [if_neg (by omega)])
                clear hz HX5 HA5 HB5
                have HWo := hide' (atl_words HA7.out)
                rw [hlenE.out] at HWo
                have hX9 := HX7.out
                obtain ⟨kx0, kx2⟩ := op_cells hX9.hb
                clear hX9
                go_wp2_with fail
                refine HWo.out.mono ?_
                rintro r w10 ⟨ro10, rc10, rfl, hr10, b10⟩
                have hA10 := HA7.out.below b10
                have HX10 := hide' (HX7.out.below b10)
                have HBk := hide' (atl_blocks hA10)
                have HA10 := hide' hA10
                have Hr10 := hide' hr10
                have Hb10 := hide' (HB7.out.trans (b10.mono HB7.out.size))
                clear HWo hr10 b10 hA10 kx0 kx2
                go_wp2_with fail
                refine HBk.out.mono ?_
                rintro r w11 ⟨g11, rc11, rfl, hr11, b11⟩
                have hA11 := HA10.out.below b11
                have hX11 := HX10.out.below b11
                have hr10' : w11.ownsRow w7.heap.size 3 1 (.slice ro10 ws.length rc10) ws.length (M.ivs ws) := by rw [hlenE.out]; exact (turn_below (S := fun _ => False) b11).row Hr10.out (fun _ _ q => q)
                have HCh := hide' (changed_any (w := w11) (rc := rcw) (rc' := rc10) o.n (0 : Int) (-4611686018427387904 : Int) (row_ints hX11.was) (row_ints hr10') rfl (by have := hfew.out; omega) hwr.out hch.out)
                simp only [hlenE0.out, hlenE.out] at HCh
                have HX11 := hide' hX11
                have HA11 := hide' hA11
                have Hr11 := hide' hr11
                have Hb11 := hide' (Hb10.out.trans (b11.mono Hb10.out.size))
                clear HBk hr11 b11 hA11 hX11 hr10' HX10 Hr10 HA10
                go_wp2_with fail
                refine HCh.out.mono ?_
                rintro r w12 ⟨rfl, b12⟩
                have hA12 := HA11.out.below b12
                have hX12 := HX11.out.below b12
                have hr12 : RowB w10.heap.size (some ⟨g11, 0, none⟩) rc11 L w12 := Hr11.out.kept (turn_below (S := fun _ => False) b12) (fun _ _ q => q)
                have hp12 := hA12.pure
                have hLl9 : L.length < 1000000 := by have := hp12.2.2.1; omega
                have HCv := hide' (covers_any st (ws.length : Int) hr12 hp12.1 hp12.2.1 hp12.2.2.2.2.1 (by have := hp12.2.2.2.2.2.1; omega) hLl9)
                rw [hlenE.out] at HCv
                have HLv := hide' (atl_live hA12)
                have HOu := hide' (out_any hr12 hLl9)
                have HSz := hide' (size_any o.n hr12 hLl9)
                have HLx := hide' (show L.length < 1000000 from hLlt.out)
                have HOl := hide' (out_any hX12.row HLx.out)
                obtain ⟨kx0, kx2⟩ := op_cells hX12.hb
                have HA12 := hide' (And.intro hA12 (Hb11.out.trans (b12.mono Hb11.out.size)))
                clear HCh hA12 hX12 hr12 hp12 b12 HX11 HA11 Hr11 hLl9
                go_wp2_with fail
                refine HCv.out.mono ?_
                rintro r w13 ⟨rfl, hw⟩
                replace hw := hw.symm
                subst hw
                clear HCv
                go_wp2_with fail
                refine HLv.out.mono ?_
                rintro r w13 ⟨rfl, hw⟩
                replace hw := hw.symm
                subst hw
                clear HLv
                go_wp2_with fail
                refine HOu.out.mono ?_
                rintro r w13 ⟨rfl, hw⟩
                replace hw := hw.symm
                subst hw
                clear HOu HSz HOl

                go_wp2
                go_roundw
                case rel => exact ⟨k + 1, ws, L, D9, by go_num, rfl, by omega, HA12.out.1.mono (by omega), hlenE.out, HA12.out.2⟩
                case measure => first | exact Hend.out | (rw [ek]; exact Hend.out)
            · as_aux_lemma =>
                obtain ⟨D9, hA9', t9, s9⟩ := T7
                have hX7 := HX5.out.kept t9 hDn.out
                have HB7 : Hid (Below w.heap.size w w7) := hide' (HB5.out.trans (t9.below (fun j q => Nat.le_trans HB.out (HA5.out.lo q).1) HB5.out.size))
                have HX7 := hide' hX7
                have HA7 := hide' hA9'
                clear hX7 hA9' t9 s9
                have hsz9 := hide' hsz
                have hlen9 := hide' hlw
                have hlenE : Hid (ws9.length = N) := (show ws9.length = N from hlw.trans hlenE0.out)
                unfold M.P at hgd
                have hch := hide' hgd
                have hwr : Hid (wrap64 (o.n + siz L o.n) = o.n + siz L o.n) := (show wrap64 (o.n + siz L o.n) = o.n + siz L o.n by have := hfew.out; unfold wrap64; omega)
                obtain ⟨m1, hm1⟩ : ∃ m1, Hid ((outs L9).length = m1) := ⟨_, hide' rfl⟩
                have hou9 : Hid ((outs L).length = (outs L9).length + 1) := hide' hou.symm
                have ewo : wrap64 (((m1 + 1 : Nat) : Int) - 1) = (m1 : Int) := by have h1 := outs_le L; have h2 := hLl5.out; have h3 := hou; rw [hm1.out] at h3; unfold wrap64; omega
                have ewo2 : wrap64 ((m1 : Int)) = (m1 : Int) := by have h1 := outs_le L; have h2 := hLl5.out; have h3 := hou; rw [hm1.out] at h3; unfold wrap64; omega
                have hkE : Hid (o.kind = 2) := hide' hkx.out
                clear hsz hou hlw hgd ha0 hae HX5 HA5 HB5
                generalize siz L o.n = sv at *
                have HWo := hide' (atl_words HA7.out)
                rw [hlenE.out] at HWo
                have hX9 := HX7.out
                obtain ⟨kx0, kx2⟩ := op_cells hX9.hb
                clear hX9
                go_wp2_with fail
                refine HWo.out.mono ?_
                rintro r w10 ⟨ro10, rc10, rfl, hr10, b10⟩
                have hA10 := HA7.out.below b10
                have HX10 := hide' (HX7.out.below b10)
                have HBk := hide' (atl_blocks hA10)
                have HA10 := hide' hA10
                have Hr10 := hide' hr10
                have Hb10 := hide' (HB7.out.trans (b10.mono HB7.out.size))
                clear HWo hr10 b10 hA10 kx0 kx2
                go_wp2_with fail
                refine HBk.out.mono ?_
                rintro r w11 ⟨g11, rc11, rfl, hr11, b11⟩
                have hA11 := HA10.out.below b11
                have hX11 := HX10.out.below b11
                have hr10' : w11.ownsRow w7.heap.size 3 1 (.slice ro10 ws9.length rc10) ws9.length (M.ivs ws9) := by rw [hlenE.out]; exact (turn_below (S := fun _ => False) b11).row Hr10.out (fun _ _ q => q)
                have HCh := hide' (changed_any (w := w11) (rc := rcw) (rc' := rc10) o.n sv (-4611686018427387904 : Int) (row_ints hX11.was) (row_ints hr10') hlen9.out (by have := hfew.out; omega) hwr.out hch.out)
                simp only [hlenE0.out, hlenE.out] at HCh
                have HX11 := hide' hX11
                have HA11 := hide' hA11
                have Hr11 := hide' hr11
                have Hb11 := hide' (Hb10.out.trans (b11.mono Hb10.out.size))
                clear HBk hr11 b11 hA11 hX11 hr10' HX10 Hr10 HA10
                go_wp2_with fail
                refine HCh.out.mono ?_
                rintro r w12 ⟨rfl, b12⟩
                have hA12 := HA11.out.below b12
                have hX12 := HX11.out.below b12
                have hr12 : RowB w10.heap.size (some ⟨g11, 0, none⟩) rc11 L9 w12 := Hr11.out.kept (turn_below (S := fun _ => False) b12) (fun _ _ q => q)
                have hp12 := hA12.pure
                have hLl9 : L9.length < 1000000 := by have := hp12.2.2.1; omega
                have HCv := hide' (covers_any st (ws9.length : Int) hr12 hp12.1 hp12.2.1 hp12.2.2.2.2.1 (by have := hp12.2.2.2.2.2.1; omega) hLl9)
                rw [hlenE.out] at HCv
                have HLv := hide' (atl_live hA12)
                have HOu := hide' (out_any hr12 hLl9)
                have HSz := hide' (size_any o.n hr12 hLl9)
                have HLx := hide' (show L.length < 1000000 from hLlt.out)
                have HOl := hide' (out_any hX12.row HLx.out)
                obtain ⟨kx0, kx2⟩ := op_cells hX12.hb
                rw [hkE.out] at kx0
                rw [hou9.out] at HOl
                rw [hm1.out] at HLv HOu HOl
                rw [hsz9.out] at HSz
                have HA12 := hide' (And.intro hA12 (Hb11.out.trans (b12.mono Hb11.out.size)))
                clear HCh hA12 hX12 hr12 hp12 b12 HX11 HA11 Hr11 hLl9
                go_wp2_with fail
                refine HCv.out.mono ?_
                rintro r w13 ⟨rfl, hw⟩
                replace hw := hw.symm
                subst hw
                clear HCv
                go_wp2_with fail
                refine HLv.out.mono ?_
                rintro r w13 ⟨rfl, hw⟩
                replace hw := hw.symm
                subst hw
                clear HLv
                go_wp2_with fail
                refine HOu.out.mono ?_
                rintro r w13 ⟨rfl, hw⟩
                replace hw := hw.symm
                subst hw

                go_wp2_with fail
                refine HSz.out.mono ?_
                rintro r w13 ⟨rfl, hw⟩
                replace hw := hw.symm
                subst hw
                clear HSz
                go_wp2_with fail
                refine HOu.out.mono ?_
                rintro r w13 ⟨rfl, hw⟩
                replace hw := hw.symm
                subst hw
                clear HOu
                go_wp2_with fail
                refine HOl.out.mono ?_
                rintro r w13 ⟨rfl, hw⟩
                replace hw := hw.symm
                subst hw
                clear HOl

                go_wp2
                go_roundw
                case rel => exact ⟨k + 1, ws9, L9, D9, by go_num, rfl, by omega, HA12.out.1.mono (by omega), hlenE.out, HA12.out.2⟩
                case measure => first | exact Hend.out | (rw [ek]; exact Hend.out)
        · by_cases hk3 : o.kind = 3
          ·
            as_aux_lemma =>
              have hkx := hide' hk3
              rw [hk3] at kx0
              obtain ⟨q1, q2⟩ := at_lt (i := o.n) (n := (L.length : Int)) (by have := hLp.out; omega)
              obtain ⟨ix, hix⟩ : ∃ ix : Nat, (ix : Int) = o.n % (L.length : Int) := ⟨(o.n % (L.length : Int)).toNat, by omega⟩
              obtain ⟨b, hb⟩ : ∃ b, L[ix]? = some b := ⟨_, List.getElem?_eq_getElem (by omega)⟩
              have hbm := cov_mem HA5.out.pure.1 b (List.mem_of_getElem? hb)
              have hp5 := HA5.out.pure
              have hka : Hid (Oo.okk b.addr) := hide' (Oo.okk_of (by have := hfew.out; omega) (by have := hfew.out; omega))
              have hkb : Hid (-9223372036854775808 ≤ b.addr ∧ b.addr ≤ 9223372036854775807) := (show -9223372036854775808 ≤ b.addr ∧ b.addr ≤ 9223372036854775807 by have := hfew.out; omega)
              obtain ⟨g0, hg0, hcap0, j0, j1, j2⟩ := HX5.out.row.item hb
              simp only [Option.some.injEq, Addr.mk.injEq, and_true] at hg0
              obtain rfl := hg0
              have HPk := hide' (M.pick_any o.n (L.length : Int) w5 (by have := hLp.out; omega) (by have := hLl5.out; omega))
              rw [← hix] at HPk
              have hixl : (ix : Int) < (L.length : Int) := by omega
              have hLp' : (0 : Int) < (L.length : Int) := by have := hLp.out; omega
              have hLp'' : 0 < L.length := hLp.out
              clear hk1 hk2 hk3 hbm hp5 hix q1 q2 hb
              go_wp2_with fail
              refine HPk.out.mono ?_
              rintro r w6 ⟨rfl, hw⟩
              replace hw := hw.symm
              subst hw
              clear HPk

              have HSz0 := hide' (size_any b.addr HX5.out.row hLlt.out)
              have HG := hide' (atl_give b.addr hka.out HA5.out hcb.out)
              go_wp2_with fail
              refine HSz0.out.mono ?_
              rintro r w6 ⟨rfl, hw⟩
              replace hw := hw.symm
              subst hw
              clear HSz0
              go_wp2_with fail
              refine HG.out.mono ?_
              rintro r w7 hG
              clear HG kx0 kx2
              rcases hG with ⟨hz, rfl, T7⟩ | ⟨hz, rfl, ha0, hae, ws9, L9, T7, hlw, hgd, hsz, hou⟩
              · as_aux_lemma =>
                  rw [hz]
                  obtain ⟨D9, hA9', t9, s9⟩ := T7
                  have hX7 := HX5.out.kept t9 hDn.out
                  have HB7 : Hid (Below w.heap.size w w7) := hide' (HB5.out.trans (t9.below (fun j q => Nat.le_trans HB.out (HA5.out.lo q).1) HB5.out.size))
                  have HX7 := hide' hX7
                  have HA7 := hide' hA9'
                  clear hX7 hA9' t9 s9
                  have hlen9 : Hid (ws.length = ws.length) := hide' rfl
                  have hlenE := hlenE0
                  have hwr : Hid (wrap64 (b.addr + 0) = b.addr + 0) := (show wrap64 (b.addr + 0) = b.addr + 0 by have := hkb.out; unfold wrap64; omega)
                  have hch : Hid (∀ i, i < ws.length → ws.getD i 0 = if b.addr ≤ (i : Int) ∧ (i : Int) < b.addr + 0 then (-4611686018427387904 : Int) else ws.getD i 0) := (fun i hi => by rw [if_neg (by omega)])
                  clear hz HX5 HA5 HB5
                  have HWo := hide' (atl_words HA7.out)
                  rw [hlenE.out] at HWo
                  have hX9 := HX7.out
                  obtain ⟨kx0, kx2⟩ := op_cells hX9.hb
                  clear hX9
                  go_wp2_with fail
                  refine HWo.out.mono ?_
                  rintro r w10 ⟨ro10, rc10, rfl, hr10, b10⟩
                  have hA10 := HA7.out.below b10
                  have HX10 := hide' (HX7.out.below b10)
                  have HBk := hide' (atl_blocks hA10)
                  have HA10 := hide' hA10
                  have Hr10 := hide' hr10
                  have Hb10 := hide' (HB7.out.trans (b10.mono HB7.out.size))
                  clear HWo hr10 b10 hA10 kx0 kx2
                  go_wp2_with fail
                  refine HBk.out.mono ?_
                  rintro r w11 ⟨g11, rc11, rfl, hr11, b11⟩
                  have hA11 := HA10.out.below b11
                  have hX11 := HX10.out.below b11
                  have hr10' : w11.ownsRow w7.heap.size 3 1 (.slice ro10 ws.length rc10) ws.length (M.ivs ws) := by rw [hlenE.out]; exact (turn_below (S := fun _ => False) b11).row Hr10.out (fun _ _ q => q)
                  have HCh := hide' (changed_any (w := w11) (rc := rcw) (rc' := rc10) b.addr (0 : Int) (-4611686018427387904 : Int) (row_ints hX11.was) (row_ints hr10') rfl (by have := hfew.out; omega) hwr.out hch.out)
                  simp only [hlenE0.out, hlenE.out] at HCh
                  have HX11 := hide' hX11
                  have HA11 := hide' hA11
                  have Hr11 := hide' hr11
                  have Hb11 := hide' (Hb10.out.trans (b11.mono Hb10.out.size))
                  clear HBk hr11 b11 hA11 hX11 hr10' HX10 Hr10 HA10
                  go_wp2_with fail
                  refine HCh.out.mono ?_
                  rintro r w12 ⟨rfl, b12⟩
                  have hA12 := HA11.out.below b12
                  have hX12 := HX11.out.below b12
                  have hr12 : RowB w10.heap.size (some ⟨g11, 0, none⟩) rc11 L w12 := Hr11.out.kept (turn_below (S := fun _ => False) b12) (fun _ _ q => q)
                  have hp12 := hA12.pure
                  have hLl9 : L.length < 1000000 := by have := hp12.2.2.1; omega
                  have HCv := hide' (covers_any st (ws.length : Int) hr12 hp12.1 hp12.2.1 hp12.2.2.2.2.1 (by have := hp12.2.2.2.2.2.1; omega) hLl9)
                  rw [hlenE.out] at HCv
                  have HLv := hide' (atl_live hA12)
                  have HOu := hide' (out_any hr12 hLl9)
                  have HSz := hide' (size_any b.addr hr12 hLl9)
                  have HLx := hide' (show L.length < 1000000 from hLlt.out)
                  have HOl := hide' (out_any hX12.row HLx.out)
                  obtain ⟨kx0, kx2⟩ := op_cells hX12.hb
                  have HA12 := hide' (And.intro hA12 (Hb11.out.trans (b12.mono Hb11.out.size)))
                  clear HCh hA12 hX12 hr12 hp12 b12 HX11 HA11 Hr11 hLl9
                  go_wp2_with fail
                  refine HCv.out.mono ?_
                  rintro r w13 ⟨rfl, hw⟩
                  replace hw := hw.symm
                  subst hw
                  clear HCv
                  go_wp2_with fail
                  refine HLv.out.mono ?_
                  rintro r w13 ⟨rfl, hw⟩
                  replace hw := hw.symm
                  subst hw
                  clear HLv
                  go_wp2_with fail
                  refine HOu.out.mono ?_
                  rintro r w13 ⟨rfl, hw⟩
                  replace hw := hw.symm
                  subst hw
                  clear HOu HSz HOl

                  go_wp2
                  go_roundw
                  case rel => exact ⟨k + 1, ws, L, D9, by go_num, rfl, by omega, HA12.out.1.mono (by omega), hlenE.out, HA12.out.2⟩
                  case measure => first | exact Hend.out | (rw [ek]; exact Hend.out)
              · as_aux_lemma =>
                  obtain ⟨D9, hA9', t9, s9⟩ := T7
                  have hX7 := HX5.out.kept t9 hDn.out
                  have HB7 : Hid (Below w.heap.size w w7) := hide' (HB5.out.trans (t9.below (fun j q => Nat.le_trans HB.out (HA5.out.lo q).1) HB5.out.size))
                  have HX7 := hide' hX7
                  have HA7 := hide' hA9'
                  clear hX7 hA9' t9 s9
                  have hsz9 := hide' hsz
                  have hlen9 := hide' hlw
                  have hlenE : Hid (ws9.length = N) := (show ws9.length = N from hlw.trans hlenE0.out)
                  unfold M.P at hgd
                  have hch := hide' hgd
                  have hwr : Hid (wrap64 (b.addr + siz L b.addr) = b.addr + siz L b.addr) := (show wrap64 (b.addr + siz L b.addr) = b.addr + siz L b.addr by have := hfew.out; unfold wrap64; omega)
                  obtain ⟨m1, hm1⟩ : ∃ m1, Hid ((outs L9).length = m1) := ⟨_, hide' rfl⟩
                  have hou9 : Hid ((outs L).length = (outs L9).length + 1) := hide' hou.symm
                  have ewo : wrap64 (((m1 + 1 : Nat) : Int) - 1) = (m1 : Int) := by have h1 := outs_le L; have h2 := hLl5.out; have h3 := hou; rw [hm1.out] at h3; unfold wrap64; omega
                  have ewo2 : wrap64 ((m1 : Int)) = (m1 : Int) := by have h1 := outs_le L; have h2 := hLl5.out; have h3 := hou; rw [hm1.out] at h3; unfold wrap64; omega
                  have hkE : Hid (o.kind = 3) := hide' hkx.out
                  clear hsz hou hlw hgd ha0 hae HX5 HA5 HB5
                  generalize siz L b.addr = sv at *
                  have HWo := hide' (atl_words HA7.out)
                  rw [hlenE.out] at HWo
                  have hX9 := HX7.out
                  obtain ⟨kx0, kx2⟩ := op_cells hX9.hb
                  clear hX9
                  go_wp2_with fail
                  refine HWo.out.mono ?_
                  rintro r w10 ⟨ro10, rc10, rfl, hr10, b10⟩
                  have hA10 := HA7.out.below b10
                  have HX10 := hide' (HX7.out.below b10)
                  have HBk := hide' (atl_blocks hA10)
                  have HA10 := hide' hA10
                  have Hr10 := hide' hr10
                  have Hb10 := hide' (HB7.out.trans (b10.mono HB7.out.size))
                  clear HWo hr10 b10 hA10 kx0 kx2
                  go_wp2_with fail
                  refine HBk.out.mono ?_
                  rintro r w11 ⟨g11, rc11, rfl, hr11, b11⟩
                  have hA11 := HA10.out.below b11
                  have hX11 := HX10.out.below b11
                  have hr10' : w11.ownsRow w7.heap.size 3 1 (.slice ro10 ws9.length rc10) ws9.length (M.ivs ws9) := by rw [hlenE.out]; exact (turn_below (S := fun _ => False) b11).row Hr10.out (fun _ _ q => q)
                  have HCh := hide' (changed_any (w := w11) (rc := rcw) (rc' := rc10) b.addr sv (-4611686018427387904 : Int) (row_ints hX11.was) (row_ints hr10') hlen9.out (by have := hfew.out; omega) hwr.out hch.out)
                  simp only [hlenE0.out, hlenE.out] at HCh
                  have HX11 := hide' hX11
                  have HA11 := hide' hA11
                  have Hr11 := hide' hr11
                  have Hb11 := hide' (Hb10.out.trans (b11.mono Hb10.out.size))
                  clear HBk hr11 b11 hA11 hX11 hr10' HX10 Hr10 HA10
                  go_wp2_with fail
                  refine HCh.out.mono ?_
                  rintro r w12 ⟨rfl, b12⟩
                  have hA12 := HA11.out.below b12
                  have hX12 := HX11.out.below b12
                  have hr12 : RowB w10.heap.size (some ⟨g11, 0, none⟩) rc11 L9 w12 := Hr11.out.kept (turn_below (S := fun _ => False) b12) (fun _ _ q => q)
                  have hp12 := hA12.pure
                  have hLl9 : L9.length < 1000000 := by have := hp12.2.2.1; omega
                  have HCv := hide' (covers_any st (ws9.length : Int) hr12 hp12.1 hp12.2.1 hp12.2.2.2.2.1 (by have := hp12.2.2.2.2.2.1; omega) hLl9)
                  rw [hlenE.out] at HCv
                  have HLv := hide' (atl_live hA12)
                  have HOu := hide' (out_any hr12 hLl9)
                  have HSz := hide' (size_any b.addr hr12 hLl9)
                  have HLx := hide' (show L.length < 1000000 from hLlt.out)
                  have HOl := hide' (out_any hX12.row HLx.out)
                  obtain ⟨kx0, kx2⟩ := op_cells hX12.hb
                  rw [hkE.out] at kx0
                  rw [hou9.out] at HOl
                  rw [hm1.out] at HLv HOu HOl
                  rw [hsz9.out] at HSz
                  have HA12 := hide' (And.intro hA12 (Hb11.out.trans (b12.mono Hb11.out.size)))
                  clear HCh hA12 hX12 hr12 hp12 b12 HX11 HA11 Hr11 hLl9
                  go_wp2_with fail
                  refine HCv.out.mono ?_
                  rintro r w13 ⟨rfl, hw⟩
                  replace hw := hw.symm
                  subst hw
                  clear HCv
                  go_wp2_with fail
                  refine HLv.out.mono ?_
                  rintro r w13 ⟨rfl, hw⟩
                  replace hw := hw.symm
                  subst hw
                  clear HLv
                  go_wp2_with fail
                  refine HOu.out.mono ?_
                  rintro r w13 ⟨rfl, hw⟩
                  replace hw := hw.symm
                  subst hw

                  go_wp2_with fail
                  refine HSz.out.mono ?_
                  rintro r w13 ⟨rfl, hw⟩
                  replace hw := hw.symm
                  subst hw
                  clear HSz
                  go_wp2_with fail
                  refine HOu.out.mono ?_
                  rintro r w13 ⟨rfl, hw⟩
                  replace hw := hw.symm
                  subst hw
                  clear HOu
                  go_wp2_with fail
                  refine HOl.out.mono ?_
                  rintro r w13 ⟨rfl, hw⟩
                  replace hw := hw.symm
                  subst hw
                  clear HOl

                  go_wp2
                  go_roundw
                  case rel => exact ⟨k + 1, ws9, L9, D9, by go_num, rfl, by omega, HA12.out.1.mono (by omega), hlenE.out, HA12.out.2⟩
                  case measure => first | exact Hend.out | (rw [ek]; exact Hend.out)
          ·
            as_aux_lemma =>
              have hk1' : (o.kind == 1) = false := by simpa using hk1
              have hk2' : (o.kind == 2) = false := by simpa using hk2
              have hk3' : (o.kind == 3) = false := by simpa using hk3
              obtain ⟨w9, hw9⟩ : ∃ w9, w9 = w5 := ⟨_, rfl⟩
              have HA9 : Hid (Atl D w1.heap.size ab x ws [] 0 st L ((k + 1) * 65537) w9) := by rw [hw9]; exact HA5.out
              have HX9 : Hid (Xr wr.heap.size wr.heap.size o g rcl L ro rcw ws w9) := by rw [hw9]; exact HX5.out
              have HB9 : Hid (Below w.heap.size w w9) := by rw [hw9]; exact HB5.out
              clear hk1 hk2 hk3 HA5 HX5 HB5
              subst hw9
              have hlen9 : Hid (ws.length = ws.length) := hide' rfl
              have hlenE := hlenE0
              have hwr : Hid (wrap64 ((0 : Int) + 0) = (0 : Int) + 0) := (show wrap64 ((0 : Int) + 0) = (0 : Int) + 0 by unfold wrap64; omega)
              have hch : Hid (∀ i, i < ws.length → ws.getD i 0 = if (0 : Int) ≤ (i : Int) ∧ (i : Int) < (0 : Int) + 0 then (0 : Int) else ws.getD i 0) := (fun i hi => by rw [if_neg (by omega)])

              have HWo := hide' (atl_words HA9.out)
              rw [hlenE.out] at HWo
              have hX9 := HX9.out
              obtain ⟨kx0, kx2⟩ := op_cells hX9.hb
              clear hX9
              go_wp2_with fail
              refine HWo.out.mono ?_
              rintro r w10 ⟨ro10, rc10, rfl, hr10, b10⟩
              have hA10 := HA9.out.below b10
              have HX10 := hide' (HX9.out.below b10)
              have HBk := hide' (atl_blocks hA10)
              have HA10 := hide' hA10
              have Hr10 := hide' hr10
              have Hb10 := hide' (HB9.out.trans (b10.mono HB9.out.size))
              clear HWo hr10 b10 hA10 kx0 kx2
              go_wp2_with fail
              refine HBk.out.mono ?_
              rintro r w11 ⟨g11, rc11, rfl, hr11, b11⟩
              have hA11 := HA10.out.below b11
              have hX11 := HX10.out.below b11
              have hr10' : w11.ownsRow w9.heap.size 3 1 (.slice ro10 ws.length rc10) ws.length (M.ivs ws) := by rw [hlenE.out]; exact (turn_below (S := fun _ => False) b11).row Hr10.out (fun _ _ q => q)
              have HCh := hide' (changed_any (w := w11) (rc := rcw) (rc' := rc10) (0 : Int) (0 : Int) (0 : Int) (row_ints hX11.was) (row_ints hr10') rfl (by have := hfew.out; omega) hwr.out hch.out)
              simp only [hlenE0.out, hlenE.out] at HCh
              have HX11 := hide' hX11
              have HA11 := hide' hA11
              have Hr11 := hide' hr11
              have Hb11 := hide' (Hb10.out.trans (b11.mono Hb10.out.size))
              clear HBk hr11 b11 hA11 hX11 hr10' HX10 Hr10 HA10
              go_wp2_with fail
              refine HCh.out.mono ?_
              rintro r w12 ⟨rfl, b12⟩
              have hA12 := HA11.out.below b12
              have hX12 := HX11.out.below b12
              have hr12 : RowB w10.heap.size (some ⟨g11, 0, none⟩) rc11 L w12 := Hr11.out.kept (turn_below (S := fun _ => False) b12) (fun _ _ q => q)
              have hp12 := hA12.pure
              have hLl9 : L.length < 1000000 := by have := hp12.2.2.1; omega
              have HCv := hide' (covers_any st (ws.length : Int) hr12 hp12.1 hp12.2.1 hp12.2.2.2.2.1 (by have := hp12.2.2.2.2.2.1; omega) hLl9)
              rw [hlenE.out] at HCv
              have HLv := hide' (atl_live hA12)
              have HOu := hide' (out_any hr12 hLl9)
              have HSz := hide' (size_any (0 : Int) hr12 hLl9)
              have HLx := hide' (show L.length < 1000000 from hLlt.out)
              have HOl := hide' (out_any hX12.row HLx.out)
              obtain ⟨kx0, kx2⟩ := op_cells hX12.hb
              have HA12 := hide' (And.intro hA12 (Hb11.out.trans (b12.mono Hb11.out.size)))
              clear HCh hA12 hX12 hr12 hp12 b12 HX11 HA11 Hr11 hLl9
              go_wp2_with fail
              refine HCv.out.mono ?_
              rintro r w13 ⟨rfl, hw⟩
              replace hw := hw.symm
              subst hw
              clear HCv
              go_wp2_with fail
              refine HLv.out.mono ?_
              rintro r w13 ⟨rfl, hw⟩
              replace hw := hw.symm
              subst hw
              clear HLv
              go_wp2_with fail
              refine HOu.out.mono ?_
              rintro r w13 ⟨rfl, hw⟩
              replace hw := hw.symm
              subst hw
              clear HOu HSz HOl

              go_wp2
              go_roundw
              case rel => exact ⟨k + 1, ws, L, D, by go_num, rfl, by omega, HA12.out.1.mono (by omega), hlenE.out, HA12.out.2⟩
              case measure => first | exact Hend.out | (rw [ek]; exact Hend.out)
    · obtain rfl : k = os.length := by omega
      have Hbr := hide' hbr
      clear hA hbr hk hwl
      go_wp2
      go_ret
      exact ⟨rfl, Hbr.out⟩
end Ar
end Go.Proofs.Ythkmcponnlnpeaa
