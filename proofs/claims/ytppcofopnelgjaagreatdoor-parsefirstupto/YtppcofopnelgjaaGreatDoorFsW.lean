import Derived.Test.YtppcofopnelgjaaGreatDoorGrFs
import Derived.Test.YtppcofopnelgjaaGreatDoorGrJ
set_option linter.unusedVariables false
set_option linter.unusedSimpArgs false
namespace Go.Proofs.YtppcofopnelgjaaGreatDoor
open Go.RowKit
attribute [local go_sem] Oper.semAt_some
namespace Fs
/-- the tokens that are no ends -/
def flt (l : List R.Tok) : List R.Tok := l.filter fun t => !(t.1 == 5)
theorem flt_snoc (l : List R.Tok) (k : Nat) (t : R.Tok) (h : l[k]? = some t) : flt (l.take (k + 1)) = flt (l.take k) ++ (if t.1 = 5 then [] else [t]) := by
  rw [List.take_add_one, h]
  unfold flt
  rw [List.filter_append]
  congr 1
  by_cases h5 : t.1 = 5
  · simp [h5]
  · simp [h5]
theorem flt_len (l : List R.Tok) (k : Nat) : (flt (l.take k)).length ≤ k := by
  unfold flt
  have h1 := List.length_filter_le (fun t : R.Tok => !(t.1 == 5)) (l.take k)
  have h2 := List.length_take_le k l
  omega
theorem flt_mem {l : List R.Tok} {t : R.Tok} (h : t ∈ flt l) : t ∈ l ∧ t.1 ≠ 5 := by
  unfold flt at h
  obtain ⟨h1, h2⟩ := List.mem_filter.1 h
  exact ⟨h1, by simpa using h2⟩
theorem alive_nil : R.M.alive [] = true := rfl
/-- a token's text turned -/
theorem set_take (F : List R.Tok) (k : Nat) (t : R.Tok) (h : k < F.length) : (F.set k t).take (k + 1) = F.take k ++ [t] := by
  rw [List.take_add_one, List.getElem?_set_self h, List.take_set_of_le (Nat.le_refl _)]
  rfl
set_option maxRecDepth 100000 in
set_option maxHeartbeats 16000000 in
theorem first_walk (la : List R.Tok) (aa : Option Addr) (ca : Nat) (w : World) (hca : la.length ≤ ca) (fa : la.length ≤ 1048576) (sa : ∀ t ∈ la, t.2.1.size ≤ 1048576) (ta : Toks la aa (fun _ => False) w) (hT : TbB w.heap.size w) (hg : w.cell? ⟨0, 0, none⟩ = some (ty 33)) :
    Calls Tryz.prog 8 #[.slice aa la.length ca] w fun e w' => e = .returned (.bool true) ∧ Below w.heap.size w w' := by
  have E1 : Hid (∀ k : Nat, k ≤ 2000000 → wrap64 ((k : Int) + 1) = (k : Int) + 1) := hide' (fun k hk => by unfold wrap64; omega)
  have H := hide' (And.intro ta (And.intro hT (And.intro sa (And.intro hca (And.intro fa hg)))))
  have hi44 := info29
  cases hq44 : Tryz.prog.info? 44 with
  | none => simp [hq44] at hi44
  | some i0 =>
  obtain ⟨hz0, hz1, hz2⟩ : i0.zero = some (.agg #[.int .i8 0, .string ByteArray.empty, .int .i64 0, .int .i64 0]) ∧ i0.size = 4 ∧ i0.bytes = 40 := by simpa [hq44] using hi44
  have Hz := hide' (And.intro hq44 (And.intro hz0 (And.intro hz1 hz2)))
  clear hi44 hq44 hz0 hz1 hz2 ta hT sa hca fa hg
  go_enter Tryz.func8, Tryz.ntmps8
  go_wp2_with fail
  go_loopw [3, 4] (fun v vi wx => ∃ (k : Nat) (V : World), V = wx ∧ k ≤ la.length ∧ vi = .int .i64 (k : Int) ∧ Below w.heap.size w V ∧ V.ownsRow w.heap.size 44 4 v (flt (la.take k)).length ((flt (la.take k)).flatMap cellsT)) (fun _ vi _ => la.length - (intOf vi).toNat)
  case atStart => exact ⟨0, _, rfl, Nat.zero_le _, rfl, Below.refl _ _, rfl, Or.inl ⟨rfl, rfl⟩⟩
  case round =>
    obtain ⟨k, V, rfl, hk, rfl, hb, hrow⟩ := hrel
    have HR := hide' (And.intro hb hrow)
    by_cases hkl : k < la.length
    · obtain ⟨tb, tf, rfl, _, hl, q0, q1, q2, q3⟩ := (H.out.1.below hb) k _ (List.getElem?_eq_getElem hkl)
      obtain ⟨t, ht⟩ : ∃ t, la[k]? = some t := ⟨_, List.getElem?_eq_getElem hkl⟩
      have hte : la[k] = t := by have := List.getElem?_eq_getElem hkl; rw [ht] at this; exact (Option.some.inj this).symm
      rw [hte] at q0 q1 q2 q3
      have hx := flt_snoc la k t ht
      have e1 := E1.out k (by have := H.out.2.2.2.2.1; omega)
      have Hend := hide' (msr' hkl _ e1)
      have hca := H.out.2.2.2.1
      have hlF := flt_len la k
      have hk63 : Hid ((flt (la.take k)).length + 1 ≤ maxLen ∧ ((flt (la.take k)).length + 1) * 40 ≤ 140737488355328) := hide' (by have := H.out.2.2.2.2.1; exact ⟨by unfold maxLen; omega, by omega⟩)
      have Hx := hide' hx
      have Hk := hide' hkl
      have hki : (k : Int) < (la.length : Int) := by omega
      clear hb hrow hx hte ht hlF hk
      obtain ⟨tk, tt, tl, tc⟩ := t
      simp only at q0 q1 q2 q3
      by_cases h5 : tk = 5
      · subst h5
        go_wp2_with fail
        refine ⟨⟨k + 1, V, rfl, Hk.out, by first | rfl | (rw [e1]; rfl), HR.out.1, ?_⟩, by first | exact Hend.out | (rw [← e1]; exact Hend.out)⟩
        rw [Hx.out]
        simpa using HR.out.2
      · have h5' : (tk == 5) = false := by simpa using h5
        go_wp2_with (at_builtin; refine wpList_append_lies _ rfl _ _ 40 rfl w.heap.size 44 i0 _ 4 40 Tryz.underlying40 Hz.out.1 Hz.out.2.1 Hz.out.2.2.1 Hz.out.2.2.2 rfl (by decide) _ _ _ rfl (HR.out.2.alloc _) ⟨V.heap.size, 0, none⟩ 1 1 [.int .i8 tk, .string tt, .int .i64 tl, .int .i64 tc] rfl rfl (four_new _ _ _ _ _ _) (by simp [Value.oneCell']) (by decide) hk63.out.1 hk63.out.2 (by have := HR.out.1.size; simp; omega) _ rfl ?_; intro g cp w4 hrow4 hgrow4 hat4 hlt4)
        have hb4 : Below w.heap.size w w4 := (HR.out.1.alloc HR.out.1.size _).grown hgrow4 (by have := HR.out.1.size; simp; omega) (fun k hk => (HR.out.2.lt k hk).1)
        refine ⟨⟨k + 1, w4, rfl, Hk.out, by first | rfl | (rw [e1]; rfl), hb4, ?_⟩, by first | exact Hend.out | (rw [← e1]; exact Hend.out)⟩
        rw [Hx.out, if_neg h5, List.flatMap_append, List.length_append]
        simpa [cellsT] using hrow4
    · obtain rfl : k = la.length := by omega
      have hki : ¬ ((la.length : Int) < (la.length : Int)) := by omega
      rw [List.take_length] at hrow
      have hF5 : ∀ t ∈ flt la, t.1 ≠ 5 := fun t h => (flt_mem h).2
      have hFs : ∀ t ∈ flt la, t.2.1.size ≤ 1048576 := fun t h => H.out.2.2.1 t (flt_mem h).1
      have hFl : (flt la).length ≤ 1048576 := by have := flt_len la la.length; rw [List.take_length] at this; have := H.out.2.2.2.2.1; omega
      obtain ⟨x, cp, rfl, hcp, tF⟩ := toks_row hrow
      have HA := hide' (alive_any w.heap.size V (H.out.2.1.below hb))
      generalize flt la = F at *
      obtain ⟨n, hn⟩ : ∃ n, n = F.length := ⟨_, rfl⟩
      have HF := hide' (And.intro hF5 (And.intro hFs (And.intro hFl (And.intro tF (And.intro hcp hn)))))
      have Hb := hide' hb
      have Hrow := hide' hrow
      rw [← hn] at hcp ⊢
      have hn0 : (n : Int) < 1048577 := by omega
      clear HR hb hrow hF5 hFs hFl tF hn hkl hk
      go_upto_region 8 with (go_at_call 11; refine HA.out.mono ?_; rintro e w1 ⟨rfl, b1⟩; have B1 := hide' (Hb.out.trans (b1.mono Hb.out.size)); have BV1 := hide' b1; clear b1)
      have T1 := hide' (HF.out.2.2.2.1.below BV1.out)
      have HTw := hide' (twin_at F n HF.out.2.2.2.2.2.symm x cp w1 (by have := HF.out.2.2.1; unfold R.lim; omega) T1.out)
      go_upto_region 9 with (first | (go_at_call 17; refine HTw.out.mono ?_; rintro e w2 ⟨v2, rfl, r2, b2⟩; obtain ⟨x2, c2, rfl, hc2, t2⟩ := toks_row r2; have B2 := hide' (B1.out.trans (b2.mono B1.out.size)); have BV2 := hide' (And.intro b2 (And.intro hc2 t2)); have HD := hide' (decls_any F x2 c2 w.heap.size w2 hc2 ⟨by have := HF.out.2.2.1; unfold R.lim; omega, fun t h => by have := HF.out.2.1 t h; unfold R.lim; omega⟩ t2 (H.out.2.1.below B2.out)); clear r2 b2 hc2 t2) | (go_at_call 19; refine HD.out.mono ?_; rintro e w3 ⟨d3, b3⟩; obtain ⟨s3, n3, c3, ev, rfl, hev, hev2, htl⟩ := tell _ _ _ _ d3 (fun j c h => by have := R.M.bad_code _ _ _ h; omega); have B3 := hide' (And.intro (B2.out.trans (b3.mono B2.out.size)) b3); have HTl := hide' htl; clear d3 b3 hev htl hev2))
      have G3 := hide' ((B3.out.1.cell (p := ⟨0, 0, none⟩) (lt_of_cell H.out.2.2.2.2.2)).trans H.out.2.2.2.2.2)
      obtain ⟨fc, fl, fk, fw, hfl, hff⟩ := fault_form F HF.out.1
      have HFF := hide' hff
      have HT9 := hide' (HTl.out w3 (Below.refl _ _) G3.out)
      rw [hfl] at HT9
      clear hff hfl HTl HTw HD
      go_upto_region 10 with (go_at_call 14; refine HT9.out.mono ?_; rintro e w4 ⟨rfl, b4⟩; have B4 := hide' (And.intro (B3.out.1.trans (b4.mono B3.out.1.size)) b4); clear b4)
      obtain ⟨W4, hW4⟩ : ∃ W, W = w4.alloc (.cells #[.int .i64 fc, .int .i64 fl, .int .i64 fk, .string fw] 26) := ⟨_, rfl⟩
      have k4 : Tk w4.heap.size (.int .i64 fc) (.int .i64 fl) (.int .i64 fk) (.string fw) W4 := by rw [hW4]; exact Tk.of_cells (heap_alloc_new _ _)
      have c4 : Below w.heap.size w W4 := by rw [hW4]; exact B4.out.1.alloc B4.out.1.size _
      rw [← hW4]
      obtain ⟨bF, hbF⟩ : ∃ b, b = w4.heap.size := ⟨_, rfl⟩
      rw [← hbF] at k4 ⊢
      have HbF := hide' (show w.heap.size ≤ bF by rw [hbF]; exact B4.out.1.size)
      have TF4 : Hid (Toks F x (fun _ => False) W4) := hide' (by
        rw [hW4]
        exact ((((HF.out.2.2.2.1.below BV1.out).below BV2.out.1).below B3.out.2).below B4.out.2).below ((Below.refl _ _).alloc (Nat.le_refl _) _))
      have K4 := hide' (And.intro k4 c4)
      have KT4 := hide' (H.out.2.1.below c4)
      clear k4 c4 hW4 hbF
      go_wp2_with fail
      go_loopw [10] (fun vi wx => ∃ (j : Nat) (Vj : World), Vj = wx ∧ vi = .int .i64 (j : Int) ∧ j ≤ n ∧ Below W4.heap.size W4 Vj ∧ ∀ m, m ≤ j → R.M.alive (F.take m) = true) (fun vi _ => n - (intOf vi).toNat)
      case atStart => exact ⟨0, _, rfl, rfl, Nat.zero_le _, Below.refl _ _, fun m hm => by
        have hm0 : m = 0 := by omega
        subst hm0
        rfl⟩
      case round =>
        obtain ⟨j, Vj, rfl, rfl, hj, bj, hal⟩ := hrel
        have Bj := hide' bj
        have HAl := hide' hal
        have kf : Tk bF (.int .i64 fc) (.int .i64 fl) (.int .i64 fk) (.string fw) Vj := K4.out.1.below bj
        clear hal bj
        by_cases hjn : j < n
        · have hjn' : (j : Int) < (n : Int) := by omega
          have e1 := E1.out j (by have := HF.out.2.2.1; have := HF.out.2.2.2.2.2; omega)
          have Hend := hide' (msr' hjn _ e1)
          have Hlt := hide' hjn
          have HGo : Hid (∀ i : Int, i = ((j + 1 : Nat) : Int) → Calls Tryz.prog 24 #[.slice x n cp, .int .i64 i] Vj fun e w' => e = .returned (.bool (R.M.alive (F.take (j + 1)))) ∧ Below Vj.heap.size Vj w') := hide' (fun i hi => (by subst hi; exact goes_any F n (j + 1) x cp w.heap.size Vj HF.out.2.2.2.2.2.symm (by omega) hcp (by have := HF.out.2.2.1; have := HF.out.2.2.2.2.2; omega) HF.out.2.1 HF.out.1 (TF4.out.below Bj.out) (KT4.out.below Bj.out)))
          have ei : wrap64 ((j : Int) + 1) = ((j + 1 : Nat) : Int) := by rw [e1]; rfl
          cases ha : R.M.alive (F.take (j + 1)) with
          | true =>
            rw [ha] at HGo
            clear hj hjn kf
            go_wp2_with (go_at_call 24; refine (HGo.out _ (by first | exact ei | rfl)).mono ?_; rintro e w5 ⟨rfl, b5⟩; have B5 := hide' (Bj.out.trans (b5.mono Bj.out.size)); clear b5)
            refine ⟨⟨j + 1, w5, rfl, by first | rfl | (rw [e1]; rfl), Hlt.out, B5.out, fun m hm => ?_⟩, by first | exact Hend.out | (rw [← e1]; exact Hend.out)⟩
            by_cases hmj : m ≤ j
            · exact HAl.out m hmj
            · obtain rfl : m = j + 1 := by omega
              exact ha
          | false =>
            rw [ha] at HGo
            obtain ⟨t, ht, hfin⟩ : ∃ t, F[j]? = some t ∧ fc = (if t.1 = 3 ∧ R.M.alive (F.take j ++ [(3, R.M.bn [48, 46, 53], t.2.2.1, t.2.2.2)]) = true then 23 else 40) ∧ fl = t.2.2.1 ∧ fk = t.2.2.2 ∧ fw = t.2.1 := by
              rcases HFF.out with ⟨h1, _⟩ | ⟨i, t, h1, h2, h3, h4⟩
              · have := h1 (j + 1) (by have := HF.out.2.2.2.2.2; omega)
                rw [ha] at this; cases this
              · have hij : i = j := by
                  rcases Nat.lt_trichotomy i j with q | q | q
                  · have := HAl.out (i + 1) (by omega); rw [h3] at this; cases this
                  · exact q
                  · have := h2 (j + 1) (by omega); rw [ha] at this; cases this
                subst hij
                exact ⟨t, h1, h4⟩
            obtain ⟨hfc, hfl, hfk, hfw⟩ := hfin
            have Hfc := hide' hfc
            have Ht := hide' ht
            subst hfl hfk hfw
            clear hfc HFF hj hjn kf ht
            go_upto_region 15 with (go_at_call 24; refine (HGo.out _ (by first | exact ei | rfl)).mono ?_; rintro e w5 ⟨rfl, b5⟩; have B5 := hide' (And.intro (Bj.out.trans (b5.mono Bj.out.size)) b5); clear b5)
            obtain ⟨tb, tf, hxe, _, hl, q0, q1, q2, q3⟩ := (TF4.out.below (Bj.out.trans (B5.out.2.mono Bj.out.size))) j t Ht.out
            obtain ⟨tk, tt, tl, tc⟩ := t
            simp only at q0 q1 q2 q3
            subst hxe
            have hji : (j : Int) < (n : Int) := by have := (List.getElem?_eq_some_iff.1 Ht.out).1; have := HF.out.2.2.2.2.2; omega
            have hjne : ¬ ((j : Int) = (n : Int)) := by omega
            have Hei := hide' (And.intro ei (And.intro hcp hl))
            clear hn0 ei hl hcp e1
            go_upto_region 17 with fail
            go_upto_region 18 with fail
            go_upto_region 19 with fail
            have h7 := two44 w5 (.int .i8 tk) (.string tt) (.int .i64 tl) (.int .i64 tc) (.int .i64 40) (.int .i64 tl) (.int .i64 tc) (.string tt)
            obtain ⟨W7, hW7⟩ : ∃ W, W = (w5.alloc (.cells #[.int .i8 tk, .string tt, .int .i64 tl, .int .i64 tc] 44)).alloc (.cells #[.int .i64 40, .int .i64 tl, .int .i64 tc, .string tt] 26) := ⟨_, rfl⟩
            rw [← hW7] at h7 ⊢
            obtain ⟨kt7, kw7, b7, z7⟩ := h7
            obtain ⟨bt, hbt⟩ : ∃ b, b = w5.heap.size := ⟨_, rfl⟩
            obtain ⟨bw, hbw⟩ : ∃ b, b = w5.heap.size + 1 := ⟨_, rfl⟩
            rw [← hbw, ← hbt]
            rw [← hbw] at kw7
            rw [← hbt] at kt7
            have HNe := hide' (show bF ≠ bw by
              have z1 := lt_of_cell K4.out.1.c0
              have z2 := B5.out.1.size
              simp only at z1
              omega)
            have kf7 : Tk bF (.int .i64 fc) (.int .i64 tl) (.int .i64 tc) (.string tt) W7 := (K4.out.1.below B5.out.1).below b7
            have B7 : Below w.heap.size w W7 := (K4.out.2.trans (B5.out.1.mono K4.out.2.size)).trans (b7.mono (Nat.le_trans K4.out.2.size B5.out.1.size))
            have TF7 := hide' ((TF4.out.below B5.out.1).below b7)
            have KT7 := hide' (H.out.2.1.below B7)
            have Zb := hide' (show w.heap.size ≤ bw ∧ bF < W7.heap.size ∧ bw < W7.heap.size by
              have z1 := K4.out.2.size
              have z2 := B5.out.1.size
              exact ⟨by omega, lt_of_cell kf7.c0, by omega⟩)
            have K7 := hide' (And.intro kf7 (And.intro kw7 B7))
            obtain ⟨x0, x1, x2', x3, _⟩ := kf7
            obtain ⟨y0, y1, y2, y3, _⟩ := kw7
            have t0 := kt7.c0
            clear hW7 hbt hbw kt7 b7 z7 q0 q1 q2 q3
            by_cases h3 : tk = 3
            · subst h3
              have hfc2 : fc = if R.M.alive (F.take j ++ [(3, R.M.bn [48, 46, 53], tl, tc)]) = true then 23 else 40 := by
                have := Hfc.out
                simpa using this
              have Hfc2 := hide' hfc2
              have HTw := hide' (twin_at F n HF.out.2.2.2.2.2.symm (some ⟨tb, tf, none⟩) cp W7 (by have := HF.out.2.2.1; unfold R.lim; omega) TF7.out)
              clear hfc2
              go_upto_region 21 with (go_at_call 17; refine HTw.out.mono ?_; rintro e w8 ⟨v8, rfl, r8, b8⟩; have H8 := hide' (And.intro r8 b8); clear r8 b8)
              obtain ⟨g, c8, hv8, hc8, hg8, hgl, u8, uf, hst⟩ := row_text H8.out.1 Ht.out
              rw [← HF.out.2.2.2.2.2] at hv8 hc8
              subst hv8
              have b78 : Below w.heap.size w w8 := K7.out.2.2.trans (H8.out.2.mono K7.out.2.2.size)
              have hgF : bF ≠ g := by have := Zb.out; omega
              have hgw : bw ≠ g := by have := Zb.out; omega
              have kf8 := K7.out.1.below H8.out.2
              have kw8 := K7.out.2.1.below H8.out.2
              have hr9 := hst (R.M.bn [48, 46, 53])
              have lF : (F.set j ((3 : Int), R.M.bn [48, 46, 53], tl, tc)).length = n := by rw [List.length_set]; exact HF.out.2.2.2.2.2.symm
              obtain ⟨W9, hW9⟩ : ∃ W, W = w8.setCell ⟨g, j * 4 + 1, none⟩ (.string ⟨#[48, 46, 53]⟩) := ⟨_, rfl⟩
              have t9 : Turn (fun k => k = g) w8 W9 := by rw [hW9]; exact (Turn.refl (fun k => k = g) w8).setCell (p := ⟨g, j * 4 + 1, none⟩) (fun _ => rfl) _
              have r9 : W9.ownsRow W7.heap.size 44 4 (.slice (some ⟨g, 0, none⟩) n c8) (F.set j ((3 : Int), R.M.bn [48, 46, 53], tl, tc)).length ((F.set j ((3 : Int), R.M.bn [48, 46, 53], tl, tc)).flatMap cellsT) := by rw [hW9, List.length_set]; exact hr9
              obtain ⟨sa9, sc9, hv9, hc9, T9⟩ := toks_row r9
              simp only [Value.slice.injEq] at hv9
              obtain ⟨hsa, hnn, hsc⟩ := hv9
              clear hnn
              subst hsa
              have b9 : Below w.heap.size w W9 := b78.trans (t9.below (fun k q => by have := K7.out.2.2.size; omega) b78.size)
              have KT9 := H.out.2.1.below b9
              have mem5 : ∀ x ∈ F.set j ((3 : Int), R.M.bn [48, 46, 53], tl, tc), x.1 ≠ 5 := fun x hx => by
                rcases List.mem_or_eq_of_mem_set hx with q | q
                · exact HF.out.1 x q
                · rw [q]; show (3 : Int) ≠ 5; decide
              have memS : ∀ x ∈ F.set j ((3 : Int), R.M.bn [48, 46, 53], tl, tc), x.2.1.size ≤ 1048576 := fun x hx => by
                rcases List.mem_or_eq_of_mem_set hx with q | q
                · exact HF.out.2.1 x q
                · rw [q]; show (R.M.bn [48, 46, 53]).size ≤ 1048576; decide
              have halv : R.M.alive ((F.set j ((3 : Int), R.M.bn [48, 46, 53], tl, tc)).take (j + 1)) = R.M.alive (F.take j ++ [((3 : Int), R.M.bn [48, 46, 53], tl, tc)]) := by
                rw [set_take F j _ (by have := HF.out.2.2.2.2.2; have := Hlt.out; omega)]
              have HG9 : Hid (∀ i : Int, i = ((j + 1 : Nat) : Int) → Calls Tryz.prog 24 #[.slice (some ⟨g, 0, none⟩) n c8, .int .i64 i] W9 fun e w' => e = .returned (.bool (R.M.alive (F.take j ++ [((3 : Int), R.M.bn [48, 46, 53], tl, tc)]))) ∧ Below W9.heap.size W9 w') := hide' (fun i hi => by
                subst hi
                rw [← halv]
                exact goes_any (F.set j ((3 : Int), R.M.bn [48, 46, 53], tl, tc)) n (j + 1) (some ⟨g, 0, none⟩) c8 w.heap.size W9 lF (by have := Hlt.out; omega) hc8 (by have := HF.out.2.2.1; have := HF.out.2.2.2.2.2; omega) memS mem5 T9 KT9)
              have kf9 := hide' (kf8.turn t9 hgF)
              have kw9 := hide' (kw8.turn t9 hgw)
              have B9 := hide' b9
              have hji2 := hji
              clear hr9 hst kf8 kw8 b78 lF r9 T9 b9 KT9 mem5 memS halv hgF hgw hgl hg8 t9 hsc hc9 x0 x1 x2' x3 y0 y1 y2 y3 t0
              have hc8' : j < c8 := by have := Hlt.out; omega
              go_upto_region 22 with fail
              rw [← hW9]
              clear hW9 u8 uf hc8 hc8'
              have ei := Hei.out.1
              have e1 : wrap64 ((j : Int) + 1) = (j : Int) + 1 := by rw [ei]; rfl
              cases ha5 : R.M.alive (F.take j ++ [((3 : Int), R.M.bn [48, 46, 53], tl, tc)]) with
              | true =>
                rw [ha5] at HG9 Hfc2
                obtain rfl : fc = 23 := Hfc2.out
                clear ha5 hjne hjn' hji2
                go_upto_region 23 with (go_at_call 24; refine (HG9.out _ (by first | (with_reducible exact ei) | (with_reducible rfl) | (with_reducible exact (Int.natCast_succ j).symm) | (with_reducible exact e1))).mono ?_; rintro e w10 ⟨rfl, b10⟩; have B10 := hide' (B9.out.trans (b10.mono B9.out.size)); have kk := hide' (And.intro (kf9.out.below b10) (kw9.out.below b10)); clear b10)
                obtain ⟨y0, y1, y2, y3, _⟩ := kk.out.2
                obtain ⟨y4, _, _, _⟩ := kk.out.2.frz
                go_upto_region 24 with fail
                obtain ⟨W11, hW11⟩ : ∃ W, W = w10.setCell ⟨bw, 0, none⟩ (.int .i64 23) := ⟨_, rfl⟩
                rw [← hW11]
                have hne : bF ≠ bw := HNe.out
                have hc : ∀ k, (⟨bw, k, none⟩ : Addr) ≠ ⟨bw, 0, none⟩ → W11.cell? ⟨bw, k, none⟩ = w10.cell? ⟨bw, k, none⟩ := fun k hk => by rw [hW11]; exact World.cell?_setCell_other _ _ _ _ (fun e => hk e.symm)
                have z0 : W11.cell? ⟨bw, 0, none⟩ = some (.int .i64 23) := by rw [hW11]; exact World.cell?_setCell_same' _ _ _ (by rw [y0]; rfl)
                have z1 := (hc 1 (by simp)).trans y1
                have z2 := (hc 2 (by simp)).trans y2
                have z3 := (hc 3 (by simp)).trans y3
                have t11 : Turn (fun k => k = bw) w10 W11 := by rw [hW11]; exact (Turn.refl (fun k => k = bw) w10).setCell (p := ⟨bw, 0, none⟩) (fun _ => rfl) _
                have kf11 := kk.out.1.turn t11 hne
                have B11 := hide' (B10.out.trans (t11.below (fun k q => by have := Zb.out; omega) B10.out.size))
                obtain ⟨x0, x1, x2', x3, _⟩ := kf11
                clear hc y0 y1 y2 y3 y4 hW11 t11 hne
                go_wp2_with fail
                go_ret
                exact ⟨rfl, B11.out⟩
              | false =>
                rw [ha5] at HG9 Hfc2
                obtain rfl : fc = 40 := Hfc2.out
                clear ha5 hjne hjn' hji2
                go_upto_region 24 with (go_at_call 24; refine (HG9.out _ (by first | (with_reducible exact ei) | (with_reducible rfl) | (with_reducible exact (Int.natCast_succ j).symm) | (with_reducible exact e1))).mono ?_; rintro e w10 ⟨rfl, b10⟩; have B10 := hide' (B9.out.trans (b10.mono B9.out.size)); have kk := hide' (And.intro (kf9.out.below b10) (kw9.out.below b10)); clear b10)
                obtain ⟨x0, x1, x2', x3, _⟩ := kk.out.1
                obtain ⟨y0, y1, y2, y3, _⟩ := kk.out.2
                go_wp2_with fail
                go_ret
                exact ⟨rfl, B10.out⟩
            · have h3' : (tk == 3) = false := by simpa using h3
              obtain rfl : fc = 40 := by
                have := Hfc.out
                rw [if_neg (by intro q; exact h3 q.1)] at this
                exact this
              go_wp2_with fail
              go_ret
              exact ⟨rfl, K7.out.2.2⟩
        · have hjn2 : j = n := by omega
          have hA : fc = 0 ∨ fc = 40 := by
            rcases HFF.out with ⟨_, h2, _⟩ | ⟨i, t, h1, h2, h3, h4⟩
            · exact h2
            · have hi : i < F.length := (List.getElem?_eq_some_iff.1 h1).1
              have := HAl.out (i + 1) (by have := HF.out.2.2.2.2.2; omega)
              rw [h3] at this; cases this
          have hB : fl = 0 ∧ fk = 0 ∧ fw = ⟨#[]⟩ := by
            rcases HFF.out with ⟨_, _, h2⟩ | ⟨i, t, h1, h2, h3, h4⟩
            · exact h2
            · have hi : i < F.length := (List.getElem?_eq_some_iff.1 h1).1
              have := HAl.out (i + 1) (by have := HF.out.2.2.2.2.2; omega)
              rw [h3] at this; cases this
          obtain ⟨rfl, rfl, rfl⟩ := hB
          subst hjn2
          have hjn' : ¬ ((j : Int) < (j : Int)) := by omega
          have bW := hide' (K4.out.2.trans (Bj.out.mono K4.out.2.size))
          obtain ⟨x0, x1, x2, x3, _⟩ := kf
          clear hj hjn HFF
          rcases hA with rfl | rfl
          · go_wp2_with fail
            go_ret
            exact ⟨rfl, bW.out⟩
          · go_wp2_with fail
            go_ret
            exact ⟨rfl, bW.out⟩
end Fs
end Go.Proofs.YtppcofopnelgjaaGreatDoor
