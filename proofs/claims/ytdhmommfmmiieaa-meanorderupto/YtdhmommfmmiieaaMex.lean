import Derived.Test.YtdhmommfmmiieaaKR
set_option linter.unusedVariables false
set_option linter.unusedSimpArgs false
namespace Go.Proofs.Ytdhmommfmmiieaa
open Go.RowKit Go.Maps
namespace U
theorem alt_ex {F J : Pf} (h : Tw F J) {o : Option Addr} {c : Nat} (t u : X.K3) : alt { J with x := (o, c, J.x.2.2 ++ [t]) } u = (alt F u && !decide (u = t)) := by
  have e := alw_tw (F := F) (J := { J with x := (o, c, J.x.2.2 ++ [t]) }) ⟨h.a, h.s, h.o, h.m, h.i, h.p, h.w⟩ h.u u.1 u.2.1 u.2.2
  unfold alt
  rw [e]
  show (rany F u.1 u.2.1 u.2.2 false F.u.2.2 && !rany F u.1 u.2.1 u.2.2 true F.u.2.2 && !exc (J.x.2.2 ++ [t]) u) = (alw F u.1 u.2.1 u.2.2 && !decide (u = t))
  unfold alw
  rw [exc_isIn, exc_isIn, h.x]
  have e2 : isIn (F.x.2.2 ++ [t]) u = (isIn F.x.2.2 u || decide (u = t)) := by
    unfold isIn
    rw [Bool.eq_iff_iff]
    simp
  have e3 : ((u.1, u.2.1, u.2.2) : X.K3) = u := rfl
  rw [e2, e3]
  cases rany F u.1 u.2.1 u.2.2 false F.u.2.2 <;> cases rany F u.1 u.2.1 u.2.2 true F.u.2.2 <;> cases isIn F.x.2.2 u <;> cases decide (u = t) <;> rfl
theorem rel_ex {F J : Pf} (h : Tw F J) {o : Option Addr} {c : Nat} (t : X.K3) : rel { J with x := (o, c, J.x.2.2 ++ [t]) } = (rel F).filter (fun u => !decide (u = t)) := by
  rw [rel_trs, rel_trs F, List.filter_filter, trs_nm (F := F) (J := { J with x := (o, c, J.x.2.2 ++ [t]) }) ⟨h.a, h.s, h.o, h.m, h.i, h.p, h.w⟩]
  apply List.filter_congr
  intro u _
  rw [alt_ex h, Bool.and_comm]
theorem fine_ex {J : Pf} {N : Nat} (f : Fine J N) (hN : N < 1048576) {o : Option Addr} {c : Nat} (t : X.K3) (ht : t.1.size ≤ N + 1 ∧ t.2.1.size ≤ N + 1 ∧ t.2.2.size ≤ N + 1) : Fine { J with x := (o, c, J.x.2.2 ++ [t]) } (N + 1) := by
  have g := f.mono (Nat.le_succ N) hN
  exact { g with
    x := by show (J.x.2.2 ++ [t]).length ≤ N + 1; have := f.x; rw [List.length_append]; simp; omega
    zx := fun z hz => by
      rcases List.mem_append.1 hz with q | q
      · exact g.zx z q
      · rw [List.mem_singleton] at q; rw [q]; exact ht }
theorem filt_yes {R : List X.K3} {i : Nat} {z t : X.K3} (hz : R[i]? = some z) (h : z ≠ t) : (R.take (i + 1)).filter (fun u => !decide (u = t)) = (R.take i).filter (fun u => !decide (u = t)) ++ [z] := by
  rw [List.take_add_one, hz, List.filter_append]
  simp [h]
theorem filt_no {R : List X.K3} {i : Nat} {z t : X.K3} (hz : R[i]? = some z) (h : z = t) : (R.take (i + 1)).filter (fun u => !decide (u = t)) = (R.take i).filter (fun u => !decide (u = t)) := by
  rw [List.take_add_one, hz, List.filter_append]
  simp [h]
/-- a policy and a triple in boxes, as they came -/
structure Bq (F : Pf) (t : X.K3) (q2 q3 : Nat) (w V : World) : Prop where
  b : Below w.heap.size w V
  h2 : V.heap[q2]? = some (.cells F.arr 34 (0, 0))
  h3 : V.heap[q3]? = some (.cells #[.string t.1, .string t.2.1, .string t.2.2] 36 (0, 0))
theorem Bq.below {F : Pf} {t : X.K3} {q2 q3 : Nat} {w V V' : World} (h : Bq F t q2 q3 w V) (b : Below V.heap.size V V') : Bq F t q2 q3 w V' := ⟨h.b.trans (b.mono h.b.size), (b.block _ (lt_of_heap h.h2)).trans h.h2, (b.block _ (lt_of_heap h.h3)).trans h.h3⟩
theorem bq_new (F : Pf) (t : X.K3) (w : World) : Bq F t w.heap.size (w.heap.size + 1) w ((w.alloc (.cells F.arr 34)).alloc (.cells #[.string t.1, .string t.2.1, .string t.2.2] 36)) := by
  have a1 := heap_alloc_new w (.cells F.arr 34)
  have a2 := heap_alloc_new (w.alloc (.cells F.arr 34)) (.cells #[.string t.1, .string t.2.1, .string t.2.2] 36)
  have z1 : (w.alloc (.cells F.arr 34)).heap.size = w.heap.size + 1 := by simp
  rw [z1] at a2
  exact ⟨((Below.refl _ _).alloc (Nat.le_refl _) _).alloc (by simp) _, (Below.heap_alloc _ _ _ (by omega)).trans a1, a2⟩
set_option maxRecDepth 100000 in
set_option maxHeartbeats 8000000 in
theorem meanExcept_walk (F : Pf) (N : Nat) (t : X.K3) (w : World) (h : F.In w) (f : Fine F N) (hN : N < 1048576) (ht : t.1.size ≤ N + 1 ∧ t.2.1.size ≤ N + 1 ∧ t.2.2.size ≤ N + 1) (ht2 : t.1.size ≤ 1048576 ∧ t.2.1.size ≤ 1048576 ∧ t.2.2.size ≤ 1048576) : Calls Try.prog 13 #[.agg F.arr, .agg #[.string t.1, .string t.2.1, .string t.2.2]] w fun e w' => e = .returned (.bool true) ∧ Below w.heap.size w w' := by
  have H := hide' h
  have Hf := hide' f
  have Ht := hide' (And.intro hN (And.intro ht ht2))
  clear h f hN ht ht2
  go_enter Try.func13, Try.ntmps13
  go_wp2_with fail
  have B0 := hide' (bq_new F t w)
  generalize (w.alloc (.cells F.arr 34)).alloc (.cells #[.string t.1, .string t.2.1, .string t.2.2] 36) = V at *
  obtain ⟨q2, hq2⟩ : ∃ q2, q2 = w.heap.size := ⟨_, rfl⟩
  generalize hq3 : w.heap.size + 1 = q3 at *
  rw [← hq2] at B0
  rw [← hq2]
  clear hq2 hq3
  refine (alive_any V).mono ?_
  rintro e V1 ⟨rfl, b1⟩
  have B1 := hide' (B0.out.below b1)
  clear B0 b1 V
  go_wp2_with (with_reducible refine stay_load 34 _ rfl ?_)
  unfold Stay
  refine wpList_load_row rfl 34 _ rfl q2 rfl 34 F.arr (0, 0) _ B1.out.h2 Try.underlying34 rfl (size_arr F) ?_
  go_wp2_with fail
  refine (vast_call F N V1 Hf.out).mono ?_
  rintro e V2 ⟨rfl, b2⟩
  have B2 := hide' (B1.out.below b2)
  clear B1 b2 V1
  cases hv : vst F.s.2.2.length F.o.2.2.length F.a.2.2.length with
  | true =>
    clear hv
    go_wp2_with fail
    go_ret
    exact ⟨rfl, B2.out.b⟩
  | false =>
  have Hv := hide' (vst_few hv)
  clear hv
  go_wp2_with (with_reducible refine stay_load 34 _ rfl ?_)
  unfold Stay
  refine wpList_load_row rfl 34 _ rfl q2 rfl 34 F.arr (0, 0) _ B2.out.h2 Try.underlying34 rfl (size_arr F) ?_
  go_wp2_with fail
  refine (twin_any F V2 (H.out.below B2.out.b) Hf.out.small).mono ?_
  rintro e V3 ⟨J, rfl, tw, rs, ur, b3⟩
  have TW := hide' tw
  have B3 := hide' (B2.out.below b3)
  go_wp2_with (with_reducible refine stay_store 34 _ _ rfl ?_)
  unfold Stay
  refine wpList_store_row rfl 34 _ _ rfl V3.heap.size J.arr rfl rfl 34 _ (heap_alloc_new V3 _) (size_arr _) rfl (by simp [Pf.arr, Value.oneCell']) ?_
  rw [World.setRow_alloc_new]
  have P4 := hide' (ps_new b3.size rs ur)
  have b4 : Below V3.heap.size V3 (V3.alloc (.cells J.arr 34)) := (Below.refl _ _).alloc (Nat.le_refl _) _
  have B4 := hide' (B3.out.below b4)
  have D4 := hide' (b3.trans (b4.mono b3.size))
  clear tw rs ur b3 b4 B3
  generalize V3.alloc (.cells J.arr 34) = V4 at *
  generalize V3.heap.size = q7 at *
  clear V3
  have y10 : V4.cell? ⟨q7, 10, none⟩ = some (.slice J.x.1 J.x.2.2.length J.x.2.1) := P4.out.c 10
  have hxl : J.x.2.2.length ≤ 1048576 := by rw [TW.out.x]; exact Nat.le_trans Hf.out.x Hf.out.n
  have Hxl := hide' hxl
  clear hxl
  go_wp2_with (with_reducible refine stay_load 36 _ rfl ?_)
  unfold Stay
  refine wpList_load_row rfl 36 _ rfl q3 rfl 36 #[.string t.1, .string t.2.1, .string t.2.2] (0, 0) _ B4.out.h3 Try.underlying36 rfl (by kernel_rfl) ?_
  go_wp2_with (at_builtin; refine stay_app _ _ _ rfl ?_)
  unfold Stay
  refine X.wpList_app1 V4 rfl _ _ rfl V2.heap.size J.x.1 J.x.2.1 J.x.2.2 t 36 _ rfl P4.out.rs.x rfl (by have := Hxl.out; show _ < _; omega) D4.out.size ?_
  intro g cap V5 r5 t5 hg hl5
  have AX := hide' (P4.out.appx t5 r5)
  have k10 : V5.cell? ⟨q7, 10, none⟩ = some (.slice J.x.1 J.x.2.2.length J.x.2.1) := by rw [Lib.cell_of_heap AX.out.2]; rfl
  have f10 : V5.frozen? ⟨q7, 10, none⟩ = false := Lib.frozen_of_heap AX.out.2 10
  have D5 : Hid (Below V2.heap.size V2 (V5.setCell ⟨q7, 10, none⟩ (.slice (some ⟨g, 0, none⟩) (J.x.2.2.length + 1) cap))) := (D4.out.trans (below_own t5 (fun j q => (P4.out.rs.x.lt j q).1) D4.out.size)).trans (below_own (set_turn q7 10 _ V5) (fun j q => by rw [q]; exact P4.out.l) (Nat.le_trans D4.out.size t5.size))
  clear hg hl5 r5 t5 P4 D4 y10
  go_wp2_with (with_reducible refine stay_load 34 _ rfl ?_)
  unfold Stay
  have P5 := hide' AX.out.1
  have B5 := hide' (B2.out.below D5.out)
  clear AX k10 f10
  generalize V5.setCell ⟨q7, 10, none⟩ (.slice (some ⟨g, 0, none⟩) (J.x.2.2.length + 1) cap) = V5' at *
  obtain ⟨J', hJ'⟩ : ∃ J' : Pf, J' = { J with x := (some ⟨g, 0, none⟩, cap, J.x.2.2 ++ [t]) } := ⟨_, rfl⟩
  have RE : Hid (rel J' = (rel F).filter (fun u => !decide (u = t))) := by rw [hJ']; exact rel_ex TW.out t
  have FE : Hid (Fine J' (N + 1)) := by rw [hJ']; exact fine_ex (TW.out.fine Hf.out) Ht.out.1 t Ht.out.2.1
  have FW : Hid ((fos J'.s.2.2).length * ((fo J'.o.2.2).length * (fo J'.a.2.2).length) ≤ 65536) := by
    rw [hJ']
    show _ ≤ _
    rw [few_nm (F := F) (J := { J with x := (some ⟨g, 0, none⟩, cap, J.x.2.2 ++ [t]) }) ⟨TW.out.a, TW.out.s, TW.out.o, TW.out.m, TW.out.i, TW.out.p, TW.out.w⟩]
    exact Hv.out
  have AE : Hid (alw J' t.1 t.2.1 t.2.2 = false) := by
    rw [hJ']
    have q := alt_ex TW.out (o := some ⟨g, 0, none⟩) (c := cap) t t
    rw [decide_eq_true rfl, Bool.not_true, Bool.and_false] at q
    exact q
  rw [← hJ'] at P5
  clear hJ' B4
  refine wpList_load_row rfl 34 _ rfl q2 rfl 34 F.arr (0, 0) _ B5.out.h2 Try.underlying34 rfl (size_arr F) ?_
  go_wp2_with fail
  refine (rel_call F N _ (H.out.below B5.out.b) Hf.out Hv.out).mono ?_
  rintro e V6 ⟨oo, oc, rfl, ro, b6⟩
  have B6 := hide' (B5.out.below b6)
  have P6 := hide' (P5.out.below b6)
  have RO := hide' ro
  have hR6 : Hid ((rel F).length ≤ 65536) := by
    have q1 := relA_len F (fo F.a.2.2) (fo F.o.2.2) (fos F.s.2.2)
    have q2 := Hv.out
    show (relA F _ _ _).length ≤ _
    omega
  clear ro b6 B5 P5 D5
  obtain ⟨R, hR⟩ : ∃ R, R = rel F := ⟨_, rfl⟩
  rw [← hR] at RO hR6 RE
  rw [← hR]
  clear hR
  have hRl : (R.length : Int) ≤ 65536 := by have := hR6.out; omega
  have hoc := RO.out.cap
  go_wp2_with fail
  go_loopw [9, 10] (fun wv iv wx => ∃ (i : Nat) (wo : Option Addr) (wc : Nat), iv = .int .i64 (i : Int) ∧ i ≤ R.length ∧ wv = .slice wo ((R.take i).filter (fun u => !decide (u = t))).length wc ∧ Hid (Below V6.heap.size V6 wx ∧ X.RowI V6.heap.size wo wc ((R.take i).filter (fun u => !decide (u = t))) wx)) (fun _ iv _ => R.length - (intOf iv).toNat)
  case atStart => exact ⟨0, none, 0, rfl, Nat.zero_le _, rfl, Below.refl _ _, X.RowI.nil _ _⟩
  case round =>
    obtain ⟨i, wo, wc, rfl, hi, rfl, HM⟩ := hrel
    by_cases hlt : i < R.length
    · have hlt' : (i : Int) < (R.length : Int) := by omega
      obtain ⟨z, hz⟩ : ∃ z, R[i]? = some z := ⟨_, List.getElem?_eq_getElem hlt⟩
      obtain ⟨y, off, hy, hyl, d1, d2, d3⟩ := (RO.out.ints.below HM.out.1).at hz
      have hb3 := (B6.out.below HM.out.1).h3
      have f1 : wr.cell? ⟨q3, 0, none⟩ = some (.string t.1) := by rw [Lib.cell_of_heap hb3]; rfl
      have f2 : wr.cell? ⟨q3, 1, none⟩ = some (.string t.2.1) := by rw [Lib.cell_of_heap hb3]; rfl
      have f3 : wr.cell? ⟨q3, 2, none⟩ = some (.string t.2.2) := by rw [Lib.cell_of_heap hb3]; rfl
      have Hz := hide' hz
      have Hy := hide' hy
      rw [hy]
      clear hb3 hz hy hyl
      by_cases q1 : z.1 = t.1
      · by_cases q2 : z.2.1 = t.2.1
        · by_cases q3 : z.2.2 = t.2.2
          · have e : z = t := Prod.ext q1 (Prod.ext q2 q3)
            have g1 : (z.1.toList == t.1.toList) = true := by rw [q1]; exact text_eq _
            have g2 : (z.2.1.toList == t.2.1.toList) = true := by rw [q2]; exact text_eq _
            have g3 : (z.2.2.toList == t.2.2.toList) = true := by rw [q3]; exact text_eq _
            clear q1 q2 q3
            have HF := hide' (filt_no Hz.out e)
            clear e
            go_wp2_with fail
            go_quiet (fail)
            go_wp2_with fail
            exact ⟨⟨i + 1, wo, wc, by go_num, by omega, by rw [HF.out], by rw [HF.out]; exact ⟨HM.out.1.trans (bdrew wr nq), HM.out.2.below (bdrew wr nq)⟩⟩, by simp [intOf]; omega⟩
          · have e : z ≠ t := fun e => q3 (by rw [e])
            have g1 : (z.1.toList == t.1.toList) = true := by rw [q1]; exact text_eq _
            have g2 : (z.2.1.toList == t.2.1.toList) = true := by rw [q2]; exact text_eq _
            have g3 : (z.2.2.toList == t.2.2.toList) = false := text_ne q3
            clear q1 q2 q3
            go_wp2_with fail
            go_quiet (fail)
            have bq := hide' (HM.out.2.below (bdrew wr nq))
            have HM2 := hide' (HM.out.1.trans (bdrew (B := V6.heap.size) wr nq))
            have dd1 : (wr.drewN nq).cell? ⟨y, off + i * 3, none⟩ = some (.string z.1) := d1
            have dd2 : (wr.drewN nq).cell? ⟨y, off + i * 3 + 1, none⟩ = some (.string z.2.1) := d2
            have dd3 : (wr.drewN nq).cell? ⟨y, off + i * 3 + 2, none⟩ = some (.string z.2.2) := d3
            clear HM d1 d2 d3 f1 f2 f3
            generalize wr.drewN nq = wq at *
            go_wp2_with (at_builtin; refine stay_app _ _ _ rfl ?_)
            unfold Stay
            refine X.wpList_app1 wq rfl _ _ rfl V6.heap.size wo wc _ z 36 _ rfl bq.out rfl (by have := List.length_filter_le (fun u => !decide (u = t)) (R.take i); have := List.length_take_le i R; show _ < _; omega) HM2.out.size ?_
            intro g cap wz r8 t8 hg hl8
            have HM3 := hide' (And.intro (HM2.out.trans (below_own t8 (fun j q => (bq.out.lt j q).1) HM2.out.size)) r8)
            clear hg hl8 r8 t8 bq HM2
            go_wp2_with fail
            exact ⟨⟨i + 1, _, _, by go_num, by omega, by rw [filt_yes Hz.out e, List.length_append]; rfl, by rw [filt_yes Hz.out e]; exact HM3⟩, by simp [intOf]; omega⟩
        · have e : z ≠ t := fun e => q2 (by rw [e])
          have g1 : (z.1.toList == t.1.toList) = true := by rw [q1]; exact text_eq _
          have g2 : (z.2.1.toList == t.2.1.toList) = false := text_ne q2
          clear q1 q2
          go_wp2_with fail
          go_quiet (fail)
          have bq := hide' (HM.out.2.below (bdrew wr nq))
          have HM2 := hide' (HM.out.1.trans (bdrew (B := V6.heap.size) wr nq))
          have dd1 : (wr.drewN nq).cell? ⟨y, off + i * 3, none⟩ = some (.string z.1) := d1
          have dd2 : (wr.drewN nq).cell? ⟨y, off + i * 3 + 1, none⟩ = some (.string z.2.1) := d2
          have dd3 : (wr.drewN nq).cell? ⟨y, off + i * 3 + 2, none⟩ = some (.string z.2.2) := d3
          clear HM d1 d2 d3 f1 f2 f3
          generalize wr.drewN nq = wq at *
          go_wp2_with (at_builtin; refine stay_app _ _ _ rfl ?_)
          unfold Stay
          refine X.wpList_app1 wq rfl _ _ rfl V6.heap.size wo wc _ z 36 _ rfl bq.out rfl (by have := List.length_filter_le (fun u => !decide (u = t)) (R.take i); have := List.length_take_le i R; show _ < _; omega) HM2.out.size ?_
          intro g cap wz r8 t8 hg hl8
          have HM3 := hide' (And.intro (HM2.out.trans (below_own t8 (fun j q => (bq.out.lt j q).1) HM2.out.size)) r8)
          clear hg hl8 r8 t8 bq HM2
          go_wp2_with fail
          exact ⟨⟨i + 1, _, _, by go_num, by omega, by rw [filt_yes Hz.out e, List.length_append]; rfl, by rw [filt_yes Hz.out e]; exact HM3⟩, by simp [intOf]; omega⟩
      · have e : z ≠ t := fun e => q1 (by rw [e])
        have g1 : (z.1.toList == t.1.toList) = false := text_ne q1
        clear q1
        go_wp2_with fail
        go_quiet (fail)
        have bq := hide' (HM.out.2.below (bdrew wr nq))
        have HM2 := hide' (HM.out.1.trans (bdrew (B := V6.heap.size) wr nq))
        have dd1 : (wr.drewN nq).cell? ⟨y, off + i * 3, none⟩ = some (.string z.1) := d1
        have dd2 : (wr.drewN nq).cell? ⟨y, off + i * 3 + 1, none⟩ = some (.string z.2.1) := d2
        have dd3 : (wr.drewN nq).cell? ⟨y, off + i * 3 + 2, none⟩ = some (.string z.2.2) := d3
        clear HM d1 d2 d3 f1 f2 f3
        generalize wr.drewN nq = wq at *
        go_wp2_with (at_builtin; refine stay_app _ _ _ rfl ?_)
        unfold Stay
        refine X.wpList_app1 wq rfl _ _ rfl V6.heap.size wo wc _ z 36 _ rfl bq.out rfl (by have := List.length_filter_le (fun u => !decide (u = t)) (R.take i); have := List.length_take_le i R; show _ < _; omega) HM2.out.size ?_
        intro g cap wz r8 t8 hg hl8
        have HM3 := hide' (And.intro (HM2.out.trans (below_own t8 (fun j q => (bq.out.lt j q).1) HM2.out.size)) r8)
        clear hg hl8 r8 t8 bq HM2
        go_wp2_with fail
        exact ⟨⟨i + 1, _, _, by go_num, by omega, by rw [filt_yes Hz.out e, List.length_append]; rfl, by rw [filt_yes Hz.out e]; exact HM3⟩, by simp [intOf]; omega⟩
    · have hk : i = R.length := by omega
      have hlt' : ¬ (i : Int) < (R.length : Int) := by omega
      have HM2 := HM
      rw [hk, List.take_length] at HM2
      rw [hk, List.take_length, ← hk]
      clear HM hk
      go_wp2_with (with_reducible refine stay_load 34 _ rfl ?_)
      unfold Stay
      clear hlt hlt' hi
      have P7 := hide' (P6.out.below HM2.out.1)
      have B7 := hide' (B6.out.below HM2.out.1)
      refine wpList_load_w (by rfl) 34 _ rfl q7 rfl 34 J'.arr (0, 0) _ P7.out.h Try.underlying34 rfl (size_arr _) ?_
      go_wp2_with fail
      refine (rel_call J' (N + 1) wr P7.out.pin FE.out FW.out).mono ?_
      rintro e V8 ⟨to, tc, rfl, r8, b8⟩
      have P8 := hide' (P7.out.below b8)
      have B8 := hide' (B7.out.below b8)
      rw [RE.out] at r8
      rw [RE.out]
      have E8 := hide' (And.intro (And.intro r8.ints r8.cap) (And.intro (HM2.out.2.below b8).ints HM2.out.2.cap))
      have hfl : Hid (((R.filter (fun u => !decide (u = t))).length : Int) < 1099511627777) := by have := List.length_filter_le (fun u => !decide (u = t)) R; have := hR6.out; show _ < _; omega
      clear r8 b8 HM2 P7 B7
      go_wp2_with fail
      refine (equal_self to wo tc wc (R.filter (fun u => !decide (u = t))) V8 E8.out.1.1 E8.out.2.1 E8.out.1.2 E8.out.2.2 hfl.out).mono ?_
      rintro e V9 ⟨rfl, b9⟩
      have P9 := hide' (P8.out.below b9)
      have B9 := hide' (B8.out.below b9)
      clear b9 P8 B8 E8
      go_wp2_with (with_reducible refine stay_load 34 _ rfl ?_)
      unfold Stay
      refine wpList_load_w (by rfl) 34 _ rfl q7 rfl 34 J'.arr (0, 0) _ P9.out.h Try.underlying34 rfl (size_arr _) ?_
      go_wp2_with (with_reducible refine stay_load 36 _ rfl ?_)
      unfold Stay
      refine wpList_load_w (by rfl) 36 _ rfl q3 rfl 36 #[.string t.1, .string t.2.1, .string t.2.2] (0, 0) _ B9.out.h3 Try.underlying36 rfl (by kernel_rfl) ?_
      go_wp2_with fail
      refine (alw_call J' (N + 1) t.1 t.2.1 t.2.2 V9 P9.out.pin FE.out Ht.out.2.2).mono ?_
      rintro e V10 ⟨rfl, b10⟩
      rw [AE.out]
      have B10 := hide' (B9.out.below b10)
      clear b10 B9 P9
      go_wp2_with fail
      go_ret
      exact ⟨rfl, B10.out.b⟩
end U
end Go.Proofs.Ytdhmommfmmiieaa
