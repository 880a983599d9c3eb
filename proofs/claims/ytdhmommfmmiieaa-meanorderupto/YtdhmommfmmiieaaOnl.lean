import Derived.Test.YtdhmommfmmiieaaPqr
set_option linter.unusedVariables false
set_option linter.unusedSimpArgs false
namespace Go.Proofs.Ytdhmommfmmiieaa
open Go.RowKit Go.Maps
namespace U
/-- a rule, made one that allows -/
def Ru.alo (R : Ru) : Ru := { R with d := .bool false }
def onl (dn : Bool) (us : List Ru) : List Ru := (us.filter (fun R => den R == dn)).map Ru.alo
theorem onl_yes {us : List Ru} {i : Nat} {R : Ru} {dn : Bool} (h : us[i]? = some R) (hd : den R = dn) : onl dn (us.take (i + 1)) = onl dn (us.take i) ++ [R.alo] := by
  unfold onl
  rw [List.take_add_one, h, List.filter_append, List.map_append]
  simp [hd]
theorem onl_no {us : List Ru} {i : Nat} {R : Ru} {dn : Bool} (h : us[i]? = some R) (hd : den R ≠ dn) : onl dn (us.take (i + 1)) = onl dn (us.take i) := by
  unfold onl
  rw [List.take_add_one, h, List.filter_append, List.map_append]
  simp [hd]
theorem onl_len (dn : Bool) (us : List Ru) : (onl dn us).length ≤ us.length := by unfold onl; rw [List.length_map]; exact List.length_filter_le _ _
theorem Pq.box {w0 : World} {B q q' : Nat} {J : Pf} {V V' : World} {c : Array Value} (p : Pq w0 B q J V) (t : Turn (fun j => j = q') V V') (hq : V.heap[q']? = some (.cells c 27 (0, 0))) (hu : ∀ j, G.At J.u.1 j → j ≠ q') : Pq w0 B q J V' := by
  have hT : Soft2 (fun j => j = q') V := fun j e => by
    have e' : j = q' := e
    subst e'
    exact ⟨_, 27, hq, .inr rfl⟩
  exact ⟨(t.block _ (lt_of_heap p.h) (cells_ne p.h hq (by decide))).trans p.h, p.l, p.rs.turn t hT, p.u.turn t hu⟩
theorem stay_fa5 {P : Program} {ops : Array Oper} {rest : List Oper} {o : Oper} {a : Act} {Q : Exit → Act → World → Prop} {w : World} {k : Nat} (ho : o.op = .fieldAddr 34 (.tmp 5) k) (h : Stay (wpList P ops Q (o :: rest) a w)) : wpList P ops Q (o :: rest) a w := h
structure OnlIs (F : Pf) (dn : Bool) (J : Pf) : Prop where
  nm : Nm F J
  r : J.r.2.2 = F.r.2.2
  g : J.g.2.2 = F.g.2.2
  x : J.x.2.2 = []
  u : J.u.2.2 = onl dn F.u.2.2
set_option maxRecDepth 100000 in
set_option maxHeartbeats 8000000 in
theorem only_any (F : Pf) (dn : Bool) (w : World) (h : F.In w) (hs : F.Small) : Calls Try.prog 36 #[.agg F.arr, .bool dn] w fun e w' => ∃ J : Pf, e = .returned (.agg J.arr) ∧ OnlIs F dn J ∧ J.In w' ∧ Below w.heap.size w w' := by
  have H := hide' h
  have Hs := hide' hs
  have hul : (F.u.2.2.length : Int) ≤ 1048576 := by have := hs.u; omega
  have hcu := h.u.2.1
  clear h hs
  go_enter Try.func36, Try.ntmps36
  go_wp2_with (with_reducible refine stay_load 34 _ rfl ?_)
  unfold Stay
  have K0 : Hid (Below w.heap.size w ((w.alloc (.cells F.arr 34)).alloc (.cells #[.slice none 0 0, .slice none 0 0, .slice none 0 0, .slice none 0 0, .slice none 0 0, .slice none 0 0, .slice none 0 0, .slice none 0 0, .slice none 0 0, .slice none 0 0, .slice none 0 0] 34)) ∧ ((w.alloc (.cells F.arr 34)).alloc (.cells #[.slice none 0 0, .slice none 0 0, .slice none 0 0, .slice none 0 0, .slice none 0 0, .slice none 0 0, .slice none 0 0, .slice none 0 0, .slice none 0 0, .slice none 0 0, .slice none 0 0] 34)).heap[w.heap.size]? = some (.cells F.arr 34 (0, 0)) ∧ ((w.alloc (.cells F.arr 34)).alloc (.cells #[.slice none 0 0, .slice none 0 0, .slice none 0 0, .slice none 0 0, .slice none 0 0, .slice none 0 0, .slice none 0 0, .slice none 0 0, .slice none 0 0, .slice none 0 0, .slice none 0 0] 34)).heap[w.heap.size + 1]? = some (.cells #[.slice none 0 0, .slice none 0 0, .slice none 0 0, .slice none 0 0, .slice none 0 0, .slice none 0 0, .slice none 0 0, .slice none 0 0, .slice none 0 0, .slice none 0 0, .slice none 0 0] 34 (0, 0))) := by
    have B := allocs_below [.cells F.arr 34, .cells #[.slice none 0 0, .slice none 0 0, .slice none 0 0, .slice none 0 0, .slice none 0 0, .slice none 0 0, .slice none 0 0, .slice none 0 0, .slice none 0 0, .slice none 0 0, .slice none 0 0] 34] w
    have g := allocs_get [.cells F.arr 34, .cells #[.slice none 0 0, .slice none 0 0, .slice none 0 0, .slice none 0 0, .slice none 0 0, .slice none 0 0, .slice none 0 0, .slice none 0 0, .slice none 0 0, .slice none 0 0, .slice none 0 0] 34] w
    exact ⟨B, g 0 _ rfl, g 1 _ rfl⟩
  generalize (w.alloc (.cells F.arr 34)).alloc (.cells #[.slice none 0 0, .slice none 0 0, .slice none 0 0, .slice none 0 0, .slice none 0 0, .slice none 0 0, .slice none 0 0, .slice none 0 0, .slice none 0 0, .slice none 0 0, .slice none 0 0] 34) = V at *
  obtain ⟨b4, hb4⟩ : ∃ b4, b4 = w.heap.size + 1 := ⟨_, rfl⟩
  obtain ⟨b2, hb2⟩ : ∃ b2, b2 = w.heap.size := ⟨_, rfl⟩
  rw [← hb4] at K0
  rw [← hb4]
  have HL : Hid (w.heap.size ≤ b4) := by show _ ≤ _; omega
  rw [← hb2]
  have K1 : Hid (Below w.heap.size w V ∧ V.heap[b2]? = some (.cells F.arr 34 (0, 0)) ∧ V.heap[b4]? = some (.cells #[.slice none 0 0, .slice none 0 0, .slice none 0 0, .slice none 0 0, .slice none 0 0, .slice none 0 0, .slice none 0 0, .slice none 0 0, .slice none 0 0, .slice none 0 0, .slice none 0 0] 34 (0, 0))) := by rw [hb2]; exact K0
  clear K0 hb2 hb4
  refine wpList_load_row rfl 34 _ rfl b2 rfl 34 F.arr (0, 0) _ K1.out.2.1 Try.underlying34 rfl (size_arr F) ?_
  go_wp2_with fail
  refine (twin_any F V (H.out.below K1.out.1) Hs.out).mono ?_
  rintro e V4 ⟨J, rfl, tw, rs, ur, d4⟩
  have TW := hide' tw
  go_wp2_with (with_reducible refine stay_store 34 _ _ rfl ?_)
  unfold Stay
  refine wpList_store_row rfl 34 _ _ rfl V4.heap.size J.arr rfl rfl 34 _ (heap_alloc_new V4 _) (size_arr _) rfl (by simp [Pf.arr, Value.oneCell']) ?_
  rw [World.setRow_alloc_new]
  have P5 : Hid (Pq w V.heap.size V4.heap.size J (V4.alloc (.cells J.arr 34))) := (ps_new d4.size rs ur).pq
  have b5 : Below V4.heap.size V4 (V4.alloc (.cells J.arr 34)) := (Below.refl _ _).alloc (Nat.le_refl _) _
  have D5 := hide' (d4.trans (b5.mono d4.size))
  clear tw rs ur d4 b5
  generalize V4.alloc (.cells J.arr 34) = V5 at *
  generalize V4.heap.size = q5 at *
  clear V4
  have y9 : V5.cell? ⟨q5, 9, none⟩ = some (.slice J.u.1 J.u.2.2.length J.u.2.1) := P5.out.c 9
  have f9 : V5.frozen? ⟨q5, 9, none⟩ = false := P5.out.f 9
  have P6 : Hid (Pq w V.heap.size q5 { J with u := (none, 0, []) } (V5.setCell ⟨q5, 9, none⟩ (.slice none 0 0))) := Pq.put P5.out.h P5.out.l 9 _ (by show _ = Pf.arr _; simp [Pf.arr]) ⟨P5.out.rs.a, P5.out.rs.s, P5.out.rs.r, P5.out.rs.o, P5.out.rs.g, P5.out.rs.m, P5.out.rs.i, P5.out.rs.p, P5.out.rs.w, (fun R hR => by cases hR), P5.out.rs.x⟩ (G.RowI.nil _ _ _ _)
  have D6 : Hid (Below V.heap.size V (V5.setCell ⟨q5, 9, none⟩ (.slice none 0 0))) := D5.out.trans (below_own (set_turn q5 9 _ V5) (fun j q => by rw [q]; exact P5.out.l) D5.out.size)
  go_wp2_with (with_reducible refine stay_fa5 (k := 10) rfl ?_)
  unfold Stay
  clear y9 f9 P5 D5
  generalize V5.setCell ⟨q5, 9, none⟩ (.slice none 0 0) = V6 at *
  have y10 : V6.cell? ⟨q5, 10, none⟩ = some (.slice J.x.1 J.x.2.2.length J.x.2.1) := P6.out.c 10
  have f10 : V6.frozen? ⟨q5, 10, none⟩ = false := P6.out.f 10
  have P7 : Hid (Pq w V.heap.size q5 { J with u := (none, 0, []), x := (none, 0, []) } (V6.setCell ⟨q5, 10, none⟩ (.slice none 0 0))) := Pq.put P6.out.h P6.out.l 10 _ (by show _ = Pf.arr _; simp [Pf.arr]) ⟨P6.out.rs.a, P6.out.rs.s, P6.out.rs.r, P6.out.rs.o, P6.out.rs.g, P6.out.rs.m, P6.out.rs.i, P6.out.rs.p, P6.out.rs.w, (fun R hR => by cases hR), X.RowI.nil _ _⟩ (G.RowI.nil _ _ _ _)
  have D7 : Hid (Below V.heap.size V (V6.setCell ⟨q5, 10, none⟩ (.slice none 0 0))) := D6.out.trans (below_own (set_turn q5 10 _ V6) (fun j q => by rw [q]; exact P6.out.l) D6.out.size)
  go_wp2_with fail
  clear y10 f10 P6 D6
  generalize V6.setCell ⟨q5, 10, none⟩ (.slice none 0 0) = V7 at *
  go_loopw [6] (fun iv wx => ∃ (i : Nat) (uo : Option Addr) (uc : Nat), iv = .int .i64 (i : Int) ∧ i ≤ F.u.2.2.length ∧ Hid (Below V.heap.size V wx ∧ Pq w V.heap.size q5 { J with u := (uo, uc, onl dn (F.u.2.2.take i)), x := (none, 0, []) } wx)) (fun iv _ => F.u.2.2.length - (intOf iv).toNat)
  case atStart => exact ⟨0, none, 0, rfl, Nat.zero_le _, D7.out, P7.out⟩
  case round =>
    obtain ⟨i, uo, uc, rfl, hi, PD⟩ := hrel
    clear P7 D7
    have hb2 := (PD.out.1.block _ (lt_of_heap K1.out.2.1)).trans K1.out.2.1
    have y1 : wr.cell? ⟨b2, 9, none⟩ = some (.slice F.u.1 F.u.2.2.length F.u.2.1) := by rw [Lib.cell_of_heap hb2]; rfl
    clear hb2
    by_cases hlt : i < F.u.2.2.length
    · have hlt' : (i : Int) < (F.u.2.2.length : Int) := by omega
      have IN := hide' (H.out.below (K1.out.1.trans (PD.out.1.mono K1.out.1.size)))
      obtain ⟨R, hR⟩ : ∃ R, F.u.2.2[i]? = some R := ⟨_, List.getElem?_eq_getElem hlt⟩
      obtain ⟨ub, uoff, huo, hub, hc⟩ := IN.out.u.1.1.at (show (F.u.2.2.map Ru.cells)[i]? = some R.cells by rw [List.getElem?_map, hR]; rfl)
      obtain ⟨hRo, ⟨bv, hbv⟩, hRl⟩ := H.out.u.1.2 R (List.mem_of_getElem? hR)
      have HRo := hide' (And.intro hRo hRl)
      have RG : Hid (wr.rangeAt ub (uoff + i * 6) R.cells) := fun j v hv => hc j v hv
      have c0 : wr.cell? ⟨ub, uoff + i * 6, none⟩ = some (.bool bv) := by have := hc 0 R.d rfl; rw [hbv] at this; exact this
      have HRi := hide' hR
      have HRd : Hid (den R = bv) := by show _ = _; unfold den; rw [hbv]
      have Hbv := hide' hbv
      have HuL : Hid ((onl dn (F.u.2.2.take i)).length ≤ i) := by have := onl_len dn (F.u.2.2.take i); have := List.length_take_le i F.u.2.2; show _ ≤ _; omega
      rw [huo] at y1
      have Huo := hide' huo
      clear hR hbv hRl hRo hc huo hub IN
      by_cases hd : bv = dn
      · subst hd
        have OY := hide' (onl_yes HRi.out HRd.out)
        have gg : (bv == bv) = true := by simp
        go_wp2_with (with_reducible refine stay_load 27 _ rfl ?_)
        unfold Stay
        refine wpList_load_mid rfl 27 _ rfl ub (uoff + i * 6) rfl R.cells _ RG.out Try.underlying27 rfl (by kernel_rfl) ?_
        go_wp2_with (with_reducible refine stay_store 27 _ _ rfl ?_)
        unfold Stay
        refine wpList_store_row rfl 27 _ _ rfl wr.heap.size R.cells.toArray rfl rfl 27 _ (heap_alloc_new wr _) (by kernel_rfl) rfl (by simp [Ru.cells, Hbv.out, Value.oneCell']) ?_
        rw [World.setRow_alloc_new]
        have q5' : Hid ((wr.alloc (.cells R.cells.toArray 27)).heap[wr.heap.size]? = some (.cells R.cells.toArray 27 (0, 0))) := heap_alloc_new wr _
        have b5 : Hid (Below wr.heap.size wr (wr.alloc (.cells R.cells.toArray 27))) := (Below.refl _ _).alloc (Nat.le_refl _) _
        generalize wr.alloc (.cells R.cells.toArray 27) = X5 at *
        have hus : Hid (∀ j, G.At uo j → j ≠ wr.heap.size) := fun j q e => by have := (PD.out.2.u.lt j q).2; omega
        have hl5 : Hid (V.heap.size ≤ wr.heap.size) := PD.out.1.size
        have PE := hide' (And.intro (PD.out.1.trans (b5.out.mono PD.out.1.size)) (PD.out.2.below b5.out))
        clear PD b5 RG y1 c0
        generalize wr.heap.size = q at *
        have z0 : X5.cell? ⟨q, 0, none⟩ = some (.bool bv) := by rw [Lib.cell_of_heap q5'.out]; show some R.d = _; rw [Hbv.out]
        have z1 : X5.frozen? ⟨q, 0, none⟩ = false := Lib.frozen_of_heap q5'.out 0
        have TU : Hid (Turn (fun j => j = q) X5 (X5.setCell ⟨q, 0, none⟩ (.bool false))) := set_turn q 0 _ X5
        have q7 : Hid ((X5.setCell ⟨q, 0, none⟩ (.bool false)).heap[q]? = some (.cells #[.bool false, .string R.who, .string R.what, .slice R.ro R.rl.length R.rc, .int .i8 R.cd, .float .f64 R.lv] 27 (0, 0))) := by show _ = _; rw [heap_set q5'.out]; rfl
        have PF := hide' (And.intro (PE.out.1.trans (below_own TU.out (fun j e => by rw [e]; exact hl5.out) PE.out.1.size)) (PE.out.2.box TU.out q5'.out hus.out))
        go_wp2_with (with_reducible refine stay_fa5 (k := 9) rfl ?_)
        unfold Stay
        clear z0 z1 TU q5' PE hus hl5
        generalize X5.setCell ⟨q, 0, none⟩ (.bool false) = X6 at *
        have y9 : X6.cell? ⟨q5, 9, none⟩ = some (.slice uo (onl bv (F.u.2.2.take i)).length uc) := PF.out.2.c 9
        go_wp2_with (with_reducible refine stay_load 27 _ rfl ?_)
        unfold Stay
        refine wpList_load_row rfl 27 _ rfl q rfl 27 #[.bool false, .string R.who, .string R.what, .slice R.ro R.rl.length R.rc, .int .i8 R.cd, .float .f64 R.lv] (0, 0) _ q7.out Try.underlying27 rfl (by kernel_rfl) ?_
        go_wp2_with (at_builtin; refine stay_app _ _ _ rfl ?_)
        unfold Stay
        have hcl : ((onl bv (F.u.2.2.take i)).map Ru.cells).length = (onl bv (F.u.2.2.take i)).length := List.length_map _
        refine G.wpList_app1 X6 rfl _ _ 31 27 6 80 _ rfl Try.underlying31 G.info27 rfl (by decide) (by decide) V.heap.size uo uc ((onl bv (F.u.2.2.take i)).map Ru.cells) [.bool false, .string R.who, .string R.what, .slice R.ro R.rl.length R.rc, .int .i8 R.cd, .float .f64 R.lv] rfl (by simp [Value.oneCell']) 27 _ (by rw [hcl]; rfl) PF.out.2.u rfl (by show _ < _; rw [hcl]; have := HuL.out; omega) PF.out.1.size ?_
        intro g cap X8 r8 t8 hg hl8
        rw [hcl]
        clear hcl
        have AX := hide' (PF.out.2.appu (R := R.alo) t8 r8 ⟨.inr HRo.out.1, ⟨false, rfl⟩, HRo.out.2⟩)
        have k9 : X8.cell? ⟨q5, 9, none⟩ = some (.slice uo (onl bv (F.u.2.2.take i)).length uc) := by rw [Lib.cell_of_heap AX.out.2]; rfl
        have f9 : X8.frozen? ⟨q5, 9, none⟩ = false := Lib.frozen_of_heap AX.out.2 9
        have PG : Hid (Below V.heap.size V (X8.setCell ⟨q5, 9, none⟩ (.slice (some ⟨g, 0, none⟩) ((onl bv (F.u.2.2.take i)).length + 1) cap)) ∧ Pq w V.heap.size q5 { J with u := (some ⟨g, 0, none⟩, cap, onl bv (F.u.2.2.take (i + 1))), x := (none, 0, []) } (X8.setCell ⟨q5, 9, none⟩ (.slice (some ⟨g, 0, none⟩) ((onl bv (F.u.2.2.take i)).length + 1) cap))) := by
          rw [OY.out]
          exact ⟨(PF.out.1.trans (below_own t8 (fun j q => (PF.out.2.u.lt j q).1) PF.out.1.size)).trans (below_own (set_turn q5 9 _ X8) (fun j q => by rw [q]; exact PF.out.2.l) (Nat.le_trans PF.out.1.size t8.size)), AX.out.1⟩
        clear hg hl8 r8 t8 PF AX q7
        go_wp2_with fail
        exact ⟨⟨i + 1, _, _, by go_num, by omega, PG⟩, by simp [intOf]; omega⟩
      · have ON := hide' (onl_no HRi.out (by rw [HRd.out]; exact hd))
        have gg : (bv == dn) = false := by simp [hd]
        clear hd
        go_wp2_with fail
        exact ⟨⟨i + 1, uo, uc, by go_num, by omega, by rw [ON.out]; exact PD⟩, by simp [intOf]; omega⟩
    · have hk : i = F.u.2.2.length := by omega
      have hlt' : ¬ (i : Int) < (F.u.2.2.length : Int) := by omega
      have PD2 := PD
      rw [hk, List.take_length] at PD2
      clear hk PD
      go_wp2_with (with_reducible refine stay_load 34 _ rfl ?_)
      unfold Stay
      obtain ⟨J', hJ'⟩ : ∃ J' : Pf, J' = { J with u := (uo, uc, onl dn F.u.2.2), x := (none, 0, []) } := ⟨_, rfl⟩
      have OI : Hid (OnlIs F dn J') := by rw [hJ']; exact ⟨⟨TW.out.a, TW.out.s, TW.out.o, TW.out.m, TW.out.i, TW.out.p, TW.out.w⟩, TW.out.r, TW.out.g, rfl, rfl⟩
      rw [← hJ'] at PD2
      clear hJ'
      refine wpList_load_row rfl 34 _ rfl q5 rfl 34 J'.arr (0, 0) _ PD2.out.2.h Try.underlying34 rfl (size_arr _) ?_
      have hc4 := (PD2.out.1.block _ (lt_of_heap K1.out.2.2)).trans K1.out.2.2
      go_wp2_with (with_reducible refine stay_store 34 _ _ rfl ?_)
      unfold Stay
      refine wpList_store_row rfl 34 _ _ rfl b4 J'.arr rfl rfl 34 _ hc4 (size_arr _) rfl (by simp [Pf.arr, Value.oneCell']) ?_
      have qB := hide' (setRow_heap wr b4 _ J'.arr 34 (0, 0) hc4)
      have tB : Hid (Turn (fun j => j = b4) wr (wr.setRow b4 J'.arr)) := setRow_turn wr b4 _
      have hT : Soft2 (fun j => j = b4) wr := fun j e => by
        have e' : j = b4 := e
        subst e'
        exact ⟨_, 34, hc4, .inl rfl⟩
      have BB : Hid (Below w.heap.size w (wr.setRow b4 J'.arr)) := (K1.out.1.trans (PD2.out.1.mono K1.out.1.size)).trans (below_own tB.out (fun j q => by rw [q]; exact HL.out) (Nat.le_trans K1.out.1.size PD2.out.1.size))
      have IJ : Hid (J'.In (wr.setRow b4 J'.arr)) := (PD2.out.2.rs.turn tB.out hT).pin (PD2.out.2.u.turn tB.out (fun j q e => by obtain ⟨cur, k⟩ := kindG PD2.out.2.u q; rw [e] at k; exact cells_ne k hc4 (by decide) rfl)) BB.out
      clear hT tB hc4 PD2
      generalize wr.setRow b4 J'.arr = V9 at *
      go_wp2_with fail
      exact bodyPost_ret (results_cell_row rfl _ _ b4 34 J'.arr (0, 0) _ rfl qB.out Try.underlying34 rfl (size_arr _)) rfl ⟨J', rfl, OI.out, IJ.out, BB.out⟩
end U
end Go.Proofs.Ytdhmommfmmiieaa
