import Derived.Test.YtodgokcjjlkcoaaPqr
set_option linter.unusedVariables false
set_option linter.unusedSimpArgs false
namespace Go.Proofs.Ytodgokcjjlkcoaa
open Go.RowKit Go.Maps
namespace U
theorem fine_ru {J : Pf} {N : Nat} (f : Fine J N) (hN : N < 1048576) {o : Option Addr} {c : Nat} (R : Ru) (hR : R.who.size ≤ N + 1 ∧ R.what.size ≤ N + 1 ∧ ∀ a ∈ R.rl, a.size ≤ N + 1) : Fine { J with u := (o, c, J.u.2.2 ++ [R]) } (N + 1) := by
  have g := f.mono (Nat.le_succ N) hN
  exact { g with
    u := by show (J.u.2.2 ++ [R]).length ≤ N + 1; have := f.u; rw [List.length_append]; simp; omega
    zu := fun z hz => by
      rcases List.mem_append.1 hz with q | q
      · exact g.zu z q
      · rw [List.mem_singleton] at q; rw [q]; exact hR }
/-- a policy, a triple and a rule in boxes, as they came -/
structure Br (F : Pf) (t : X.K3) (R : Ru) (bv : Bool) (q3 q4 q5 : Nat) (w V : World) : Prop where
  b : Below w.heap.size w V
  h3 : V.heap[q3]? = some (.cells F.arr 34 (0, 0))
  h4 : V.heap[q4]? = some (.cells #[.string t.1, .string t.2.1, .string t.2.2] 36 (0, 0))
  h5 : V.heap[q5]? = some (.cells #[.bool bv, .string R.who, .string R.what, .slice R.ro R.rl.length R.rc, .int .i8 R.cd, .float .f64 R.lv] 27 (0, 0))
theorem Br.below {F : Pf} {t : X.K3} {R : Ru} {bv : Bool} {q3 q4 q5 : Nat} {w V V' : World} (h : Br F t R bv q3 q4 q5 w V) (b : Below V.heap.size V V') : Br F t R bv q3 q4 q5 w V' := ⟨h.b.trans (b.mono h.b.size), (b.block _ (lt_of_heap h.h3)).trans h.h3, (b.block _ (lt_of_heap h.h4)).trans h.h4, (b.block _ (lt_of_heap h.h5)).trans h.h5⟩
theorem br_new (F : Pf) (t : X.K3) (R : Ru) (bv : Bool) (w : World) : Br F t R bv w.heap.size (w.heap.size + 1) (w.heap.size + 1 + 1) w (((w.alloc (.cells F.arr 34)).alloc (.cells #[.string t.1, .string t.2.1, .string t.2.2] 36)).alloc (.cells #[.bool bv, .string R.who, .string R.what, .slice R.ro R.rl.length R.rc, .int .i8 R.cd, .float .f64 R.lv] 27)) := by
  have B := allocs_below [.cells F.arr 34, .cells #[.string t.1, .string t.2.1, .string t.2.2] 36, .cells #[.bool bv, .string R.who, .string R.what, .slice R.ro R.rl.length R.rc, .int .i8 R.cd, .float .f64 R.lv] 27] w
  have g := allocs_get [.cells F.arr 34, .cells #[.string t.1, .string t.2.1, .string t.2.2] 36, .cells #[.bool bv, .string R.who, .string R.what, .slice R.ro R.rl.length R.rc, .int .i8 R.cd, .float .f64 R.lv] 27] w
  exact ⟨B, g 0 _ rfl, g 1 _ rfl, g 2 _ rfl⟩
set_option maxRecDepth 100000 in
set_option maxHeartbeats 8000000 in
theorem meanUnknown_walk (F : Pf) (N : Nat) (t : X.K3) (R : Ru) (bv : Bool) (w : World) (h : F.In w) (f : Fine F N) (hN : N < 1048576) (ht : t.1.size ≤ 1048576 ∧ t.2.1.size ≤ 1048576 ∧ t.2.2.size ≤ 1048576) (hb : R.d = .bool bv) (hr : Ok3 S.Ints (R.ro, R.rc, R.rl) w) (hR : R.who.size ≤ N + 1 ∧ R.what.size ≤ N + 1 ∧ ∀ a ∈ R.rl, a.size ≤ N + 1) (hRl : R.rl.length ≤ 1048576) : Calls Try.prog 15 #[.agg F.arr, .agg #[.string t.1, .string t.2.1, .string t.2.2], .agg #[.bool bv, .string R.who, .string R.what, .slice R.ro R.rl.length R.rc, .int .i8 R.cd, .float .f64 R.lv]] w fun e w' => e = .returned (.bool true) ∧ Below w.heap.size w w' := by
  have H := hide' h
  have Hf := hide' f
  have Ht := hide' (And.intro hN ht)
  have HR := hide' (And.intro hb (And.intro hr (And.intro hR hRl)))
  have HZ : Hid (t.1.size ≤ 1048576 ∧ t.2.1.size ≤ 1048576 ∧ R.who.size ≤ 1048576 ∧ R.what.size ≤ 1048576 ∧ R.rl.length ≤ 1048576) := ⟨ht.1, ht.2.1, by omega, by omega, hRl⟩
  clear h f hN ht hb hr hR hRl
  go_enter Try.func15, Try.ntmps15
  go_wp2_with fail
  have B0 := hide' (br_new F t R bv w)
  generalize ((w.alloc (.cells F.arr 34)).alloc (.cells #[.string t.1, .string t.2.1, .string t.2.2] 36)).alloc (.cells #[.bool bv, .string R.who, .string R.what, .slice R.ro R.rl.length R.rc, .int .i8 R.cd, .float .f64 R.lv] 27) = V at *
  generalize hq5 : w.heap.size + 1 + 1 = q5 at *
  generalize hq4 : w.heap.size + 1 = q4 at *
  obtain ⟨q3, hq3⟩ : ∃ q3, q3 = w.heap.size := ⟨_, rfl⟩
  rw [← hq3] at B0
  rw [← hq3]
  clear hq3 hq4 hq5
  refine (alive_any V).mono ?_
  rintro e V1 ⟨rfl, b1⟩
  have B1 := hide' (B0.out.below b1)
  clear B0 b1 V
  go_wp2_with (with_reducible refine stay_load 34 _ rfl ?_)
  unfold Stay
  refine wpList_load_row rfl 34 _ rfl q3 rfl 34 F.arr (0, 0) _ B1.out.h3 Try.underlying34 rfl (size_arr F) ?_
  go_wp2_with (with_reducible refine stay_load 36 _ rfl ?_)
  unfold Stay
  refine wpList_load_row rfl 36 _ rfl q4 rfl 36 #[.string t.1, .string t.2.1, .string t.2.2] (0, 0) _ B1.out.h4 Try.underlying36 rfl (by kernel_rfl) ?_
  go_wp2_with fail
  refine (there_any F t V1 (H.out.below B1.out.b) Hf.out.small).mono ?_
  rintro e V2 ⟨rfl, b2⟩
  have B2 := hide' (B1.out.below b2)
  clear B1 b2 V1
  go_wp2_with (with_reducible refine stay_load 34 _ rfl ?_)
  unfold Stay
  refine wpList_load_row rfl 34 _ rfl q3 rfl 34 F.arr (0, 0) _ B2.out.h3 Try.underlying34 rfl (size_arr F) ?_
  go_wp2_with fail
  refine (vast_call F N V2 Hf.out).mono ?_
  rintro e V3 ⟨rfl, b3⟩
  have B3 := hide' (B2.out.below b3)
  clear B2 b3 V2
  cases hth : thr F t with
  | true =>
    clear hth
    generalize vst F.s.2.2.length F.o.2.2.length F.a.2.2.length = vv at *
    cases vv
    all_goals (go_wp2_with fail; go_ret; exact ⟨rfl, B3.out.b⟩)
  | false =>
  have HT := hide' hth
  clear hth
  cases hv : vst F.s.2.2.length F.o.2.2.length F.a.2.2.length with
  | true =>
    clear hv
    go_wp2_with fail
    go_ret
    exact ⟨rfl, B3.out.b⟩
  | false =>
  have Hv := hide' (vst_few hv)
  clear hv
  go_wp2_with (with_reducible refine stay_load 34 _ rfl ?_)
  unfold Stay
  refine wpList_load_row rfl 34 _ rfl q3 rfl 34 F.arr (0, 0) _ B3.out.h3 Try.underlying34 rfl (size_arr F) ?_
  go_wp2_with fail
  refine (twin_any F V3 (H.out.below B3.out.b) Hf.out.small).mono ?_
  rintro e V4 ⟨J, rfl, tw, rs, ur, b4⟩
  have TW := hide' tw
  go_wp2_with (with_reducible refine stay_store 34 _ _ rfl ?_)
  unfold Stay
  refine wpList_store_row rfl 34 _ _ rfl V4.heap.size J.arr rfl rfl 34 _ (heap_alloc_new V4 _) (size_arr _) rfl (by simp [Pf.arr, Value.oneCell']) ?_
  rw [World.setRow_alloc_new]
  have P5 : Hid (Pq w V3.heap.size V4.heap.size J (V4.alloc (.cells J.arr 34))) := (ps_new b4.size rs ur).pq
  have b5 : Below V4.heap.size V4 (V4.alloc (.cells J.arr 34)) := (Below.refl _ _).alloc (Nat.le_refl _) _
  have D5 := hide' (b4.trans (b5.mono b4.size))
  have B5 := hide' (B3.out.below D5.out)
  clear tw rs ur b4 b5
  generalize V4.alloc (.cells J.arr 34) = V5 at *
  generalize V4.heap.size = q10 at *
  clear V4
  have y9 : V5.cell? ⟨q10, 9, none⟩ = some (.slice J.u.1 J.u.2.2.length J.u.2.1) := P5.out.c 9
  have Hul : Hid (J.u.2.2.length ≤ 1048576) := Nat.le_trans (TW.out.fine Hf.out).u Hf.out.n
  go_wp2_with (with_reducible refine stay_load 27 _ rfl ?_)
  unfold Stay
  refine wpList_load_row rfl 27 _ rfl q5 rfl 27 #[.bool bv, .string R.who, .string R.what, .slice R.ro R.rl.length R.rc, .int .i8 R.cd, .float .f64 R.lv] (0, 0) _ B5.out.h5 Try.underlying27 rfl (by kernel_rfl) ?_
  go_wp2_with (at_builtin; refine stay_app _ _ _ rfl ?_)
  unfold Stay
  have hcl : (J.u.2.2.map Ru.cells).length = J.u.2.2.length := List.length_map _
  refine G.wpList_app1 V5 rfl _ _ 31 27 6 80 _ rfl Try.underlying31 G.info27 rfl (by decide) (by decide) V3.heap.size J.u.1 J.u.2.1 (J.u.2.2.map Ru.cells) [.bool bv, .string R.who, .string R.what, .slice R.ro R.rl.length R.rc, .int .i8 R.cd, .float .f64 R.lv] rfl (by simp [Value.oneCell']) 27 _ (by rw [hcl]; rfl) P5.out.u rfl (by show _ < _; rw [hcl]; have := Hul.out; omega) D5.out.size ?_
  intro g cap V6 r6 t6 hg hl6
  rw [hcl]
  clear hcl
  have ec : [Value.bool bv, .string R.who, .string R.what, .slice R.ro R.rl.length R.rc, .int .i8 R.cd, .float .f64 R.lv] = R.cells := by unfold Ru.cells; rw [HR.out.1]
  rw [ec] at r6
  have AX := hide' (P5.out.appu t6 r6 ⟨.inr HR.out.2.1, ⟨bv, HR.out.1⟩, HR.out.2.2.2⟩)
  have k9 : V6.cell? ⟨q10, 9, none⟩ = some (.slice J.u.1 J.u.2.2.length J.u.2.1) := by rw [Lib.cell_of_heap AX.out.2]; rfl
  have f9 : V6.frozen? ⟨q10, 9, none⟩ = false := Lib.frozen_of_heap AX.out.2 9
  have D6 : Hid (Below V3.heap.size V3 (V6.setCell ⟨q10, 9, none⟩ (.slice (some ⟨g, 0, none⟩) (J.u.2.2.length + 1) cap))) := (D5.out.trans (below_own t6 (fun j q => (P5.out.u.lt j q).1) D5.out.size)).trans (below_own (set_turn q10 9 _ V6) (fun j q => by rw [q]; exact P5.out.l) (Nat.le_trans D5.out.size t6.size))
  clear hg hl6 r6 t6 P5 D5 y9 ec
  go_wp2_with (with_reducible refine stay_load 34 _ rfl ?_)
  unfold Stay
  have P6 := hide' AX.out.1
  have B6 := hide' (B3.out.below D6.out)
  clear AX k9 f9 D6
  generalize V6.setCell ⟨q10, 9, none⟩ (.slice (some ⟨g, 0, none⟩) (J.u.2.2.length + 1) cap) = V7 at *
  obtain ⟨J', hJ'⟩ : ∃ J' : Pf, J' = { J with u := (some ⟨g, 0, none⟩, cap, J.u.2.2 ++ [R]) } := ⟨_, rfl⟩
  have NE : Hid (Nm F J') := by rw [hJ']; exact ⟨TW.out.a, TW.out.s, TW.out.o, TW.out.m, TW.out.i, TW.out.p, TW.out.w⟩
  have FE : Hid (Fine J' (N + 1)) := by rw [hJ']; exact fine_ru (TW.out.fine Hf.out) Ht.out.1 R HR.out.2.2.1
  have FW : Hid ((fos J'.s.2.2).length * ((fo J'.o.2.2).length * (fo J'.a.2.2).length) ≤ 65536) := by show _ ≤ _; rw [few_nm NE.out]; exact Hv.out
  have TE : Hid (thr J' t = false) := by show _ = _; rw [thr_nm NE.out]; exact HT.out
  rw [← hJ'] at P6
  clear hJ' B5
  refine wpList_load_row rfl 34 _ rfl q10 rfl 34 J'.arr (0, 0) _ P6.out.h Try.underlying34 rfl (size_arr _) ?_
  go_wp2_with (with_reducible refine stay_load 36 _ rfl ?_)
  unfold Stay
  refine wpList_load_row rfl 36 _ rfl q4 rfl 36 #[.string t.1, .string t.2.1, .string t.2.2] (0, 0) _ B6.out.h4 Try.underlying36 rfl (by kernel_rfl) ?_
  go_wp2_with fail
  refine (alw_call J' (N + 1) t.1 t.2.1 t.2.2 V7 (P6.out.pin B6.out.b) FE.out Ht.out.2).mono ?_
  rintro e V8 ⟨rfl, b8⟩
  rw [alw_thr TE.out]
  have P8 := hide' (P6.out.below b8)
  have B8 := hide' (B6.out.below b8)
  clear b8 P6 B6
  go_wp2_with (with_reducible refine stay_load 34 _ rfl ?_)
  unfold Stay
  refine wpList_load_w (by rfl) 34 _ rfl q3 rfl 34 F.arr (0, 0) _ B8.out.h3 Try.underlying34 rfl (size_arr _) ?_
  go_wp2_with (with_reducible refine stay_load 27 _ rfl ?_)
  unfold Stay
  refine wpList_load_w (by rfl) 27 _ rfl q5 rfl 27 #[.bool bv, .string R.who, .string R.what, .slice R.ro R.rl.length R.rc, .int .i8 R.cd, .float .f64 R.lv] (0, 0) _ B8.out.h5 Try.underlying27 rfl (by kernel_rfl) ?_
  go_wp2_with (with_reducible refine stay_load 36 _ rfl ?_)
  unfold Stay
  refine wpList_load_w (by rfl) 36 _ rfl q4 rfl 36 #[.string t.1, .string t.2.1, .string t.2.2] (0, 0) _ B8.out.h4 Try.underlying36 rfl (by kernel_rfl) ?_
  go_wp2_with fail
  refine (mtc_call F N R bv t.1 t.2.1 t.2.2 V8 (H.out.below B8.out.b) Hf.out HR.out.1 ⟨HR.out.2.1.1.below B8.out.b, HR.out.2.1.2⟩ HZ.out).mono ?_
  rintro e V9 ⟨rfl, b9⟩
  rw [mtc_thr HT.out]
  have P9 := hide' (P8.out.below b9)
  have B9 := hide' (B8.out.below b9)
  clear b9 P8 B8
  go_wp2_with (with_reducible refine stay_load 34 _ rfl ?_)
  unfold Stay
  refine wpList_load_w (by rfl) 34 _ rfl q10 rfl 34 J'.arr (0, 0) _ P9.out.h Try.underlying34 rfl (size_arr _) ?_
  go_wp2_with (with_reducible refine stay_load 27 _ rfl ?_)
  unfold Stay
  refine wpList_load_w (by rfl) 27 _ rfl q5 rfl 27 #[.bool bv, .string R.who, .string R.what, .slice R.ro R.rl.length R.rc, .int .i8 R.cd, .float .f64 R.lv] (0, 0) _ B9.out.h5 Try.underlying27 rfl (by kernel_rfl) ?_
  go_wp2_with (with_reducible refine stay_load 36 _ rfl ?_)
  unfold Stay
  refine wpList_load_w (by rfl) 36 _ rfl q4 rfl 36 #[.string t.1, .string t.2.1, .string t.2.2] (0, 0) _ B9.out.h4 Try.underlying36 rfl (by kernel_rfl) ?_
  go_wp2_with fail
  refine (mtc_call J' (N + 1) R bv t.1 t.2.1 t.2.2 V9 (P9.out.pin B9.out.b) FE.out HR.out.1 ⟨HR.out.2.1.1.below B9.out.b, HR.out.2.1.2⟩ HZ.out).mono ?_
  rintro e V10 ⟨rfl, b10⟩
  rw [mtc_thr TE.out]
  have P10 := hide' (P9.out.below b10)
  have B10 := hide' (B9.out.below b10)
  clear b10 P9 B9
  go_wp2_with (with_reducible refine stay_load 34 _ rfl ?_)
  unfold Stay
  refine wpList_load_row rfl 34 _ rfl q10 rfl 34 J'.arr (0, 0) _ P10.out.h Try.underlying34 rfl (size_arr _) ?_
  go_wp2_with fail
  refine (rel_call J' (N + 1) V10 (P10.out.pin B10.out.b) FE.out FW.out).mono ?_
  rintro e V11 ⟨to, tc, rfl, r11, b11⟩
  have B11 := hide' (B10.out.below b11)
  have E11 := hide' (And.intro r11.ints r11.cap)
  have hrl : Hid (((rel J').length : Int) ≤ 1048576) := by
    have q1 := relA_len J' (fo J'.a.2.2) (fo J'.o.2.2) (fos J'.s.2.2)
    have q2 := FW.out
    show ((relA J' _ _ _).length : Int) ≤ _
    omega
  have RT := hide' (rel_thr TE.out)
  clear r11 b11 P10 B10
  generalize rel J' = RR at *
  go_wp2_with (with_reducible refine stay_load 36 _ rfl ?_)
  unfold Stay
  refine wpList_load_w (by rfl) 36 _ rfl q4 rfl 36 #[.string t.1, .string t.2.1, .string t.2.2] (0, 0) _ B11.out.h4 Try.underlying36 rfl (by kernel_rfl) ?_
  go_wp2_with fail
  refine (has_any to tc RR t V11 E11.out.1 E11.out.2 hrl.out).mono ?_
  rintro e V12 ⟨rfl, b12⟩
  rw [RT.out]
  have B12 := hide' (B11.out.below b12)
  clear b12 B11
  go_wp2_with fail
  go_ret
  exact ⟨rfl, B12.out.b⟩
end U
end Go.Proofs.Ytodgokcjjlkcoaa
