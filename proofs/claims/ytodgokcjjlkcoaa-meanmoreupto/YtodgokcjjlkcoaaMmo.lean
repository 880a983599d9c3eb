import Derived.Test.YtodgokcjjlkcoaaDen
import Derived.Test.YtodgokcjjlkcoaaMun
import Derived.Deep.RegionHeld3
import Derived.Deep.RegionWith
set_option linter.unusedVariables false
set_option linter.unusedSimpArgs false
namespace Go.Proofs.Ytodgokcjjlkcoaa
open Go.RowKit Go.Maps
namespace U
theorem exc_in (xs : List X.K3) (t : X.K3) : exc xs t = isIn xs t := by
  rw [Bool.eq_iff_iff, isIn_mem]
  unfold exc exq
  simp [List.any_eq_true, Prod.ext_iff]
/-- what is then allowed, of the old relation -/
def mor (F : Pf) (R : Ru) (bv : Bool) (t : X.K3) : Bool := (bv && isIn (rel F) t && !mtc F.po R t.1 t.2.1 t.2.2) || (!bv && (isIn (rel F) t || (mtc F.po R t.1 t.2.1 t.2.2 && !isIn F.x.2.2 t && !rany F t.1 t.2.1 t.2.2 true F.u.2.2)))
theorem rany_snoc (F : Pf) (ts to ta : ByteArray) (dn : Bool) (us : List Ru) (R : Ru) : rany F ts to ta dn (us ++ [R]) = (rany F ts to ta dn us || rsay F ts to ta dn R) := by
  unfold rany
  rw [List.any_append]
  simp
theorem mor_alt {F J : Pf} {R : Ru} {bv : Bool} (hb : R.d = .bool bv) (h : Nm F J) (hx : J.x.2.2 = F.x.2.2) (hu : J.u.2.2.map Ru.core = (F.u.2.2 ++ [R]).map Ru.core) {t : X.K3} (ht : t ∈ F.trs) : alt J t = mor F R bv t := by
  have e1 : isIn (rel F) t = alw F t.1 t.2.1 t.2.2 := by
    rw [Bool.eq_iff_iff, isIn_mem, rel_trs, List.mem_filter]
    exact ⟨fun q => q.2, fun q => ⟨ht, q⟩⟩
  unfold alt mor
  rw [e1]
  have e2 : rany J t.1 t.2.1 t.2.2 false J.u.2.2 = (rany F t.1 t.2.1 t.2.2 false F.u.2.2 || rsay F t.1 t.2.1 t.2.2 false R) := by rw [rany_nm h hu, rany_snoc]
  have e3 : rany J t.1 t.2.1 t.2.2 true J.u.2.2 = (rany F t.1 t.2.1 t.2.2 true F.u.2.2 || rsay F t.1 t.2.1 t.2.2 true R) := by rw [rany_nm h hu, rany_snoc]
  have e4 : exc J.x.2.2 (t.1, t.2.1, t.2.2) = isIn F.x.2.2 t := by rw [hx]; exact exc_in _ _
  have e5 : exc F.x.2.2 (t.1, t.2.1, t.2.2) = isIn F.x.2.2 t := exc_in _ _
  unfold alw
  rw [e2, e3, e4, e5]
  have e6 : rsay F t.1 t.2.1 t.2.2 false R = (mtc F.po R t.1 t.2.1 t.2.2 && !bv) := by unfold rsay den; rw [hb]; cases bv <;> rfl
  have e7 : rsay F t.1 t.2.1 t.2.2 true R = (mtc F.po R t.1 t.2.1 t.2.2 && bv) := by unfold rsay den; rw [hb]; cases bv <;> rfl
  rw [e6, e7]
  generalize rany F t.1 t.2.1 t.2.2 false F.u.2.2 = x1
  generalize rany F t.1 t.2.1 t.2.2 true F.u.2.2 = x2
  generalize isIn F.x.2.2 t = x3
  generalize mtc F.po R t.1 t.2.1 t.2.2 = x4
  cases bv <;> cases x1 <;> cases x2 <;> cases x3 <;> cases x4 <;> rfl
theorem mor_rel {F J : Pf} {R : Ru} {bv : Bool} (hb : R.d = .bool bv) (h : Nm F J) (hx : J.x.2.2 = F.x.2.2) (hu : J.u.2.2.map Ru.core = (F.u.2.2 ++ [R]).map Ru.core) : rel J = F.trs.filter (mor F R bv) := by
  rw [rel_trs, trs_nm h]
  exact List.filter_congr (fun t ht => mor_alt hb h hx hu ht)
theorem mor_yes {p : X.K3 → Bool} {l : List X.K3} {i : Nat} {z : X.K3} (hz : l[i]? = some z) (h : p z = true) : (l.take (i + 1)).filter p = (l.take i).filter p ++ [z] := by
  rw [List.take_add_one, hz, List.filter_append]
  simp [h]
theorem mor_no {p : X.K3 → Bool} {l : List X.K3} {i : Nat} {z : X.K3} (hz : l[i]? = some z) (h : p z = false) : (l.take (i + 1)).filter p = (l.take i).filter p := by
  rw [List.take_add_one, hz, List.filter_append]
  simp [h]
theorem lrg_few2 {a b c : Nat} (h : lrg a b c = false) : vst a b c = false ∧ a * (b * c) ≤ 2000 := by
  unfold lrg at h
  simp only [Bool.or_eq_false_iff, decide_eq_false_iff_not] at h
  refine ⟨h.1, ?_⟩
  rw [← Nat.mul_assoc]
  omega
/-- a policy and a rule in boxes, as they came -/
structure Bw (F : Pf) (R : Ru) (bv : Bool) (q3 q5 : Nat) (w V : World) : Prop where
  b : Below w.heap.size w V
  h3 : V.heap[q3]? = some (.cells F.arr 34 (0, 0))
  h5 : V.heap[q5]? = some (.cells #[.bool bv, .string R.who, .string R.what, .slice R.ro R.rl.length R.rc, .int .i8 R.cd, .float .f64 R.lv] 27 (0, 0))
theorem Bw.below {F : Pf} {R : Ru} {bv : Bool} {q3 q5 : Nat} {w V V' : World} (h : Bw F R bv q3 q5 w V) (b : Below V.heap.size V V') : Bw F R bv q3 q5 w V' := ⟨h.b.trans (b.mono h.b.size), (b.block _ (lt_of_heap h.h3)).trans h.h3, (b.block _ (lt_of_heap h.h5)).trans h.h5⟩
theorem bw_new (F : Pf) (R : Ru) (bv : Bool) (w : World) : Bw F R bv w.heap.size (w.heap.size + 1) w ((w.alloc (.cells F.arr 34)).alloc (.cells #[.bool bv, .string R.who, .string R.what, .slice R.ro R.rl.length R.rc, .int .i8 R.cd, .float .f64 R.lv] 27)) := by
  have B := allocs_below [.cells F.arr 34, .cells #[.bool bv, .string R.who, .string R.what, .slice R.ro R.rl.length R.rc, .int .i8 R.cd, .float .f64 R.lv] 27] w
  have g := allocs_get [.cells F.arr 34, .cells #[.bool bv, .string R.who, .string R.what, .slice R.ro R.rl.length R.rc, .int .i8 R.cd, .float .f64 R.lv] 27] w
  exact ⟨B, g 0 _ rfl, g 1 _ rfl⟩
set_option maxRecDepth 100000 in
set_option maxHeartbeats 16000000 in
theorem meanMore_walk (F : Pf) (N : Nat) (R : Ru) (bv : Bool) (w : World) (h : F.In w) (f : Fine F N) (hN : N < 1048576) (hb : R.d = .bool bv) (hr : Ok3 S.Ints (R.ro, R.rc, R.rl) w) (hR : R.who.size ≤ N + 1 ∧ R.what.size ≤ N + 1 ∧ ∀ a ∈ R.rl, a.size ≤ N + 1) (hRl : R.rl.length ≤ 1048576) : Calls Try.prog 12 #[.agg F.arr, .agg #[.bool bv, .string R.who, .string R.what, .slice R.ro R.rl.length R.rc, .int .i8 R.cd, .float .f64 R.lv]] w fun e w' => e = .returned (.bool true) ∧ Below w.heap.size w w' := by
  have H := hide' h
  have Hf := hide' f
  have Ht := hide' hN
  have HR := hide' (And.intro hb (And.intro hr (And.intro hR hRl)))
  have HZ : Hid (R.who.size ≤ 1048576 ∧ R.what.size ≤ 1048576 ∧ R.rl.length ≤ 1048576) := ⟨by omega, by omega, hRl⟩
  have hxl : (F.x.2.2.length : Int) ≤ 1048576 := by have := f.small.x; omega
  have cxl := h.x.2.1
  clear h f hN hb hr hR hRl
  go_enter Try.func12, Try.ntmps12
  go_wp2_with fail
  have B0 := hide' (bw_new F R bv w)
  generalize (w.alloc (.cells F.arr 34)).alloc (.cells #[.bool bv, .string R.who, .string R.what, .slice R.ro R.rl.length R.rc, .int .i8 R.cd, .float .f64 R.lv] 27) = V at *
  generalize hq5 : w.heap.size + 1 = q5 at *
  obtain ⟨q3, hq3⟩ : ∃ q3, q3 = w.heap.size := ⟨_, rfl⟩
  rw [← hq3] at B0
  rw [← hq3]
  clear hq3 hq5
  refine (alive_any V).mono ?_
  rintro e V1 ⟨rfl, b1⟩
  have B1 := hide' (B0.out.below b1)
  clear B0 b1 V
  go_wp2_with (with_reducible refine stay_load 34 _ rfl ?_)
  unfold Stay
  refine wpList_load_row rfl 34 _ rfl q3 rfl 34 F.arr (0, 0) _ B1.out.h3 Try.underlying34 rfl (size_arr F) ?_
  go_wp2_with fail
  refine (large_any F N V1 Hf.out).mono ?_
  rintro e V3 ⟨rfl, b3⟩
  have B3 := hide' (B1.out.below b3)
  clear B1 b3 V1
  cases hv : lrg F.s.2.2.length F.o.2.2.length F.a.2.2.length with
  | true =>
    clear hv
    go_wp2_with fail
    go_ret
    exact ⟨rfl, B3.out.b⟩
  | false =>
  have Hv := hide' (vst_few (lrg_few2 hv).1)
  have Hm := hide' (lrg_few2 hv).2
  clear hv
  go_wp2_with (with_reducible refine stay_load 34 _ rfl ?_)
  unfold Stay
  refine wpList_load_row rfl 34 _ rfl q3 rfl 34 F.arr (0, 0) _ B3.out.h3 Try.underlying34 rfl (size_arr F) ?_
  go_wp2_with fail
  refine (twin_any F V3 (H.out.below B3.out.b) Hf.out.small).mono ?_
  rintro e V4 ⟨J, rfl, tw, rs, ur, b4⟩
  have TW := hide' tw
  go_wp2_with (with_reducible refine stay_store 34 _ _ rfl ?_)
  unfold Stay
  refine wpList_store_row rfl 34 _ _ rfl V4.heap.size J.arr rfl rfl 34 _ (heap_alloc_new V4 _) (size_arr _) rfl (by simp [Pf.arr, Value.oneCell']) ?_
  rw [World.setRow_alloc_new]
  have P5 : Hid (Pq w V3.heap.size V4.heap.size J (V4.alloc (.cells J.arr 34))) := (ps_new b4.size rs ur).pq
  have b5 : Below V4.heap.size V4 (V4.alloc (.cells J.arr 34)) := (Below.refl _ _).alloc (Nat.le_refl _) _
  have D5 := hide' (b4.trans (b5.mono b4.size))
  have B5 := hide' (B3.out.below D5.out)
  clear tw rs ur b4 b5
  generalize V4.alloc (.cells J.arr 34) = V5 at *
  generalize V4.heap.size = q10 at *
  clear V4
  have y9 : V5.cell? ⟨q10, 9, none⟩ = some (.slice J.u.1 J.u.2.2.length J.u.2.1) := P5.out.c 9
  have Hul : Hid (J.u.2.2.length ≤ 1048576) := Nat.le_trans (TW.out.fine Hf.out).u Hf.out.n
  go_wp2_with (with_reducible refine stay_load 27 _ rfl ?_)
  unfold Stay
  refine wpList_load_row rfl 27 _ rfl q5 rfl 27 #[.bool bv, .string R.who, .string R.what, .slice R.ro R.rl.length R.rc, .int .i8 R.cd, .float .f64 R.lv] (0, 0) _ B5.out.h5 Try.underlying27 rfl (by kernel_rfl) ?_
  go_wp2_with (at_builtin; refine stay_app _ _ _ rfl ?_)
  unfold Stay
  have hcl : (J.u.2.2.map Ru.cells).length = J.u.2.2.length := List.length_map _
  refine G.wpList_app1 V5 rfl _ _ 31 27 6 80 _ rfl Try.underlying31 G.info27 rfl (by decide) (by decide) V3.heap.size J.u.1 J.u.2.1 (J.u.2.2.map Ru.cells) [.bool bv, .string R.who, .string R.what, .slice R.ro R.rl.length R.rc, .int .i8 R.cd, .float .f64 R.lv] rfl (by simp [Value.oneCell']) 27 _ (by rw [hcl]; rfl) P5.out.u rfl (by show _ < _; rw [hcl]; have := Hul.out; omega) D5.out.size ?_
  intro g cap V6 r6 t6 hg hl6
  rw [hcl]
  clear hcl
  have ec : [Value.bool bv, .string R.who, .string R.what, .slice R.ro R.rl.length R.rc, .int .i8 R.cd, .float .f64 R.lv] = R.cells := by unfold Ru.cells; rw [HR.out.1]
  rw [ec] at r6
  have AX := hide' (P5.out.appu t6 r6 ⟨.inr HR.out.2.1, ⟨bv, HR.out.1⟩, HR.out.2.2.2⟩)
  have k9 : V6.cell? ⟨q10, 9, none⟩ = some (.slice J.u.1 J.u.2.2.length J.u.2.1) := by rw [Lib.cell_of_heap AX.out.2]; rfl
  have f9 : V6.frozen? ⟨q10, 9, none⟩ = false := Lib.frozen_of_heap AX.out.2 9
  have D6 : Hid (Below V3.heap.size V3 (V6.setCell ⟨q10, 9, none⟩ (.slice (some ⟨g, 0, none⟩) (J.u.2.2.length + 1) cap))) := (D5.out.trans (below_own t6 (fun j q => (P5.out.u.lt j q).1) D5.out.size)).trans (below_own (set_turn q10 9 _ V6) (fun j q => by rw [q]; exact P5.out.l) (Nat.le_trans D5.out.size t6.size))
  clear hg hl6 r6 t6 P5 D5 y9 ec
  go_wp2_with (with_reducible refine stay_load 34 _ rfl ?_)
  unfold Stay
  have P6 := hide' AX.out.1
  have B6 := hide' (B3.out.below D6.out)
  clear AX k9 f9 D6
  generalize V6.setCell ⟨q10, 9, none⟩ (.slice (some ⟨g, 0, none⟩) (J.u.2.2.length + 1) cap) = V7 at *
  obtain ⟨J', hJ'⟩ : ∃ J' : Pf, J' = { J with u := (some ⟨g, 0, none⟩, cap, J.u.2.2 ++ [R]) } := ⟨_, rfl⟩
  have NE : Hid (Nm F J') := by rw [hJ']; exact ⟨TW.out.a, TW.out.s, TW.out.o, TW.out.m, TW.out.i, TW.out.p, TW.out.w⟩
  have FE : Hid (Fine J' (N + 1)) := by rw [hJ']; exact fine_ru (TW.out.fine Hf.out) Ht.out R HR.out.2.2.1
  have FW : Hid ((fos J'.s.2.2).length * ((fo J'.o.2.2).length * (fo J'.a.2.2).length) ≤ 65536) := by show _ ≤ _; rw [few_nm NE.out]; exact Hv.out
  have RM : Hid (rel J' = F.trs.filter (mor F R bv)) := mor_rel HR.out.1 NE.out (by rw [hJ']; exact TW.out.x) (by rw [hJ']; show (J.u.2.2 ++ [R]).map Ru.core = _; rw [List.map_append, List.map_append, TW.out.u])
  rw [← hJ'] at P6
  clear hJ' B5 TW
  refine wpList_load_row rfl 34 _ rfl q3 rfl 34 F.arr (0, 0) _ B6.out.h3 Try.underlying34 rfl (size_arr _) ?_
  go_wp2_with fail
  refine (rel_call F N V7 (H.out.below B6.out.b) Hf.out Hv.out).mono ?_
  rintro e V8 ⟨ro, rc, rfl, r8, b8⟩
  have B8 := hide' (B6.out.below b8)
  have P8 := hide' (P6.out.below b8)
  have RO := hide' (And.intro r8.ints r8.cap)
  have hrl : Hid (((rel F).length : Int) ≤ 65536) := by have := rel_few Hv.out; show _ ≤ _; omega
  clear r8 b8 P6 B6
  go_wp2_with (with_reducible refine stay_load 34 _ rfl ?_)
  unfold Stay
  refine wpList_load_row rfl 34 _ rfl q3 rfl 34 F.arr (0, 0) _ B8.out.h3 Try.underlying34 rfl (size_arr _) ?_
  go_wp2_with fail
  refine (all_any F V8 (H.out.below B8.out.b) Hf.out.small (by have := Hm.out; omega)).mono ?_
  rintro e V9 ⟨lo, lc, rfl, rl, b9⟩
  have B9 := hide' (B8.out.below b9)
  have P9 := hide' (P8.out.below b9)
  have RO9 := hide' (And.intro (RO.out.1.below b9) RO.out.2)
  have RL := hide' (And.intro rl.ints rl.cap)
  clear rl b9 P8 B8 RO
  have HTn : Hid (F.trs.length ≤ 2000) := by
    have q := dq_len (trs F.a.2.2 F.o.2.2 (F.s.2.2.map (·.1)))
    have q2 := trs_len F.a.2.2 F.o.2.2 (F.s.2.2.map (·.1))
    have e : F.trs = dq (trs F.a.2.2 F.o.2.2 (F.s.2.2.map (·.1))) := (trs_dq _ _ _).symm
    rw [List.length_map] at q2
    have := Hm.out
    show F.trs.length ≤ _
    rw [e]
    omega
  have HTs : Hid (∀ t ∈ F.trs, t.1.size ≤ 1048576 ∧ t.2.1.size ≤ 1048576 ∧ t.2.2.size ≤ 1048576) := fun t ht => by
    obtain ⟨h1, h2, h3⟩ := mem_trs.1 ht
    have mo : ∀ {ys : List ByteArray} {y : ByteArray}, y ∈ fo ys → y ∈ ys := fun q => by rw [fo_dq] at q; exact mem_dq.1 q
    obtain ⟨s, hs, e⟩ := List.mem_map.1 (mo h1)
    refine ⟨?_, Nat.le_trans (Hf.out.zo _ (mo h2)) Hf.out.n, Nat.le_trans (Hf.out.za _ (mo h3)) Hf.out.n⟩
    rw [← e]; exact Nat.le_trans (Hf.out.zs s hs) Hf.out.n
  have htl : (F.trs.length : Int) ≤ 2000 := by have := HTn.out; omega
  generalize F.trs = ts at *
  have hlc := RL.out.2
  have KC : Hid (∀ W, Below V9.heap.size V9 W → W.cell? ⟨q3, 0, none⟩ = some (.slice F.a.1 F.a.2.2.length F.a.2.1) ∧ W.cell? ⟨q3, 1, none⟩ = some (.slice F.s.1 F.s.2.2.length F.s.2.1) ∧ W.cell? ⟨q3, 2, none⟩ = some (.slice F.r.1 F.r.2.2.length F.r.2.1) ∧ W.cell? ⟨q3, 3, none⟩ = some (.slice F.o.1 F.o.2.2.length F.o.2.1) ∧ W.cell? ⟨q3, 4, none⟩ = some (.slice F.g.1 F.g.2.2.length F.g.2.1) ∧ W.cell? ⟨q3, 5, none⟩ = some (.slice F.m.1 F.m.2.2.length F.m.2.1) ∧ W.cell? ⟨q3, 6, none⟩ = some (.slice F.i.1 F.i.2.2.length F.i.2.1) ∧ W.cell? ⟨q3, 7, none⟩ = some (.slice F.p.1 F.p.2.2.length F.p.2.1) ∧ W.cell? ⟨q3, 8, none⟩ = some (.slice F.w.1 F.w.2.2.length F.w.2.1) ∧ W.cell? ⟨q3, 9, none⟩ = some (.slice F.u.1 F.u.2.2.length F.u.2.1) ∧ W.cell? ⟨q3, 10, none⟩ = some (.slice F.x.1 F.x.2.2.length F.x.2.1) ∧ W.cell? ⟨q5, 0, none⟩ = some (.bool bv) ∧ W.cell? ⟨q5, 1, none⟩ = some (.string R.who) ∧ W.cell? ⟨q5, 2, none⟩ = some (.string R.what) ∧ W.cell? ⟨q5, 3, none⟩ = some (.slice R.ro R.rl.length R.rc) ∧ W.cell? ⟨q5, 4, none⟩ = some (.int .i8 R.cd) ∧ W.cell? ⟨q5, 5, none⟩ = some (.float .f64 R.lv)) := fun W b => by
    have g := (B9.out.below b).h3
    have g5 := (B9.out.below b).h5
    exact ⟨by rw [Lib.cell_of_heap g]; rfl, by rw [Lib.cell_of_heap g]; rfl, by rw [Lib.cell_of_heap g]; rfl, by rw [Lib.cell_of_heap g]; rfl, by rw [Lib.cell_of_heap g]; rfl, by rw [Lib.cell_of_heap g]; rfl, by rw [Lib.cell_of_heap g]; rfl, by rw [Lib.cell_of_heap g]; rfl, by rw [Lib.cell_of_heap g]; rfl, by rw [Lib.cell_of_heap g]; rfl, by rw [Lib.cell_of_heap g]; rfl, by rw [Lib.cell_of_heap g5]; rfl, by rw [Lib.cell_of_heap g5]; rfl, by rw [Lib.cell_of_heap g5]; rfl, by rw [Lib.cell_of_heap g5]; rfl, by rw [Lib.cell_of_heap g5]; rfl, by rw [Lib.cell_of_heap g5]; rfl⟩
  go_wp2_with fail
  go_loopw [9, 10] (fun wv iv wx => ∃ (i : Nat) (wo : Option Addr) (wc : Nat), iv = .int .i64 (i : Int) ∧ i ≤ ts.length ∧ wv = .slice wo ((ts.take i).filter (mor F R bv)).length wc ∧ Hid (Below V9.heap.size V9 wx ∧ X.RowI V9.heap.size wo wc ((ts.take i).filter (mor F R bv)) wx)) (fun _ iv _ => ts.length - (intOf iv).toNat)
  case atStart => exact ⟨0, none, 0, rfl, Nat.zero_le _, rfl, Below.refl _ _, X.RowI.nil _ _⟩
  case round =>
    obtain ⟨i, wo, wc, rfl, hi, rfl, HM⟩ := hrel
    by_cases hlt : i < ts.length
    · have hlt' : (i : Int) < (ts.length : Int) := by omega
      obtain ⟨z, hz⟩ : ∃ z, ts[i]? = some z := ⟨_, List.getElem?_eq_getElem hlt⟩
      obtain ⟨y, off, hy, _, _⟩ := (RL.out.1.below HM.out.1).at hz
      have Hz := hide' hz
      have Hzs := hide' (HTs.out z (List.mem_of_getElem? hz))
      have Hy := hide' hy
      have RC : Hid (∀ W, Below V9.heap.size V9 W → W.cell? ⟨q3, 0, none⟩ = some (.slice F.a.1 F.a.2.2.length F.a.2.1) ∧ W.cell? ⟨q3, 1, none⟩ = some (.slice F.s.1 F.s.2.2.length F.s.2.1) ∧ W.cell? ⟨q3, 2, none⟩ = some (.slice F.r.1 F.r.2.2.length F.r.2.1) ∧ W.cell? ⟨q3, 3, none⟩ = some (.slice F.o.1 F.o.2.2.length F.o.2.1) ∧ W.cell? ⟨q3, 4, none⟩ = some (.slice F.g.1 F.g.2.2.length F.g.2.1) ∧ W.cell? ⟨q3, 5, none⟩ = some (.slice F.m.1 F.m.2.2.length F.m.2.1) ∧ W.cell? ⟨q3, 6, none⟩ = some (.slice F.i.1 F.i.2.2.length F.i.2.1) ∧ W.cell? ⟨q3, 7, none⟩ = some (.slice F.p.1 F.p.2.2.length F.p.2.1) ∧ W.cell? ⟨q3, 8, none⟩ = some (.slice F.w.1 F.w.2.2.length F.w.2.1) ∧ W.cell? ⟨q3, 9, none⟩ = some (.slice F.u.1 F.u.2.2.length F.u.2.1) ∧ W.cell? ⟨q3, 10, none⟩ = some (.slice F.x.1 F.x.2.2.length F.x.2.1) ∧ W.cell? ⟨q5, 0, none⟩ = some (.bool bv) ∧ W.cell? ⟨q5, 1, none⟩ = some (.string R.who) ∧ W.cell? ⟨q5, 2, none⟩ = some (.string R.what) ∧ W.cell? ⟨q5, 3, none⟩ = some (.slice R.ro R.rl.length R.rc) ∧ W.cell? ⟨q5, 4, none⟩ = some (.int .i8 R.cd) ∧ W.cell? ⟨q5, 5, none⟩ = some (.float .f64 R.lv) ∧ W.cell? ⟨y, off + i * 3, none⟩ = some (.string z.1) ∧ W.cell? ⟨y, off + i * 3 + 1, none⟩ = some (.string z.2.1) ∧ W.cell? ⟨y, off + i * 3 + 2, none⟩ = some (.string z.2.2)) := fun W b => by
        obtain ⟨y', off', hy', _, g1, g2, g3⟩ := (RL.out.1.below b).at hz
        rw [hy] at hy'
        cases hy'
        obtain ⟨k0, k1, k2, k3, k4, k5, k6, k7, k8, k9, k10, k11, k12, k13, k14, k15, k16⟩ := KC.out W b
        exact ⟨k0, k1, k2, k3, k4, k5, k6, k7, k8, k9, k10, k11, k12, k13, k14, k15, k16, g1, g2, g3⟩
      rw [hy]
      clear hz hy
      have C33 : Hid (∀ W, Below V9.heap.size V9 W → Calls Try.prog 33 #[.slice ro (rel F).length rc, .agg #[.string z.1, .string z.2.1, .string z.2.2]] W fun e w' => e = .returned (.bool (isIn (rel F) z)) ∧ Below W.heap.size W w') := fun W b => has_any ro rc (rel F) z W (RO9.out.1.below b) RO9.out.2 (by have := hrl.out; omega)
      have CX : Hid (∀ W, Below V9.heap.size V9 W → Calls Try.prog 33 #[.slice F.x.1 F.x.2.2.length F.x.2.1, .agg #[.string z.1, .string z.2.1, .string z.2.2]] W fun e w' => e = .returned (.bool (isIn F.x.2.2 z)) ∧ Below W.heap.size W w') := fun W b => has_any F.x.1 F.x.2.1 F.x.2.2 z W ((H.out.below (B9.out.below b).b).x.1) cxl hxl
      have C19 : Hid (∀ W, Below V9.heap.size V9 W → Calls Try.prog 19 #[.agg #[.slice F.a.1 F.a.2.2.length F.a.2.1, .slice F.s.1 F.s.2.2.length F.s.2.1, .slice F.r.1 F.r.2.2.length F.r.2.1, .slice F.o.1 F.o.2.2.length F.o.2.1, .slice F.g.1 F.g.2.2.length F.g.2.1, .slice F.m.1 F.m.2.2.length F.m.2.1, .slice F.i.1 F.i.2.2.length F.i.2.1, .slice F.p.1 F.p.2.2.length F.p.2.1, .slice F.w.1 F.w.2.2.length F.w.2.1, .slice F.u.1 F.u.2.2.length F.u.2.1, .slice F.x.1 F.x.2.2.length F.x.2.1], .agg #[.bool bv, .string R.who, .string R.what, .slice R.ro R.rl.length R.rc, .int .i8 R.cd, .float .f64 R.lv], .agg #[.string z.1, .string z.2.1, .string z.2.2]] W fun e w' => e = .returned (.bool (mtc F.po R z.1 z.2.1 z.2.2)) ∧ Below W.heap.size W w') := fun W b => mtc_call F N R bv z.1 z.2.1 z.2.2 W (H.out.below (B9.out.below b).b) Hf.out HR.out.1 ⟨HR.out.2.1.1.below (B9.out.below b).b, HR.out.2.1.2⟩ ⟨Hzs.out.1, Hzs.out.2.1, HZ.out⟩
      have C39 : Hid (∀ W, Below V9.heap.size V9 W → Calls Try.prog 39 #[.agg #[.slice F.a.1 F.a.2.2.length F.a.2.1, .slice F.s.1 F.s.2.2.length F.s.2.1, .slice F.r.1 F.r.2.2.length F.r.2.1, .slice F.o.1 F.o.2.2.length F.o.2.1, .slice F.g.1 F.g.2.2.length F.g.2.1, .slice F.m.1 F.m.2.2.length F.m.2.1, .slice F.i.1 F.i.2.2.length F.i.2.1, .slice F.p.1 F.p.2.2.length F.p.2.1, .slice F.w.1 F.w.2.2.length F.w.2.1, .slice F.u.1 F.u.2.2.length F.u.2.1, .slice F.x.1 F.x.2.2.length F.x.2.1], .agg #[.string z.1, .string z.2.1, .string z.2.2]] W fun e w' => e = .returned (.bool (rany F z.1 z.2.1 z.2.2 true F.u.2.2)) ∧ Below W.heap.size W w') := fun W b => denied_any F N z W (H.out.below (B9.out.below b).b) Hf.out Hzs.out
      have HL : Hid (((ts.take i).filter (mor F R bv)).length ≤ 2000) := by have := List.length_filter_le (mor F R bv) (ts.take i); have := List.length_take_le i ts; show _ ≤ _; omega
      have MZ : Hid (mor F R bv z = ((bv && isIn (rel F) z && !mtc F.po R z.1 z.2.1 z.2.2) || (!bv && (isIn (rel F) z || (mtc F.po R z.1 z.2.1 z.2.2 && !isIn F.x.2.2 z && !rany F z.1 z.2.1 z.2.2 true F.u.2.2))))) := rfl
      obtain ⟨_, _, _, _, _, _, _, _, _, _, _, _, _, _, _, _, _, d1, d2, d3⟩ := RC.out wr HM.out.1
      generalize isIn (rel F) z = sv at *
      generalize isIn F.x.2.2 z = ov at *
      generalize mtc F.po R z.1 z.2.1 z.2.2 = mv at *
      generalize rany F z.1 z.2.1 z.2.2 true F.u.2.2 = dv at *
      go_wp2_with fail
      refine (C33.out wr HM.out.1).mono ?_
      rintro e W1 ⟨rfl, b1⟩
      have E1 := hide' (And.intro (HM.out.1.trans (b1.mono HM.out.1.size)) (HM.out.2.below b1))
      clear b1 HM d1 d2 d3
      go_wp2_with fail
      obtain ⟨c0, c1, c2, c3, c4, c5, c6, c7, c8, c9, c10, c11, c12, c13, c14, c15, c16, c17, c18, c19⟩ := RC.out W1 E1.out.1
      have e0 : Below V9.heap.size V9 W1.drew := E1.out.1.trans ⟨rfl, rfl, rfl, Nat.le_refl _, fun _ _ => rfl⟩
      have r0 : Hid (X.RowI V9.heap.size wo wc ((ts.take i).filter (mor F R bv)) W1.drew) := E1.out.2.below ⟨rfl, rfl, rfl, Nat.le_refl _, fun _ _ => rfl⟩
      clear E1
      go_region_held3 (fun W => W.cell? ⟨q3, 0, none⟩ = some (.slice F.a.1 F.a.2.2.length F.a.2.1) ∧ W.cell? ⟨q3, 1, none⟩ = some (.slice F.s.1 F.s.2.2.length F.s.2.1) ∧ W.cell? ⟨q3, 2, none⟩ = some (.slice F.r.1 F.r.2.2.length F.r.2.1) ∧ W.cell? ⟨q3, 3, none⟩ = some (.slice F.o.1 F.o.2.2.length F.o.2.1) ∧ W.cell? ⟨q3, 4, none⟩ = some (.slice F.g.1 F.g.2.2.length F.g.2.1) ∧ W.cell? ⟨q3, 5, none⟩ = some (.slice F.m.1 F.m.2.2.length F.m.2.1) ∧ W.cell? ⟨q3, 6, none⟩ = some (.slice F.i.1 F.i.2.2.length F.i.2.1) ∧ W.cell? ⟨q3, 7, none⟩ = some (.slice F.p.1 F.p.2.2.length F.p.2.1) ∧ W.cell? ⟨q3, 8, none⟩ = some (.slice F.w.1 F.w.2.2.length F.w.2.1) ∧ W.cell? ⟨q3, 9, none⟩ = some (.slice F.u.1 F.u.2.2.length F.u.2.1) ∧ W.cell? ⟨q3, 10, none⟩ = some (.slice F.x.1 F.x.2.2.length F.x.2.1) ∧ W.cell? ⟨q5, 0, none⟩ = some (.bool bv) ∧ W.cell? ⟨q5, 1, none⟩ = some (.string R.who) ∧ W.cell? ⟨q5, 2, none⟩ = some (.string R.what) ∧ W.cell? ⟨q5, 3, none⟩ = some (.slice R.ro R.rl.length R.rc) ∧ W.cell? ⟨q5, 4, none⟩ = some (.int .i8 R.cd) ∧ W.cell? ⟨q5, 5, none⟩ = some (.float .f64 R.lv) ∧ W.cell? ⟨y, off + i * 3, none⟩ = some (.string z.1) ∧ W.cell? ⟨y, off + i * 3 + 1, none⟩ = some (.string z.2.1) ∧ W.cell? ⟨y, off + i * 3 + 2, none⟩ = some (.string z.2.2)) (first | with_reducible exact RC.out _ e1 | with_reducible exact RC.out _ e0 | go_keep) ((go_at_call 19; refine (C19.out _ e0).mono ?_; rintro e W2 ⟨rfl, b2⟩; have r1 := hide' (r0.out.below b2); have e1 : Below V9.heap.size V9 W2 := e0.trans (b2.mono e0.size); clear b2))
      rename_i hHeld
      have E2 := hide' (And.intro e1 r1.out)
      clear hHeld c0 c1 c2 c3 c4 c5 c6 c7 c8 c9 c10 c11 c12 c13 c14 c15 c16 c17 c18 c19 e0 r0 e1 r1
      go_wp2_with fail
      have XC : Hid (∀ W, Below V9.heap.size V9 W → W.cell? ⟨q3, 10, none⟩ = some (.slice F.x.1 F.x.2.2.length F.x.2.1) ∧ W.cell? ⟨y, off + i * 3, none⟩ = some (.string z.1) ∧ W.cell? ⟨y, off + i * 3 + 1, none⟩ = some (.string z.2.1) ∧ W.cell? ⟨y, off + i * 3 + 2, none⟩ = some (.string z.2.2)) := fun W b => by
        obtain ⟨c0, c1, c2, c3, c4, c5, c6, c7, c8, c9, c10, c11, c12, c13, c14, c15, c16, c17, c18, c19⟩ := RC.out W b
        exact ⟨c10, c17, c18, c19⟩
      obtain ⟨x0, d1, d2, d3⟩ := XC.out W2 E2.out.1
      have e0 : Below V9.heap.size V9 W2.drew := E2.out.1.trans ⟨rfl, rfl, rfl, Nat.le_refl _, fun _ _ => rfl⟩
      have r0 : Hid (X.RowI V9.heap.size wo wc ((ts.take i).filter (mor F R bv)) W2.drew) := E2.out.2.below ⟨rfl, rfl, rfl, Nat.le_refl _, fun _ _ => rfl⟩
      clear E2
      go_region_held3 (fun W => W.cell? ⟨q3, 10, none⟩ = some (.slice F.x.1 F.x.2.2.length F.x.2.1) ∧ W.cell? ⟨y, off + i * 3, none⟩ = some (.string z.1) ∧ W.cell? ⟨y, off + i * 3 + 1, none⟩ = some (.string z.2.1) ∧ W.cell? ⟨y, off + i * 3 + 2, none⟩ = some (.string z.2.2)) (first | with_reducible exact XC.out _ e1 | with_reducible exact XC.out _ e0 | go_keep) ((go_at_call 33; refine (CX.out _ e0).mono ?_; rintro e W3 ⟨rfl, b2⟩; have r1 := hide' (r0.out.below b2); have e1 : Below V9.heap.size V9 W3 := e0.trans (b2.mono e0.size); clear b2))
      rename_i hHeld
      have E3 := hide' (And.intro e1 r1.out)
      clear hHeld x0 d1 d2 d3 e0 r0 e1 r1 XC
      go_wp2_with fail
      obtain ⟨c0, c1, c2, c3, c4, c5, c6, c7, c8, c9, c10, c11, c12, c13, c14, c15, c16, c17, c18, c19⟩ := RC.out W3 E3.out.1
      cases bv with
      | true =>
        cases sv with
        | false =>
          go_quiet (fail)
          clear c0 c1 c2 c3 c4 c5 c6 c7 c8 c9 c10 c11 c12 c13 c14 c15 c16 c17 c18 c19
          have HF := hide' (mor_no Hz.out (MZ.out.trans rfl))
          go_wp2_with fail
          exact ⟨⟨i + 1, wo, wc, by go_num, by omega, by rw [HF.out], by rw [HF.out]; exact ⟨E3.out.1.trans (bdrew _ _), E3.out.2.below (bdrew _ _)⟩⟩, by simp [intOf]; omega⟩
        | true =>
          cases mv with
          | true =>
            go_quiet (fail)
            clear c0 c1 c2 c3 c4 c5 c6 c7 c8 c9 c10 c11 c12 c13 c14 c15 c16 c17 c18 c19
            have HF := hide' (mor_no Hz.out (MZ.out.trans rfl))
            go_wp2_with fail
            exact ⟨⟨i + 1, wo, wc, by go_num, by omega, by rw [HF.out], by rw [HF.out]; exact ⟨E3.out.1.trans (bdrew _ _), E3.out.2.below (bdrew _ _)⟩⟩, by simp [intOf]; omega⟩
          | false =>
            go_quiet (fail)
            clear c0 c1 c2 c3 c4 c5 c6 c7 c8 c9 c10 c11 c12 c13 c14 c15 c16
            have HF := hide' (mor_yes Hz.out (MZ.out.trans rfl))
            go_wp2_with (at_builtin; refine stay_app _ _ _ rfl ?_)
            unfold Stay
            refine X.wpList_app1 _ rfl _ _ rfl V9.heap.size wo wc _ z 36 _ rfl (E3.out.2.below (bdrew _ _)) rfl (by have := HL.out; show _ < _; omega) E3.out.1.size ?_
            intro g' cap' wz r8 t8 hg hl8
            have HM3 := hide' (And.intro ((E3.out.1.trans (bdrew _ _)).trans (below_own t8 (fun j q => (E3.out.2.lt j q).1) E3.out.1.size)) r8)
            clear hg hl8 r8 t8 E3 c17 c18 c19
            go_wp2_with fail
            exact ⟨⟨i + 1, _, _, by go_num, by omega, by rw [HF.out, List.length_append]; rfl, by rw [HF.out]; exact HM3⟩, by simp [intOf]; omega⟩
      | false =>
        cases sv with
        | true =>
          go_quiet (fail)
          clear c0 c1 c2 c3 c4 c5 c6 c7 c8 c9 c10 c11 c12 c13 c14 c15 c16
          have HF := hide' (mor_yes Hz.out (MZ.out.trans rfl))
          go_wp2_with (at_builtin; refine stay_app _ _ _ rfl ?_)
          unfold Stay
          refine X.wpList_app1 _ rfl _ _ rfl V9.heap.size wo wc _ z 36 _ rfl (E3.out.2.below (bdrew _ _)) rfl (by have := HL.out; show _ < _; omega) E3.out.1.size ?_
          intro g' cap' wz r8 t8 hg hl8
          have HM3 := hide' (And.intro ((E3.out.1.trans (bdrew _ _)).trans (below_own t8 (fun j q => (E3.out.2.lt j q).1) E3.out.1.size)) r8)
          clear hg hl8 r8 t8 E3 c17 c18 c19
          go_wp2_with fail
          exact ⟨⟨i + 1, _, _, by go_num, by omega, by rw [HF.out, List.length_append]; rfl, by rw [HF.out]; exact HM3⟩, by simp [intOf]; omega⟩
        | false =>
          cases mv with
          | false =>
            go_quiet (fail)
            clear c0 c1 c2 c3 c4 c5 c6 c7 c8 c9 c10 c11 c12 c13 c14 c15 c16 c17 c18 c19
            have HF := hide' (mor_no Hz.out (MZ.out.trans rfl))
            go_wp2_with fail
            exact ⟨⟨i + 1, wo, wc, by go_num, by omega, by rw [HF.out], by rw [HF.out]; exact ⟨E3.out.1.trans (bdrew _ _), E3.out.2.below (bdrew _ _)⟩⟩, by simp [intOf]; omega⟩
          | true =>
            cases ov with
            | true =>
              go_quiet (fail)
              clear c0 c1 c2 c3 c4 c5 c6 c7 c8 c9 c10 c11 c12 c13 c14 c15 c16 c17 c18 c19
              have HF := hide' (mor_no Hz.out (MZ.out.trans rfl))
              go_wp2_with fail
              exact ⟨⟨i + 1, wo, wc, by go_num, by omega, by rw [HF.out], by rw [HF.out]; exact ⟨E3.out.1.trans (bdrew _ _), E3.out.2.below (bdrew _ _)⟩⟩, by simp [intOf]; omega⟩
            | false =>
              have e0 : Below V9.heap.size V9 W3.drew := E3.out.1.trans ⟨rfl, rfl, rfl, Nat.le_refl _, fun _ _ => rfl⟩
              have r0 : Hid (X.RowI V9.heap.size wo wc ((ts.take i).filter (mor F R false)) W3.drew) := E3.out.2.below ⟨rfl, rfl, rfl, Nat.le_refl _, fun _ _ => rfl⟩
              clear E3 c0 c1 c2 c3 c4 c5 c6 c7 c8 c9 c10 c11 c12 c13 c14 c15 c16 c17 c18 c19
              refine wp_region_held_drew (S := fun W => W.cell? ⟨q3, 0, none⟩ = some (.slice F.a.1 F.a.2.2.length F.a.2.1) ∧ W.cell? ⟨q3, 1, none⟩ = some (.slice F.s.1 F.s.2.2.length F.s.2.1) ∧ W.cell? ⟨q3, 2, none⟩ = some (.slice F.r.1 F.r.2.2.length F.r.2.1) ∧ W.cell? ⟨q3, 3, none⟩ = some (.slice F.o.1 F.o.2.2.length F.o.2.1) ∧ W.cell? ⟨q3, 4, none⟩ = some (.slice F.g.1 F.g.2.2.length F.g.2.1) ∧ W.cell? ⟨q3, 5, none⟩ = some (.slice F.m.1 F.m.2.2.length F.m.2.1) ∧ W.cell? ⟨q3, 6, none⟩ = some (.slice F.i.1 F.i.2.2.length F.i.2.1) ∧ W.cell? ⟨q3, 7, none⟩ = some (.slice F.p.1 F.p.2.2.length F.p.2.1) ∧ W.cell? ⟨q3, 8, none⟩ = some (.slice F.w.1 F.w.2.2.length F.w.2.1) ∧ W.cell? ⟨q3, 9, none⟩ = some (.slice F.u.1 F.u.2.2.length F.u.2.1) ∧ W.cell? ⟨q3, 10, none⟩ = some (.slice F.x.1 F.x.2.2.length F.x.2.1) ∧ W.cell? ⟨q5, 0, none⟩ = some (.bool false) ∧ W.cell? ⟨q5, 1, none⟩ = some (.string R.who) ∧ W.cell? ⟨q5, 2, none⟩ = some (.string R.what) ∧ W.cell? ⟨q5, 3, none⟩ = some (.slice R.ro R.rl.length R.rc) ∧ W.cell? ⟨q5, 4, none⟩ = some (.int .i8 R.cd) ∧ W.cell? ⟨q5, 5, none⟩ = some (.float .f64 R.lv) ∧ W.cell? ⟨y, off + i * 3, none⟩ = some (.string z.1) ∧ W.cell? ⟨y, off + i * 3 + 1, none⟩ = some (.string z.2.1) ∧ W.cell? ⟨y, off + i * 3 + 2, none⟩ = some (.string z.2.2)) (by kernel_rfl) (RC.out _ e0) (fun hHeld => ?_)
              refine wpAnyH_take (i := 0) (oi := { dst := some 56, op := Op.fieldAddr 27 (Operand.tmp 3) 0, type := 0, pos := "outright.go:203", after := #[], guard := none }) (v := .pointer (some ⟨q5, 0, none⟩)) rfl (by kernel_rfl) (by kernel_rfl) (by kernel_rfl) (fun _ _ _ h => h) (Or.inl ⟨by kernel_rfl, fun w' hSw => ?_⟩) (by assumption) ?_
              · (try dsimp only at hSw); go_simp
              (try simp only [Act.put, List.setIfInBounds_toArray, List.set_cons_zero, List.set_cons_succ])
              refine wpAnyH_take (i := 1) (oi := { dst := some 57, op := Op.load 4 (Operand.tmp 56), type := 4, pos := "outright.go:203", after := #[{ on := 0, ground := Ground.data }], guard := none }) (v := .bool false) rfl (by kernel_rfl) (by kernel_rfl) (by kernel_rfl) (fun _ _ _ h => h) (Or.inl ⟨by kernel_rfl, fun w' hSw => ?_⟩) (by assumption) ?_
              · (try dsimp only at hSw); go_simp
              (try simp only [Act.put, List.setIfInBounds_toArray, List.set_cons_zero, List.set_cons_succ])
              refine wpAnyH_take (i := 2) (oi := { dst := some 58, op := Op.move (Operand.tmp 57), type := 4, pos := "outright.go:203", after := #[{ on := 1, ground := Ground.data }], guard := none }) (v := .bool false) rfl (by kernel_rfl) (by kernel_rfl) (by kernel_rfl) (fun _ _ _ h => h) (Or.inl ⟨by kernel_rfl, fun w' hSw => ?_⟩) (by assumption) ?_
              · (try dsimp only at hSw); go_simp
              (try simp only [Act.put, List.setIfInBounds_toArray, List.set_cons_zero, List.set_cons_succ])
              refine wpAnyH_take (i := 3) (oi := { dst := some 59, op := Op.move (Operand.tmp 11), type := 4, pos := "outright.go:203", after := #[{ on := 2, ground := Ground.guard }], guard := some (2, true) }) (v := undef) rfl (by kernel_rfl) (by kernel_rfl) (by kernel_rfl) (fun _ _ _ h => h) (Or.inr ⟨by kernel_rfl, rfl⟩) (by assumption) ?_
              (try simp only [Act.put, List.setIfInBounds_toArray, List.set_cons_zero, List.set_cons_succ])
              refine wpAnyH_take (i := 4) (oi := { dst := some 60, op := Op.pick (Operand.tmp 58) (Operand.tmp 59) (Operand.const (Value.bool false)), type := 4, pos := "outright.go:203", after := #[{ on := 2, ground := Ground.data }, { on := 3, ground := Ground.data }], guard := none }) (v := .bool false) rfl (by kernel_rfl) (by kernel_rfl) (by kernel_rfl) (fun _ _ _ h => h) (Or.inl ⟨by kernel_rfl, fun w' hSw => ?_⟩) (by assumption) ?_
              · (try dsimp only at hSw); go_simp
              (try simp only [Act.put, List.setIfInBounds_toArray, List.set_cons_zero, List.set_cons_succ])
              refine wpAnyH_take (i := 5) (oi := { dst := some 61, op := Op.move (Operand.tmp 60), type := 4, pos := "outright.go:203", after := #[{ on := 4, ground := Ground.data }, { on := 2, ground := Ground.chain }], guard := none }) (v := .bool false) rfl (by kernel_rfl) (by kernel_rfl) (by kernel_rfl) (fun _ _ _ h => h) (Or.inl ⟨by kernel_rfl, fun w' hSw => ?_⟩) (by assumption) ?_
              · (try dsimp only at hSw); go_simp
              (try simp only [Act.put, List.setIfInBounds_toArray, List.set_cons_zero, List.set_cons_succ])
              refine wpAnyH_take (i := 6) (oi := { dst := some 62, op := Op.move (Operand.tmp 12), type := 4, pos := "outright.go:203", after := #[{ on := 5, ground := Ground.guard }], guard := some (5, true) }) (v := undef) rfl (by kernel_rfl) (by kernel_rfl) (by kernel_rfl) (fun _ _ _ h => h) (Or.inr ⟨by kernel_rfl, rfl⟩) (by assumption) ?_
              (try simp only [Act.put, List.setIfInBounds_toArray, List.set_cons_zero, List.set_cons_succ])
              refine wpAnyH_take (i := 7) (oi := { dst := some 63, op := Op.unOp UnOp.not 4 (Operand.tmp 62), type := 4, pos := "outright.go:203", after := #[{ on := 6, ground := Ground.data }, { on := 5, ground := Ground.guard }], guard := some (5, true) }) (v := undef) rfl (by kernel_rfl) (by kernel_rfl) (by kernel_rfl) (fun _ _ _ h => h) (Or.inr ⟨by kernel_rfl, rfl⟩) (by assumption) ?_
              (try simp only [Act.put, List.setIfInBounds_toArray, List.set_cons_zero, List.set_cons_succ])
              refine wpAnyH_take (i := 8) (oi := { dst := some 64, op := Op.pick (Operand.tmp 61) (Operand.tmp 63) (Operand.const (Value.bool false)), type := 4, pos := "outright.go:203", after := #[{ on := 5, ground := Ground.data }, { on := 7, ground := Ground.data }], guard := none }) (v := .bool false) rfl (by kernel_rfl) (by kernel_rfl) (by kernel_rfl) (fun _ _ _ h => h) (Or.inl ⟨by kernel_rfl, fun w' hSw => ?_⟩) (by assumption) ?_
              · (try dsimp only at hSw); go_simp
              (try simp only [Act.put, List.setIfInBounds_toArray, List.set_cons_zero, List.set_cons_succ])
              refine wpAnyH_take (i := 9) (oi := { dst := some 65, op := Op.move (Operand.tmp 64), type := 4, pos := "outright.go:203", after := #[{ on := 8, ground := Ground.data }, { on := 5, ground := Ground.chain }], guard := none }) (v := .bool false) rfl (by kernel_rfl) (by kernel_rfl) (by kernel_rfl) (fun _ _ _ h => h) (Or.inl ⟨by kernel_rfl, fun w' hSw => ?_⟩) (by assumption) ?_
              · (try dsimp only at hSw); go_simp
              (try simp only [Act.put, List.setIfInBounds_toArray, List.set_cons_zero, List.set_cons_succ])
              refine wpAnyH_take (i := 10) (oi := { dst := some 66, op := Op.fieldAddr 27 (Operand.tmp 3) 0, type := 0, pos := "outright.go:203", after := #[{ on := 9, ground := Ground.guard }], guard := some (9, false) }) (v := .pointer (some ⟨q5, 0, none⟩)) rfl (by kernel_rfl) (by kernel_rfl) (by kernel_rfl) (fun _ _ _ h => h) (Or.inl ⟨by kernel_rfl, fun w' hSw => ?_⟩) (by assumption) ?_
              · (try dsimp only at hSw); go_simp
              (try simp only [Act.put, List.setIfInBounds_toArray, List.set_cons_zero, List.set_cons_succ])
              refine wpAnyH_take (i := 11) (oi := { dst := some 67, op := Op.load 4 (Operand.tmp 66), type := 4, pos := "outright.go:203", after := #[{ on := 10, ground := Ground.data }, { on := 9, ground := Ground.guard }], guard := some (9, false) }) (v := .bool false) rfl (by kernel_rfl) (by kernel_rfl) (by kernel_rfl) (fun _ _ _ h => h) (Or.inl ⟨by kernel_rfl, fun w' hSw => ?_⟩) (by assumption) ?_
              · (try dsimp only at hSw); go_simp
              (try simp only [Act.put, List.setIfInBounds_toArray, List.set_cons_zero, List.set_cons_succ])
              refine wpAnyH_take (i := 12) (oi := { dst := some 68, op := Op.unOp UnOp.not 4 (Operand.tmp 67), type := 4, pos := "outright.go:203", after := #[{ on := 11, ground := Ground.data }, { on := 9, ground := Ground.guard }], guard := some (9, false) }) (v := .bool true) rfl (by kernel_rfl) (by kernel_rfl) (by kernel_rfl) (fun _ _ _ h => h) (Or.inl ⟨by kernel_rfl, fun w' hSw => ?_⟩) (by assumption) ?_
              · (try dsimp only at hSw); go_simp
              (try simp only [Act.put, List.setIfInBounds_toArray, List.set_cons_zero, List.set_cons_succ])
              refine wpAnyH_take (i := 13) (oi := { dst := some 69, op := Op.move (Operand.tmp 68), type := 4, pos := "outright.go:203", after := #[{ on := 12, ground := Ground.data }, { on := 9, ground := Ground.chain }, { on := 9, ground := Ground.guard }], guard := some (9, false) }) (v := .bool true) rfl (by kernel_rfl) (by kernel_rfl) (by kernel_rfl) (fun _ _ _ h => h) (Or.inl ⟨by kernel_rfl, fun w' hSw => ?_⟩) (by assumption) ?_
              · (try dsimp only at hSw); go_simp
              (try simp only [Act.put, List.setIfInBounds_toArray, List.set_cons_zero, List.set_cons_succ])
              refine wpAnyH_take (i := 14) (oi := { dst := some 70, op := Op.move (Operand.tmp 11), type := 4, pos := "outright.go:203", after := #[{ on := 13, ground := Ground.guard }], guard := some (13, true) }) (v := .bool false) rfl (by kernel_rfl) (by kernel_rfl) (by kernel_rfl) (fun _ _ _ h => h) (Or.inl ⟨by kernel_rfl, fun w' hSw => ?_⟩) (by assumption) ?_
              · (try dsimp only at hSw); go_simp
              (try simp only [Act.put, List.setIfInBounds_toArray, List.set_cons_zero, List.set_cons_succ])
              refine wpAnyH_take (i := 15) (oi := { dst := some 71, op := Op.move (Operand.tmp 70), type := 4, pos := "outright.go:203", after := #[{ on := 14, ground := Ground.data }, { on := 13, ground := Ground.chain }, { on := 13, ground := Ground.guard }], guard := some (13, true) }) (v := .bool false) rfl (by kernel_rfl) (by kernel_rfl) (by kernel_rfl) (fun _ _ _ h => h) (Or.inl ⟨by kernel_rfl, fun w' hSw => ?_⟩) (by assumption) ?_
              · (try dsimp only at hSw); go_simp
              (try simp only [Act.put, List.setIfInBounds_toArray, List.set_cons_zero, List.set_cons_succ])
              refine wpAnyH_take (i := 16) (oi := { dst := some 72, op := Op.move (Operand.tmp 12), type := 4, pos := "outright.go:203", after := #[{ on := 15, ground := Ground.guard }], guard := some (15, false) }) (v := .bool true) rfl (by kernel_rfl) (by kernel_rfl) (by kernel_rfl) (fun _ _ _ h => h) (Or.inl ⟨by kernel_rfl, fun w' hSw => ?_⟩) (by assumption) ?_
              · (try dsimp only at hSw); go_simp
              (try simp only [Act.put, List.setIfInBounds_toArray, List.set_cons_zero, List.set_cons_succ])
              refine wpAnyH_take (i := 17) (oi := { dst := some 73, op := Op.move (Operand.tmp 72), type := 4, pos := "outright.go:203", after := #[{ on := 16, ground := Ground.data }, { on := 15, ground := Ground.chain }, { on := 15, ground := Ground.guard }], guard := some (15, false) }) (v := .bool true) rfl (by kernel_rfl) (by kernel_rfl) (by kernel_rfl) (fun _ _ _ h => h) (Or.inl ⟨by kernel_rfl, fun w' hSw => ?_⟩) (by assumption) ?_
              · (try dsimp only at hSw); go_simp
              (try simp only [Act.put, List.setIfInBounds_toArray, List.set_cons_zero, List.set_cons_succ])
              refine wpAnyH_take (i := 18) (oi := { dst := some 74, op := Op.move (Operand.tmp 13), type := 4, pos := "outright.go:203", after := #[{ on := 17, ground := Ground.guard }], guard := some (17, true) }) (v := .bool false) rfl (by kernel_rfl) (by kernel_rfl) (by kernel_rfl) (fun _ _ _ h => h) (Or.inl ⟨by kernel_rfl, fun w' hSw => ?_⟩) (by assumption) ?_
              · (try dsimp only at hSw); go_simp
              (try simp only [Act.put, List.setIfInBounds_toArray, List.set_cons_zero, List.set_cons_succ])
              refine wpAnyH_take (i := 19) (oi := { dst := some 75, op := Op.unOp UnOp.not 4 (Operand.tmp 74), type := 4, pos := "outright.go:203", after := #[{ on := 18, ground := Ground.data }, { on := 17, ground := Ground.guard }], guard := some (17, true) }) (v := .bool true) rfl (by kernel_rfl) (by kernel_rfl) (by kernel_rfl) (fun _ _ _ h => h) (Or.inl ⟨by kernel_rfl, fun w' hSw => ?_⟩) (by assumption) ?_
              · (try dsimp only at hSw); go_simp
              (try simp only [Act.put, List.setIfInBounds_toArray, List.set_cons_zero, List.set_cons_succ])
              refine wpAnyH_take (i := 20) (oi := { dst := some 76, op := Op.pick (Operand.tmp 73) (Operand.tmp 75) (Operand.const (Value.bool false)), type := 4, pos := "outright.go:203", after := #[{ on := 17, ground := Ground.data }, { on := 19, ground := Ground.data }, { on := 15, ground := Ground.guard }], guard := some (15, false) }) (v := .bool true) rfl (by kernel_rfl) (by kernel_rfl) (by kernel_rfl) (fun _ _ _ h => h) (Or.inl ⟨by kernel_rfl, fun w' hSw => ?_⟩) (by assumption) ?_
              · (try dsimp only at hSw); go_simp
              (try simp only [Act.put, List.setIfInBounds_toArray, List.set_cons_zero, List.set_cons_succ])
              refine wpAnyH_take (i := 21) (oi := { dst := some 77, op := Op.move (Operand.tmp 76), type := 4, pos := "outright.go:203", after := #[{ on := 20, ground := Ground.data }, { on := 17, ground := Ground.chain }, { on := 15, ground := Ground.guard }], guard := some (15, false) }) (v := .bool true) rfl (by kernel_rfl) (by kernel_rfl) (by kernel_rfl) (fun _ _ _ h => h) (Or.inl ⟨by kernel_rfl, fun w' hSw => ?_⟩) (by assumption) ?_
              · (try dsimp only at hSw); go_simp
              (try simp only [Act.put, List.setIfInBounds_toArray, List.set_cons_zero, List.set_cons_succ])
              refine wpAnyH_take (i := 22) (oi := { dst := some 78, op := Op.load 34 (Operand.tmp 2), type := 34, pos := "outright.go:203", after := #[{ on := 21, ground := Ground.guard }], guard := some (21, true) }) (v := .agg #[.slice F.a.1 F.a.2.2.length F.a.2.1, .slice F.s.1 F.s.2.2.length F.s.2.1, .slice F.r.1 F.r.2.2.length F.r.2.1, .slice F.o.1 F.o.2.2.length F.o.2.1, .slice F.g.1 F.g.2.2.length F.g.2.1, .slice F.m.1 F.m.2.2.length F.m.2.1, .slice F.i.1 F.i.2.2.length F.i.2.1, .slice F.p.1 F.p.2.2.length F.p.2.1, .slice F.w.1 F.w.2.2.length F.w.2.1, .slice F.u.1 F.u.2.2.length F.u.2.1, .slice F.x.1 F.x.2.2.length F.x.2.1]) rfl (by kernel_rfl) (by kernel_rfl) (by kernel_rfl) (fun _ _ _ h => h) (Or.inl ⟨by kernel_rfl, fun w' hSw => ?_⟩) (by assumption) ?_
              · (try dsimp only at hSw); go_simp
              (try simp only [Act.put, List.setIfInBounds_toArray, List.set_cons_zero, List.set_cons_succ])
              refine wpAnyH_take (i := 23) (oi := { dst := some 79, op := Op.move (Operand.tmp 8), type := 32, pos := "outright.go:203", after := #[{ on := 21, ground := Ground.guard }], guard := some (21, true) }) (v := .slice (some ⟨y, off, none⟩) ts.length lc) rfl (by kernel_rfl) (by kernel_rfl) (by kernel_rfl) (fun _ _ _ h => h) (Or.inl ⟨by kernel_rfl, fun w' hSw => ?_⟩) (by assumption) ?_
              · (try dsimp only at hSw); go_simp
              (try simp only [Act.put, List.setIfInBounds_toArray, List.set_cons_zero, List.set_cons_succ])
              refine wpAnyH_take (i := 24) (oi := { dst := some 80, op := Op.move (Operand.tmp 10), type := 3, pos := "outright.go:203", after := #[{ on := 21, ground := Ground.guard }], guard := some (21, true) }) (v := .int .i64 (i : Int)) rfl (by kernel_rfl) (by kernel_rfl) (by kernel_rfl) (fun _ _ _ h => h) (Or.inl ⟨by kernel_rfl, fun w' hSw => ?_⟩) (by assumption) ?_
              · (try dsimp only at hSw); go_simp
              (try simp only [Act.put, List.setIfInBounds_toArray, List.set_cons_zero, List.set_cons_succ])
              refine wpAnyH_take (i := 25) (oi := { dst := some 81, op := Op.indexAddr 32 (Operand.tmp 79) (Operand.tmp 80), type := 0, pos := "outright.go:203", after := #[{ on := 23, ground := Ground.data }, { on := 24, ground := Ground.data }, { on := 21, ground := Ground.guard }], guard := some (21, true) }) (v := .pointer (some ⟨y, off + i * 3, none⟩)) rfl (by kernel_rfl) (by kernel_rfl) (by kernel_rfl) (fun _ _ _ h => h) (Or.inl ⟨by kernel_rfl, fun w' hSw => ?_⟩) (by assumption) ?_
              · (try dsimp only at hSw); go_simp
              (try simp only [Act.put, List.setIfInBounds_toArray, List.set_cons_zero, List.set_cons_succ])
              refine wpAnyH_take (i := 26) (oi := { dst := some 82, op := Op.load 36 (Operand.tmp 81), type := 36, pos := "outright.go:203", after := #[{ on := 25, ground := Ground.data }, { on := 21, ground := Ground.guard }], guard := some (21, true) }) (v := .agg #[.string z.1, .string z.2.1, .string z.2.2]) rfl (by kernel_rfl) (by kernel_rfl) (by kernel_rfl) (fun _ _ _ h => h) (Or.inl ⟨by kernel_rfl, fun w' hSw => ?_⟩) (by assumption) ?_
              · (try dsimp only at hSw); go_simp
              (try simp only [Act.put, List.setIfInBounds_toArray, List.set_cons_zero, List.set_cons_succ])
              refine wpAnyH_ready (rs := [27]) (by kernel_rfl) (by simp) ?_
              refine AllReadyH.cons (o := { dst := some 83, op := Op.call { callee := Callee.value (Operand.func 39), args := #[Operand.tmp 78, Operand.tmp 82], argTypes := #[34, 36] }, type := 4, pos := "outright.go:203", after := #[{ on := 22, ground := Ground.data }, { on := 26, ground := Ground.data }, { on := 21, ground := Ground.chain }, { on := 21, ground := Ground.guard }], guard := some (21, true) }) rfl (fun K hK => ?_) AllReadyH.nil
              go_simp
              refine (C39.out _ e0).mono ?_
              rintro e W4 ⟨rfl, b4⟩
              have r1 := hide' (r0.out.below b4)
              have e1 : Below V9.heap.size V9 W4 := e0.trans (b4.mono e0.size)
              clear b4 e0 r0
              (try dsimp only)
              refine hK.out _ _ (RC.out _ e1) (fun hHeld => ?_)
              clear hK K
              (try simp only [Act.put, List.setIfInBounds_toArray, List.set_cons_zero, List.set_cons_succ])
              refine wpAnyH_take (i := 28) (oi := { dst := some 84, op := Op.unOp UnOp.not 4 (Operand.tmp 83), type := 4, pos := "outright.go:203", after := #[{ on := 27, ground := Ground.data }, { on := 21, ground := Ground.guard }], guard := some (21, true) }) (v := .bool (!dv)) rfl (by kernel_rfl) (by kernel_rfl) (by kernel_rfl) (fun _ _ _ h => h) (Or.inl ⟨by kernel_rfl, fun w' hSw => ?_⟩) (by assumption) ?_
              · (try dsimp only at hSw); go_simp
              (try simp only [Act.put, List.setIfInBounds_toArray, List.set_cons_zero, List.set_cons_succ])
              refine wpAnyH_take (i := 29) (oi := { dst := some 85, op := Op.pick (Operand.tmp 77) (Operand.tmp 84) (Operand.const (Value.bool false)), type := 4, pos := "outright.go:203", after := #[{ on := 21, ground := Ground.data }, { on := 28, ground := Ground.data }, { on := 15, ground := Ground.guard }], guard := some (15, false) }) (v := .bool (!dv)) rfl (by kernel_rfl) (by kernel_rfl) (by kernel_rfl) (fun _ _ _ h => h) (Or.inl ⟨by kernel_rfl, fun w' hSw => ?_⟩) (by assumption) ?_
              · (try dsimp only at hSw); go_simp
              (try simp only [Act.put, List.setIfInBounds_toArray, List.set_cons_zero, List.set_cons_succ])
              refine wpAnyH_take (i := 30) (oi := { dst := some 86, op := Op.pick (Operand.tmp 71) (Operand.const (Value.bool true)) (Operand.tmp 85), type := 4, pos := "outright.go:203", after := #[{ on := 15, ground := Ground.data }, { on := 29, ground := Ground.data }, { on := 13, ground := Ground.guard }], guard := some (13, true) }) (v := .bool (!dv)) rfl (by kernel_rfl) (by kernel_rfl) (by kernel_rfl) (fun _ _ _ h => h) (Or.inl ⟨by kernel_rfl, fun w' hSw => ?_⟩) (by assumption) ?_
              · (try dsimp only at hSw); go_simp
              (try simp only [Act.put, List.setIfInBounds_toArray, List.set_cons_zero, List.set_cons_succ])
              refine wpAnyH_take (i := 31) (oi := { dst := some 87, op := Op.pick (Operand.tmp 69) (Operand.tmp 86) (Operand.const (Value.bool false)), type := 4, pos := "outright.go:203", after := #[{ on := 13, ground := Ground.data }, { on := 30, ground := Ground.data }, { on := 9, ground := Ground.guard }], guard := some (9, false) }) (v := .bool (!dv)) rfl (by kernel_rfl) (by kernel_rfl) (by kernel_rfl) (fun _ _ _ h => h) (Or.inl ⟨by kernel_rfl, fun w' hSw => ?_⟩) (by assumption) ?_
              · (try dsimp only at hSw); go_simp
              (try simp only [Act.put, List.setIfInBounds_toArray, List.set_cons_zero, List.set_cons_succ])
              refine wpAnyH_take (i := 32) (oi := { dst := some 88, op := Op.pick (Operand.tmp 65) (Operand.const (Value.bool true)) (Operand.tmp 87), type := 4, pos := "outright.go:203", after := #[{ on := 9, ground := Ground.data }, { on := 31, ground := Ground.data }], guard := none }) (v := .bool (!dv)) rfl (by kernel_rfl) (by kernel_rfl) (by kernel_rfl) (fun _ _ _ h => h) (Or.inl ⟨by kernel_rfl, fun w' hSw => ?_⟩) (by assumption) ?_
              · (try dsimp only at hSw); go_simp
              (try simp only [Act.put, List.setIfInBounds_toArray, List.set_cons_zero, List.set_cons_succ])
              refine wpAnyH_done (by kernel_rfl) ?_ _
              cases dv with
              | true =>
                have HF := hide' (mor_no Hz.out (MZ.out.trans rfl))
                go_wp2_with fail
                exact ⟨⟨i + 1, wo, wc, by go_num, by omega, by rw [HF.out], by rw [HF.out]; exact ⟨e1, r1.out⟩⟩, by simp [intOf]; omega⟩
              | false =>
                have HF := hide' (mor_yes Hz.out (MZ.out.trans rfl))
                have E5 := hide' (And.intro e1 r1.out)
                obtain ⟨_, _, _, _, _, _, _, _, _, _, _, _, _, _, _, _, _, d1, d2, d3⟩ := RC.out _ E5.out.1
                go_wp2_with (at_builtin; refine stay_app _ _ _ rfl ?_)
                unfold Stay
                refine X.wpList_app1 _ rfl _ _ rfl V9.heap.size wo wc _ z 36 _ rfl E5.out.2 rfl (by have := HL.out; show _ < _; omega) E5.out.1.size ?_
                intro g' cap' wz r8 t8 hg hl8
                have HM3 := hide' (And.intro (E5.out.1.trans (below_own t8 (fun j q => (E5.out.2.lt j q).1) E5.out.1.size)) r8)
                clear hg hl8 r8 t8 E5 d1 d2 d3
                go_wp2_with fail
                exact ⟨⟨i + 1, _, _, by go_num, by omega, by rw [HF.out, List.length_append]; rfl, by rw [HF.out]; exact HM3⟩, by simp [intOf]; omega⟩
    · have hi' : i = ts.length := by omega
      have hlt' : ¬ (i : Int) < (ts.length : Int) := by omega
      have hlt2 := hlt
      have HM2 : Hid (Below V9.heap.size V9 wr ∧ X.RowI V9.heap.size wo wc (rel J') wr) := by
        have q := HM
        rw [hi', List.take_length, ← RM.out] at q
        exact q
      have HS : ((ts.take i).filter (mor F R bv)).length = (rel J').length := by rw [hi', List.take_length, ← RM.out]
      rw [HS]
      clear HM hi' hlt hi HS
      go_wp2_with (with_reducible refine stay_load 34 _ rfl ?_)
      unfold Stay
      have P10 := hide' (P9.out.below HM2.out.1)
      have B10 := hide' (B9.out.below HM2.out.1)
      have W10 := hide' (And.intro HM2.out.2.ints HM2.out.2.cap)
      clear HM2
      refine wpList_load_w (by rfl) 34 _ rfl q10 rfl 34 J'.arr (0, 0) _ P10.out.h Try.underlying34 rfl (size_arr _) ?_
      go_wp2_with fail
      refine (rel_call J' (N + 1) wr (P10.out.pin B10.out.b) FE.out FW.out).mono ?_
      rintro e V11 ⟨to, tc, rfl, r11, b11⟩
      have B11 := hide' (B10.out.below b11)
      have E11 := hide' (And.intro (And.intro r11.ints r11.cap) (And.intro (W10.out.1.below b11) W10.out.2))
      have hfl : Hid (((rel J').length : Int) < 1099511627777) := by have := rel_few FW.out; show _ < _; omega
      clear r11 b11 P10 B10 W10
      go_wp2_with fail
      refine (equal_self to wo tc wc (rel J') V11 E11.out.1.1 E11.out.2.1 E11.out.1.2 E11.out.2.2 hfl.out).mono ?_
      rintro e V12 ⟨rfl, b12⟩
      have B12 := hide' (B11.out.below b12)
      clear b12 B11 E11
      go_wp2_with fail
      go_ret
      exact ⟨rfl, B12.out.b⟩
end U
end Go.Proofs.Ytodgokcjjlkcoaa
