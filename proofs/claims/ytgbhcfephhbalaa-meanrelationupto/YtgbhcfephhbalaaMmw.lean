import Derived.Test.YtgbhcfephhbalaaMml
set_option linter.unusedVariables false
set_option linter.unusedSimpArgs false
namespace Go.Proofs.Ytgbhcfephhbalaa
open Go.RowKit Go.Maps
namespace U
theorem cut_mtc (F F' : Pf) (R : Ru) (ts to ta : ByteArray) : mtc (F.cut F').po R ts to ta = mtc F.po R ts to ta := rfl
theorem cut_small {F F' : Pf} (h : F.po.Small) : (F.cut F').po.Small := ⟨h.a, h.s, h.o, h.mi, h.pw, h.tm, h.tp⟩
/-- what the law's own blocks hold -/
structure Hv (F F' : Pf) (lo : Option Addr) (lc : Nat) (ls : List (Ru × Nat × Nat)) (R : Ru) (ts to ta : ByteArray) (q7 q3 q4 q5 : Nat) (W : World) : Prop where
  h7 : W.heap[q7]? = some (.cells #[.slice F'.a.1 F.a.2.2.length F'.a.2.1, .slice F'.s.1 F.s.2.2.length F'.s.2.1, .slice F'.r.1 F.r.2.2.length F'.r.2.1, .slice F'.o.1 F.o.2.2.length F'.o.2.1, .slice F'.g.1 F.g.2.2.length F'.g.2.1, .slice F'.m.1 F.m.2.2.length F'.m.2.1, .slice F'.i.1 F.i.2.2.length F'.i.2.1, .slice F'.p.1 F.p.2.2.length F'.p.2.1, .slice F'.w.1 F.w.2.2.length F'.w.2.1, .slice F'.u.1 F.u.2.2.length F'.u.2.1, .slice F'.x.1 F.x.2.2.length F'.x.2.1, .slice F'.a.1 (F.a.2.2.length + 1) F'.a.2.1, .slice F'.s.1 (F.s.2.2.length + 1) F'.s.2.1, .slice F'.r.1 (F.r.2.2.length + 1) F'.r.2.1, .slice F'.o.1 (F.o.2.2.length + 1) F'.o.2.1, .slice F'.g.1 (F.g.2.2.length + 1) F'.g.2.1, .slice F'.m.1 (F.m.2.2.length + 1) F'.m.2.1, .slice F'.i.1 (F.i.2.2.length + 1) F'.i.2.1, .slice F'.p.1 (F.p.2.2.length + 1) F'.p.2.1, .slice F'.w.1 (F.w.2.2.length + 1) F'.w.2.1, .slice F'.u.1 (ls.length + 1) F'.u.2.1, .slice F'.x.1 (F.x.2.2.length + 1) F'.x.2.1, .slice lo ls.length lc] 39 (0, 0))
  h3 : W.heap[q3]? = some (.cells #[.slice F.a.1 F.a.2.2.length F.a.2.1, .slice F.s.1 F.s.2.2.length F.s.2.1, .slice F.r.1 F.r.2.2.length F.r.2.1, .slice F.o.1 F.o.2.2.length F.o.2.1, .slice F.g.1 F.g.2.2.length F.g.2.1, .slice F.m.1 F.m.2.2.length F.m.2.1, .slice F.i.1 F.i.2.2.length F.i.2.1, .slice F.p.1 F.p.2.2.length F.p.2.1, .slice F.w.1 F.w.2.2.length F.w.2.1, .slice F.u.1 F.u.2.2.length F.u.2.1, .slice F.x.1 F.x.2.2.length F.x.2.1] 34 (0, 0))
  h4 : W.heap[q4]? = some (.cells #[R.d, .string R.who, .string R.what, .slice R.ro R.rl.length R.rc, .int .i8 R.cd, .float .f64 R.lv] 27 (0, 0))
  h5 : W.heap[q5]? = some (.cells #[.string ts, .string to, .string ta] 36 (0, 0))
set_option maxRecDepth 100000 in
set_option maxHeartbeats 8000000 in
theorem meanMatches_walk (F : Pf) (R : Ru) (ts to ta : ByteArray) (w : World) (h : F.In w) (hs : F.Small) (hps : F.po.Small) (hr : S.Ints R.ro R.rl w) (hrc : R.rl.length ≤ R.rc) (hz : ts.size ≤ 1048576 ∧ to.size ≤ 1048576 ∧ R.who.size ≤ 1048576 ∧ R.what.size ≤ 1048576 ∧ R.rl.length ≤ 1048576) :
    Calls Try.prog 5 #[.agg F.arr, R.val, .agg #[.string ts, .string to, .string ta]] w fun e w' => e = .returned (.bool true) ∧ Below w.heap.size w w' := by
  have H := hide' h
  have Hs := hide' hs
  have Hp := hide' hps
  have Hr := hide' hr
  have Hz := hide' hz
  have Hrc := hide' hrc
  clear h hs hps hr hz hrc
  have hPv : Hid (Value.agg F.arr = .agg #[.slice F.a.1 F.a.2.2.length F.a.2.1, .slice F.s.1 F.s.2.2.length F.s.2.1, .slice F.r.1 F.r.2.2.length F.r.2.1, .slice F.o.1 F.o.2.2.length F.o.2.1, .slice F.g.1 F.g.2.2.length F.g.2.1, .slice F.m.1 F.m.2.2.length F.m.2.1, .slice F.i.1 F.i.2.2.length F.i.2.1, .slice F.p.1 F.p.2.2.length F.p.2.1, .slice F.w.1 F.w.2.2.length F.w.2.1, .slice F.u.1 F.u.2.2.length F.u.2.1, .slice F.x.1 F.x.2.2.length F.x.2.1]) := rfl
  have hRv : Hid (R.val = .agg #[R.d, .string R.who, .string R.what, .slice R.ro R.rl.length R.rc, .int .i8 R.cd, .float .f64 R.lv]) := rfl
  rw [hPv.out, hRv.out]
  go_enter Try.func5, Try.ntmps5
  go_wp2_with fail
  obtain ⟨V, hV⟩ : ∃ V, V = (((w.alloc (.cells #[.slice F.a.1 F.a.2.2.length F.a.2.1, .slice F.s.1 F.s.2.2.length F.s.2.1, .slice F.r.1 F.r.2.2.length F.r.2.1, .slice F.o.1 F.o.2.2.length F.o.2.1, .slice F.g.1 F.g.2.2.length F.g.2.1, .slice F.m.1 F.m.2.2.length F.m.2.1, .slice F.i.1 F.i.2.2.length F.i.2.1, .slice F.p.1 F.p.2.2.length F.p.2.1, .slice F.w.1 F.w.2.2.length F.w.2.1, .slice F.u.1 F.u.2.2.length F.u.2.1, .slice F.x.1 F.x.2.2.length F.x.2.1] 34)).alloc (.cells #[R.d, .string R.who, .string R.what, .slice R.ro R.rl.length R.rc, .int .i8 R.cd, .float .f64 R.lv] 27)).alloc (.cells #[.string ts, .string to, .string ta] 36)) := ⟨_, rfl⟩
  rw [← hV]
  have K0 : Hid (Below w.heap.size w V ∧ V.heap[w.heap.size]? = some (.cells #[.slice F.a.1 F.a.2.2.length F.a.2.1, .slice F.s.1 F.s.2.2.length F.s.2.1, .slice F.r.1 F.r.2.2.length F.r.2.1, .slice F.o.1 F.o.2.2.length F.o.2.1, .slice F.g.1 F.g.2.2.length F.g.2.1, .slice F.m.1 F.m.2.2.length F.m.2.1, .slice F.i.1 F.i.2.2.length F.i.2.1, .slice F.p.1 F.p.2.2.length F.p.2.1, .slice F.w.1 F.w.2.2.length F.w.2.1, .slice F.u.1 F.u.2.2.length F.u.2.1, .slice F.x.1 F.x.2.2.length F.x.2.1] 34 (0, 0)) ∧ V.heap[w.heap.size + 1]? = some (.cells #[R.d, .string R.who, .string R.what, .slice R.ro R.rl.length R.rc, .int .i8 R.cd, .float .f64 R.lv] 27 (0, 0)) ∧ V.heap[w.heap.size + 1 + 1]? = some (.cells #[.string ts, .string to, .string ta] 36 (0, 0))) := by
    have a1 := heap_alloc_new w (.cells #[.slice F.a.1 F.a.2.2.length F.a.2.1, .slice F.s.1 F.s.2.2.length F.s.2.1, .slice F.r.1 F.r.2.2.length F.r.2.1, .slice F.o.1 F.o.2.2.length F.o.2.1, .slice F.g.1 F.g.2.2.length F.g.2.1, .slice F.m.1 F.m.2.2.length F.m.2.1, .slice F.i.1 F.i.2.2.length F.i.2.1, .slice F.p.1 F.p.2.2.length F.p.2.1, .slice F.w.1 F.w.2.2.length F.w.2.1, .slice F.u.1 F.u.2.2.length F.u.2.1, .slice F.x.1 F.x.2.2.length F.x.2.1] 34)
    have a2 := heap_alloc_new (w.alloc (.cells #[.slice F.a.1 F.a.2.2.length F.a.2.1, .slice F.s.1 F.s.2.2.length F.s.2.1, .slice F.r.1 F.r.2.2.length F.r.2.1, .slice F.o.1 F.o.2.2.length F.o.2.1, .slice F.g.1 F.g.2.2.length F.g.2.1, .slice F.m.1 F.m.2.2.length F.m.2.1, .slice F.i.1 F.i.2.2.length F.i.2.1, .slice F.p.1 F.p.2.2.length F.p.2.1, .slice F.w.1 F.w.2.2.length F.w.2.1, .slice F.u.1 F.u.2.2.length F.u.2.1, .slice F.x.1 F.x.2.2.length F.x.2.1] 34)) (.cells #[R.d, .string R.who, .string R.what, .slice R.ro R.rl.length R.rc, .int .i8 R.cd, .float .f64 R.lv] 27)
    have a3 := heap_alloc_new ((w.alloc (.cells #[.slice F.a.1 F.a.2.2.length F.a.2.1, .slice F.s.1 F.s.2.2.length F.s.2.1, .slice F.r.1 F.r.2.2.length F.r.2.1, .slice F.o.1 F.o.2.2.length F.o.2.1, .slice F.g.1 F.g.2.2.length F.g.2.1, .slice F.m.1 F.m.2.2.length F.m.2.1, .slice F.i.1 F.i.2.2.length F.i.2.1, .slice F.p.1 F.p.2.2.length F.p.2.1, .slice F.w.1 F.w.2.2.length F.w.2.1, .slice F.u.1 F.u.2.2.length F.u.2.1, .slice F.x.1 F.x.2.2.length F.x.2.1] 34)).alloc (.cells #[R.d, .string R.who, .string R.what, .slice R.ro R.rl.length R.rc, .int .i8 R.cd, .float .f64 R.lv] 27)) (.cells #[.string ts, .string to, .string ta] 36)
    have z1 : (w.alloc (.cells #[.slice F.a.1 F.a.2.2.length F.a.2.1, .slice F.s.1 F.s.2.2.length F.s.2.1, .slice F.r.1 F.r.2.2.length F.r.2.1, .slice F.o.1 F.o.2.2.length F.o.2.1, .slice F.g.1 F.g.2.2.length F.g.2.1, .slice F.m.1 F.m.2.2.length F.m.2.1, .slice F.i.1 F.i.2.2.length F.i.2.1, .slice F.p.1 F.p.2.2.length F.p.2.1, .slice F.w.1 F.w.2.2.length F.w.2.1, .slice F.u.1 F.u.2.2.length F.u.2.1, .slice F.x.1 F.x.2.2.length F.x.2.1] 34)).heap.size = w.heap.size + 1 := by simp
    have z2 : ((w.alloc (.cells #[.slice F.a.1 F.a.2.2.length F.a.2.1, .slice F.s.1 F.s.2.2.length F.s.2.1, .slice F.r.1 F.r.2.2.length F.r.2.1, .slice F.o.1 F.o.2.2.length F.o.2.1, .slice F.g.1 F.g.2.2.length F.g.2.1, .slice F.m.1 F.m.2.2.length F.m.2.1, .slice F.i.1 F.i.2.2.length F.i.2.1, .slice F.p.1 F.p.2.2.length F.p.2.1, .slice F.w.1 F.w.2.2.length F.w.2.1, .slice F.u.1 F.u.2.2.length F.u.2.1, .slice F.x.1 F.x.2.2.length F.x.2.1] 34)).alloc (.cells #[R.d, .string R.who, .string R.what, .slice R.ro R.rl.length R.rc, .int .i8 R.cd, .float .f64 R.lv] 27)).heap.size = w.heap.size + 1 + 1 := by simp
    rw [z1] at a2
    rw [z2] at a3
    rw [hV]
    exact ⟨(((Below.refl _ _).alloc (Nat.le_refl _) _).alloc (by simp) _).alloc (by simp; omega) _, (Below.heap_alloc _ _ _ (by omega)).trans ((Below.heap_alloc _ _ _ (by omega)).trans a1), (Below.heap_alloc _ _ _ (by omega)).trans a2, a3⟩
  clear hV
  obtain ⟨q3, hq3⟩ : ∃ q3, q3 = w.heap.size := ⟨_, rfl⟩
  generalize hq5 : w.heap.size + 1 + 1 = q5 at *
  generalize hq4 : w.heap.size + 1 = q4 at *
  rw [← hq3]
  rw [← hq3] at K0
  have K1 : Hid (Below w.heap.size w V) := by rw [← hq3]; exact K0.out.1
  have K2 := hide' K0.out.2
  clear hq3 hq4 hq5 K0
  have RM0 := hide' (roomy_any F V (H.out.below K1.out) Hs.out)
  rw [hPv.out] at RM0
  refine RM0.out.mono ?_
  rintro e w1 ⟨F', lo, lc, ls, rfl, rm, b1⟩
  rw [rm.all]
  have hQv : Hid (Value.agg (rarr F F' ls lo lc) = .agg #[.slice F'.a.1 F.a.2.2.length F'.a.2.1, .slice F'.s.1 F.s.2.2.length F'.s.2.1, .slice F'.r.1 F.r.2.2.length F'.r.2.1, .slice F'.o.1 F.o.2.2.length F'.o.2.1, .slice F'.g.1 F.g.2.2.length F'.g.2.1, .slice F'.m.1 F.m.2.2.length F'.m.2.1, .slice F'.i.1 F.i.2.2.length F'.i.2.1, .slice F'.p.1 F.p.2.2.length F'.p.2.1, .slice F'.w.1 F.w.2.2.length F'.w.2.1, .slice F'.u.1 F.u.2.2.length F'.u.2.1, .slice F'.x.1 F.x.2.2.length F'.x.2.1, .slice F'.a.1 (F.a.2.2.length + 1) F'.a.2.1, .slice F'.s.1 (F.s.2.2.length + 1) F'.s.2.1, .slice F'.r.1 (F.r.2.2.length + 1) F'.r.2.1, .slice F'.o.1 (F.o.2.2.length + 1) F'.o.2.1, .slice F'.g.1 (F.g.2.2.length + 1) F'.g.2.1, .slice F'.m.1 (F.m.2.2.length + 1) F'.m.2.1, .slice F'.i.1 (F.i.2.2.length + 1) F'.i.2.1, .slice F'.p.1 (F.p.2.2.length + 1) F'.p.2.1, .slice F'.w.1 (F.w.2.2.length + 1) F'.w.2.1, .slice F'.u.1 (ls.length + 1) F'.u.2.1, .slice F'.x.1 (F.x.2.2.length + 1) F'.x.2.1, .slice lo ls.length lc]) := rfl
  rw [hQv.out]
  have RM1 := hide' (And.intro rm b1)
  clear rm b1 RM0
  go_wp2_with (with_reducible refine stay_st39 _ _ rfl ?_)
  unfold Stay
  refine wpList_store_row rfl 39 _ _ rfl w1.heap.size #[.slice F'.a.1 F.a.2.2.length F'.a.2.1, .slice F'.s.1 F.s.2.2.length F'.s.2.1, .slice F'.r.1 F.r.2.2.length F'.r.2.1, .slice F'.o.1 F.o.2.2.length F'.o.2.1, .slice F'.g.1 F.g.2.2.length F'.g.2.1, .slice F'.m.1 F.m.2.2.length F'.m.2.1, .slice F'.i.1 F.i.2.2.length F'.i.2.1, .slice F'.p.1 F.p.2.2.length F'.p.2.1, .slice F'.w.1 F.w.2.2.length F'.w.2.1, .slice F'.u.1 F.u.2.2.length F'.u.2.1, .slice F'.x.1 F.x.2.2.length F'.x.2.1, .slice F'.a.1 (F.a.2.2.length + 1) F'.a.2.1, .slice F'.s.1 (F.s.2.2.length + 1) F'.s.2.1, .slice F'.r.1 (F.r.2.2.length + 1) F'.r.2.1, .slice F'.o.1 (F.o.2.2.length + 1) F'.o.2.1, .slice F'.g.1 (F.g.2.2.length + 1) F'.g.2.1, .slice F'.m.1 (F.m.2.2.length + 1) F'.m.2.1, .slice F'.i.1 (F.i.2.2.length + 1) F'.i.2.1, .slice F'.p.1 (F.p.2.2.length + 1) F'.p.2.1, .slice F'.w.1 (F.w.2.2.length + 1) F'.w.2.1, .slice F'.u.1 (ls.length + 1) F'.u.2.1, .slice F'.x.1 (F.x.2.2.length + 1) F'.x.2.1, .slice lo ls.length lc] rfl rfl 39 #[.slice none 0 0, .slice none 0 0, .slice none 0 0, .slice none 0 0, .slice none 0 0, .slice none 0 0, .slice none 0 0, .slice none 0 0, .slice none 0 0, .slice none 0 0, .slice none 0 0, .slice none 0 0, .slice none 0 0, .slice none 0 0, .slice none 0 0, .slice none 0 0, .slice none 0 0, .slice none 0 0, .slice none 0 0, .slice none 0 0, .slice none 0 0, .slice none 0 0, .slice none 0 0] (heap_alloc_new w1 _) (by kernel_rfl) rfl (by simp [Value.oneCell']) ?_
  rw [World.setRow_alloc_new]
  go_wp2_with fail
  obtain ⟨W, hW⟩ : ∃ W, W = w1.alloc (.cells #[.slice F'.a.1 F.a.2.2.length F'.a.2.1, .slice F'.s.1 F.s.2.2.length F'.s.2.1, .slice F'.r.1 F.r.2.2.length F'.r.2.1, .slice F'.o.1 F.o.2.2.length F'.o.2.1, .slice F'.g.1 F.g.2.2.length F'.g.2.1, .slice F'.m.1 F.m.2.2.length F'.m.2.1, .slice F'.i.1 F.i.2.2.length F'.i.2.1, .slice F'.p.1 F.p.2.2.length F'.p.2.1, .slice F'.w.1 F.w.2.2.length F'.w.2.1, .slice F'.u.1 F.u.2.2.length F'.u.2.1, .slice F'.x.1 F.x.2.2.length F'.x.2.1, .slice F'.a.1 (F.a.2.2.length + 1) F'.a.2.1, .slice F'.s.1 (F.s.2.2.length + 1) F'.s.2.1, .slice F'.r.1 (F.r.2.2.length + 1) F'.r.2.1, .slice F'.o.1 (F.o.2.2.length + 1) F'.o.2.1, .slice F'.g.1 (F.g.2.2.length + 1) F'.g.2.1, .slice F'.m.1 (F.m.2.2.length + 1) F'.m.2.1, .slice F'.i.1 (F.i.2.2.length + 1) F'.i.2.1, .slice F'.p.1 (F.p.2.2.length + 1) F'.p.2.1, .slice F'.w.1 (F.w.2.2.length + 1) F'.w.2.1, .slice F'.u.1 (ls.length + 1) F'.u.2.1, .slice F'.x.1 (F.x.2.2.length + 1) F'.x.2.1, .slice lo ls.length lc] 39) := ⟨_, rfl⟩
  rw [← hW]
  have bW : Hid (Below w1.heap.size w1 W) := by rw [hW]; exact (Below.refl _ _).alloc (Nat.le_refl _) _
  have h7 : Hid (W.heap[w1.heap.size]? = some (.cells #[.slice F'.a.1 F.a.2.2.length F'.a.2.1, .slice F'.s.1 F.s.2.2.length F'.s.2.1, .slice F'.r.1 F.r.2.2.length F'.r.2.1, .slice F'.o.1 F.o.2.2.length F'.o.2.1, .slice F'.g.1 F.g.2.2.length F'.g.2.1, .slice F'.m.1 F.m.2.2.length F'.m.2.1, .slice F'.i.1 F.i.2.2.length F'.i.2.1, .slice F'.p.1 F.p.2.2.length F'.p.2.1, .slice F'.w.1 F.w.2.2.length F'.w.2.1, .slice F'.u.1 F.u.2.2.length F'.u.2.1, .slice F'.x.1 F.x.2.2.length F'.x.2.1, .slice F'.a.1 (F.a.2.2.length + 1) F'.a.2.1, .slice F'.s.1 (F.s.2.2.length + 1) F'.s.2.1, .slice F'.r.1 (F.r.2.2.length + 1) F'.r.2.1, .slice F'.o.1 (F.o.2.2.length + 1) F'.o.2.1, .slice F'.g.1 (F.g.2.2.length + 1) F'.g.2.1, .slice F'.m.1 (F.m.2.2.length + 1) F'.m.2.1, .slice F'.i.1 (F.i.2.2.length + 1) F'.i.2.1, .slice F'.p.1 (F.p.2.2.length + 1) F'.p.2.1, .slice F'.w.1 (F.w.2.2.length + 1) F'.w.2.1, .slice F'.u.1 (ls.length + 1) F'.u.2.1, .slice F'.x.1 (F.x.2.2.length + 1) F'.x.2.1, .slice lo ls.length lc] 39 (0, 0))) := by rw [hW]; exact heap_alloc_new w1 _
  have bV : Hid (Below V.heap.size V W) := RM1.out.2.trans (bW.out.mono RM1.out.2.size)
  have bw : Hid (Below w.heap.size w W) := K1.out.trans (bV.out.mono K1.out.size)
  have RMV : Hid (Rm F F' lo lc ls W) := RM1.out.1.below bW.out
  clear hW bW
  generalize w1.heap.size = q7 at *
  have KT : Hid (∀ W', Below W.heap.size W W' → Hv F F' lo lc ls R ts to ta q7 q3 q4 q5 W') := fun W' b => by
    have g7 := (b.block _ (lt_of_heap h7.out)).trans h7.out
    have bb := bV.out.trans (b.mono bV.out.size)
    have g3 := (bb.block _ (lt_of_heap K2.out.1)).trans K2.out.1
    have g4 := (bb.block _ (lt_of_heap K2.out.2.1)).trans K2.out.2.1
    have g5 := (bb.block _ (lt_of_heap K2.out.2.2)).trans K2.out.2.2
    exact ⟨g7, g3, g4, g5⟩
  have RMW : Hid (∀ W', Below W.heap.size W W' → Rm F F' lo lc ls W' ∧ F.In W' ∧ S.Ints R.ro R.rl W') := fun W' b => by
    have bb := bw.out.trans (b.mono bw.out.size)
    exact ⟨RMV.out.below b, H.out.below bb, Hr.out.below bb⟩
  have hd : Below W.heap.size W W.drew := ⟨rfl, rfl, rfl, Nat.le_refl _, fun _ _ => rfl⟩
  have C19 : Hid (∀ W', Below W.heap.size W W' → Calls Try.prog 19 #[.agg #[.slice F'.a.1 F.a.2.2.length F'.a.2.1, .slice F'.s.1 F.s.2.2.length F'.s.2.1, .slice F'.r.1 F.r.2.2.length F'.r.2.1, .slice F'.o.1 F.o.2.2.length F'.o.2.1, .slice F'.g.1 F.g.2.2.length F'.g.2.1, .slice F'.m.1 F.m.2.2.length F'.m.2.1, .slice F'.i.1 F.i.2.2.length F'.i.2.1, .slice F'.p.1 F.p.2.2.length F'.p.2.1, .slice F'.w.1 F.w.2.2.length F'.w.2.1, .slice F'.u.1 F.u.2.2.length F'.u.2.1, .slice F'.x.1 F.x.2.2.length F'.x.2.1], .agg #[R.d, .string R.who, .string R.what, .slice R.ro R.rl.length R.rc, .int .i8 R.cd, .float .f64 R.lv], .agg #[.string ts, .string to, .string ta]] W' fun e w' => e = .returned (.bool (mtc F.po R ts to ta)) ∧ Below W'.heap.size W' w') := fun W' b => matches_any (F.cut F').po R ts to ta W' (RMW.out W' b).1.given (cut_small Hp.out) (RMW.out W' b).2.2 Hrc.out Hz.out
  have C20 : Hid (∀ W', Below W.heap.size W W' → Calls Try.prog 20 #[.agg #[.slice F.a.1 F.a.2.2.length F.a.2.1, .slice F.s.1 F.s.2.2.length F.s.2.1, .slice F.r.1 F.r.2.2.length F.r.2.1, .slice F.o.1 F.o.2.2.length F.o.2.1, .slice F.g.1 F.g.2.2.length F.g.2.1, .slice F.m.1 F.m.2.2.length F.m.2.1, .slice F.i.1 F.i.2.2.length F.i.2.1, .slice F.p.1 F.p.2.2.length F.p.2.1, .slice F.w.1 F.w.2.2.length F.w.2.1, .slice F.u.1 F.u.2.2.length F.u.2.1, .slice F.x.1 F.x.2.2.length F.x.2.1], .agg #[R.d, .string R.who, .string R.what, .slice R.ro R.rl.length R.rc, .int .i8 R.cd, .float .f64 R.lv], .agg #[.string ts, .string to, .string ta]] W' fun e w' => e = .returned (.bool (mtc F.po R ts to ta)) ∧ Below W'.heap.size W' w') := fun W' b => rmatches_any F.po R ts to ta W' (RMW.out W' b).2.1.po Hp.out (RMW.out W' b).2.2 Hrc.out Hz.out
  have C21 : Hid (∀ W', Below W.heap.size W W' → Calls Try.prog 21 #[.agg #[.slice F'.a.1 F.a.2.2.length F'.a.2.1, .slice F'.s.1 F.s.2.2.length F'.s.2.1, .slice F'.r.1 F.r.2.2.length F'.r.2.1, .slice F'.o.1 F.o.2.2.length F'.o.2.1, .slice F'.g.1 F.g.2.2.length F'.g.2.1, .slice F'.m.1 F.m.2.2.length F'.m.2.1, .slice F'.i.1 F.i.2.2.length F'.i.2.1, .slice F'.p.1 F.p.2.2.length F'.p.2.1, .slice F'.w.1 F.w.2.2.length F'.w.2.1, .slice F'.u.1 F.u.2.2.length F'.u.2.1, .slice F'.x.1 F.x.2.2.length F'.x.2.1, .slice F'.a.1 (F.a.2.2.length + 1) F'.a.2.1, .slice F'.s.1 (F.s.2.2.length + 1) F'.s.2.1, .slice F'.r.1 (F.r.2.2.length + 1) F'.r.2.1, .slice F'.o.1 (F.o.2.2.length + 1) F'.o.2.1, .slice F'.g.1 (F.g.2.2.length + 1) F'.g.2.1, .slice F'.m.1 (F.m.2.2.length + 1) F'.m.2.1, .slice F'.i.1 (F.i.2.2.length + 1) F'.i.2.1, .slice F'.p.1 (F.p.2.2.length + 1) F'.p.2.1, .slice F'.w.1 (F.w.2.2.length + 1) F'.w.2.1, .slice F'.u.1 (ls.length + 1) F'.u.2.1, .slice F'.x.1 (F.x.2.2.length + 1) F'.x.2.1, .slice lo ls.length lc], .agg #[.slice F.a.1 F.a.2.2.length F.a.2.1, .slice F.s.1 F.s.2.2.length F.s.2.1, .slice F.r.1 F.r.2.2.length F.r.2.1, .slice F.o.1 F.o.2.2.length F.o.2.1, .slice F.g.1 F.g.2.2.length F.g.2.1, .slice F.m.1 F.m.2.2.length F.m.2.1, .slice F.i.1 F.i.2.2.length F.i.2.1, .slice F.p.1 F.p.2.2.length F.p.2.1, .slice F.w.1 F.w.2.2.length F.w.2.1, .slice F.u.1 F.u.2.2.length F.u.2.1, .slice F.x.1 F.x.2.2.length F.x.2.1]] W' fun e w' => e = .returned (.bool true) ∧ Below W'.heap.size W' w') := fun W' b => untouched_any F F' lo lc ls W' (RMW.out W' b).2.1 Hs.out (RMW.out W' b).1
  generalize mtc F.po R ts to ta = mv at *
  clear RMW RMV RM1 K1 K2 h7 bV H Hs Hp Hr Hz Hrc hPv hRv hQv
  refine wp_region_held_drew (S := fun W' => Hv F F' lo lc ls R ts to ta q7 q3 q4 q5 W') (by kernel_rfl) (KT.out _ hd) (fun hHeld => ?_)
  refine wpAnyH_take (i := 0) (oi := { dst := some 10, op := Op.fieldAddr 39 (Operand.tmp 7) 0, type := 0, pos := "law.go:42", after := #[], guard := none }) (v := .pointer (some ⟨q7, 0, none⟩)) rfl (by kernel_rfl) (by kernel_rfl) (by kernel_rfl) (fun _ _ _ h => h) (Or.inl ⟨by kernel_rfl, fun w hSw => ?_⟩) (by assumption) ?_
  · clear hSw; go_simp
  (try simp only [Act.put, List.setIfInBounds_toArray, List.set_cons_zero, List.set_cons_succ])
  refine wpAnyH_take (i := 1) (oi := { dst := some 11, op := Op.load 34 (Operand.tmp 10), type := 34, pos := "law.go:42", after := #[{ on := 0, ground := Ground.data }], guard := none }) (v := .agg #[.slice F'.a.1 F.a.2.2.length F'.a.2.1, .slice F'.s.1 F.s.2.2.length F'.s.2.1, .slice F'.r.1 F.r.2.2.length F'.r.2.1, .slice F'.o.1 F.o.2.2.length F'.o.2.1, .slice F'.g.1 F.g.2.2.length F'.g.2.1, .slice F'.m.1 F.m.2.2.length F'.m.2.1, .slice F'.i.1 F.i.2.2.length F'.i.2.1, .slice F'.p.1 F.p.2.2.length F'.p.2.1, .slice F'.w.1 F.w.2.2.length F'.w.2.1, .slice F'.u.1 F.u.2.2.length F'.u.2.1, .slice F'.x.1 F.x.2.2.length F'.x.2.1]) rfl (by kernel_rfl) (by kernel_rfl) (by kernel_rfl) (fun _ _ _ h => h) (Or.inl ⟨by kernel_rfl, fun w hSw => ?_⟩) (by assumption) ?_
  · exact ex_mid 34 _ rfl q7 rfl 39 [.slice F'.a.1 F.a.2.2.length F'.a.2.1, .slice F'.s.1 F.s.2.2.length F'.s.2.1, .slice F'.r.1 F.r.2.2.length F'.r.2.1, .slice F'.o.1 F.o.2.2.length F'.o.2.1, .slice F'.g.1 F.g.2.2.length F'.g.2.1, .slice F'.m.1 F.m.2.2.length F'.m.2.1, .slice F'.i.1 F.i.2.2.length F'.i.2.1, .slice F'.p.1 F.p.2.2.length F'.p.2.1, .slice F'.w.1 F.w.2.2.length F'.w.2.1, .slice F'.u.1 F.u.2.2.length F'.u.2.1, .slice F'.x.1 F.x.2.2.length F'.x.2.1] [.slice F'.a.1 (F.a.2.2.length + 1) F'.a.2.1, .slice F'.s.1 (F.s.2.2.length + 1) F'.s.2.1, .slice F'.r.1 (F.r.2.2.length + 1) F'.r.2.1, .slice F'.o.1 (F.o.2.2.length + 1) F'.o.2.1, .slice F'.g.1 (F.g.2.2.length + 1) F'.g.2.1, .slice F'.m.1 (F.m.2.2.length + 1) F'.m.2.1, .slice F'.i.1 (F.i.2.2.length + 1) F'.i.2.1, .slice F'.p.1 (F.p.2.2.length + 1) F'.p.2.1, .slice F'.w.1 (F.w.2.2.length + 1) F'.w.2.1, .slice F'.u.1 (ls.length + 1) F'.u.2.1, .slice F'.x.1 (F.x.2.2.length + 1) F'.x.2.1, .slice lo ls.length lc] (0, 0) _ hSw.h7 Try.underlying34 rfl (by kernel_rfl)
  (try simp only [Act.put, List.setIfInBounds_toArray, List.set_cons_zero, List.set_cons_succ])
  refine wpAnyH_take (i := 2) (oi := { dst := some 12, op := Op.load 27 (Operand.tmp 4), type := 27, pos := "law.go:42", after := #[], guard := none }) (v := .agg #[R.d, .string R.who, .string R.what, .slice R.ro R.rl.length R.rc, .int .i8 R.cd, .float .f64 R.lv]) rfl (by kernel_rfl) (by kernel_rfl) (by kernel_rfl) (fun _ _ _ h => h) (Or.inl ⟨by kernel_rfl, fun w hSw => ?_⟩) (by assumption) ?_
  · exact ex_row 27 _ rfl q4 rfl 27 _ (0, 0) _ hSw.h4 Try.underlying27 rfl (by kernel_rfl)
  (try simp only [Act.put, List.setIfInBounds_toArray, List.set_cons_zero, List.set_cons_succ])
  refine wpAnyH_take (i := 3) (oi := { dst := some 13, op := Op.load 36 (Operand.tmp 5), type := 36, pos := "law.go:42", after := #[], guard := none }) (v := .agg #[.string ts, .string to, .string ta]) rfl (by kernel_rfl) (by kernel_rfl) (by kernel_rfl) (fun _ _ _ h => h) (Or.inl ⟨by kernel_rfl, fun w hSw => ?_⟩) (by assumption) ?_
  · exact ex_row 36 _ rfl q5 rfl 36 _ (0, 0) _ hSw.h5 Try.underlying36 rfl (by kernel_rfl)
  (try simp only [Act.put, List.setIfInBounds_toArray, List.set_cons_zero, List.set_cons_succ])
  refine wpAnyH_take (i := 5) (oi := { dst := some 15, op := Op.load 34 (Operand.tmp 3), type := 34, pos := "law.go:42", after := #[], guard := none }) (v := .agg #[.slice F.a.1 F.a.2.2.length F.a.2.1, .slice F.s.1 F.s.2.2.length F.s.2.1, .slice F.r.1 F.r.2.2.length F.r.2.1, .slice F.o.1 F.o.2.2.length F.o.2.1, .slice F.g.1 F.g.2.2.length F.g.2.1, .slice F.m.1 F.m.2.2.length F.m.2.1, .slice F.i.1 F.i.2.2.length F.i.2.1, .slice F.p.1 F.p.2.2.length F.p.2.1, .slice F.w.1 F.w.2.2.length F.w.2.1, .slice F.u.1 F.u.2.2.length F.u.2.1, .slice F.x.1 F.x.2.2.length F.x.2.1]) rfl (by kernel_rfl) (by kernel_rfl) (by kernel_rfl) (fun _ _ _ h => h) (Or.inl ⟨by kernel_rfl, fun w hSw => ?_⟩) (by assumption) ?_
  · exact ex_row 34 _ rfl q3 rfl 34 _ (0, 0) _ hSw.h3 Try.underlying34 rfl (by kernel_rfl)
  (try simp only [Act.put, List.setIfInBounds_toArray, List.set_cons_zero, List.set_cons_succ])
  refine wpAnyH_take (i := 6) (oi := { dst := some 16, op := Op.load 27 (Operand.tmp 4), type := 27, pos := "law.go:42", after := #[], guard := none }) (v := .agg #[R.d, .string R.who, .string R.what, .slice R.ro R.rl.length R.rc, .int .i8 R.cd, .float .f64 R.lv]) rfl (by kernel_rfl) (by kernel_rfl) (by kernel_rfl) (fun _ _ _ h => h) (Or.inl ⟨by kernel_rfl, fun w hSw => ?_⟩) (by assumption) ?_
  · exact ex_row 27 _ rfl q4 rfl 27 _ (0, 0) _ hSw.h4 Try.underlying27 rfl (by kernel_rfl)
  (try simp only [Act.put, List.setIfInBounds_toArray, List.set_cons_zero, List.set_cons_succ])
  refine wpAnyH_take (i := 7) (oi := { dst := some 17, op := Op.load 36 (Operand.tmp 5), type := 36, pos := "law.go:42", after := #[], guard := none }) (v := .agg #[.string ts, .string to, .string ta]) rfl (by kernel_rfl) (by kernel_rfl) (by kernel_rfl) (fun _ _ _ h => h) (Or.inl ⟨by kernel_rfl, fun w hSw => ?_⟩) (by assumption) ?_
  · exact ex_row 36 _ rfl q5 rfl 36 _ (0, 0) _ hSw.h5 Try.underlying36 rfl (by kernel_rfl)
  (try simp only [Act.put, List.setIfInBounds_toArray, List.set_cons_zero, List.set_cons_succ])
  refine wpAnyH_ready (rs := [4]) (by kernel_rfl) (by simp) ?_
  refine AllReadyH.cons (o := { dst := some 14, op := Op.call { callee := Callee.value (Operand.func 19), args := #[Operand.tmp 11, Operand.tmp 12, Operand.tmp 13], argTypes := #[34, 27, 36] }, type := 4, pos := "law.go:42", after := #[{ on := 1, ground := Ground.data }, { on := 2, ground := Ground.data }, { on := 3, ground := Ground.data }], guard := none }) rfl (fun K hK => ?_) AllReadyH.nil
  go_simp
  refine (C19.out _ hd).mono ?_
  rintro e x1 ⟨rfl, t1⟩
  have d1 : Below W.heap.size W x1 := hd.trans (t1.mono hd.size)
  clear t1
  (try dsimp only)
  refine hK.out _ _ (KT.out _ d1) (fun hHeld => ?_)
  clear hK K
  (try simp only [Act.put, List.setIfInBounds_toArray, List.set_cons_zero, List.set_cons_succ])
  refine wpAnyH_ready (rs := [8]) (by kernel_rfl) (by simp) ?_
  refine AllReadyH.cons (o := { dst := some 18, op := Op.call { callee := Callee.value (Operand.func 20), args := #[Operand.tmp 15, Operand.tmp 16, Operand.tmp 17], argTypes := #[34, 27, 36] }, type := 4, pos := "law.go:42", after := #[{ on := 5, ground := Ground.data }, { on := 6, ground := Ground.data }, { on := 7, ground := Ground.data }, { on := 4, ground := Ground.chain }], guard := none }) rfl (fun K hK => ?_) AllReadyH.nil
  go_simp
  refine (C20.out _ d1).mono ?_
  rintro e x2 ⟨rfl, t2⟩
  have d2 : Below W.heap.size W x2 := d1.trans (t2.mono d1.size)
  clear t2
  (try dsimp only)
  refine hK.out _ _ (KT.out _ d2) (fun hHeld => ?_)
  clear hK K
  (try simp only [Act.put, List.setIfInBounds_toArray, List.set_cons_zero, List.set_cons_succ])
  refine wpAnyH_take (i := 9) (oi := { dst := some 19, op := Op.binOp BinOp.eql 4 (Operand.tmp 14) (Operand.tmp 18) 4, type := 4, pos := "law.go:42", after := #[{ on := 4, ground := Ground.data }, { on := 8, ground := Ground.data }], guard := none }) (v := .bool true) rfl (by kernel_rfl) (by kernel_rfl) (by kernel_rfl) (fun _ _ _ h => h) (Or.inl ⟨by kernel_rfl, fun w hSw => ?_⟩) (by assumption) ?_
  · clear hSw; go_simp
  (try simp only [Act.put, List.setIfInBounds_toArray, List.set_cons_zero, List.set_cons_succ])
  refine wpAnyH_take (i := 10) (oi := { dst := some 20, op := Op.move (Operand.tmp 19), type := 4, pos := "law.go:42", after := #[{ on := 9, ground := Ground.data }, { on := 8, ground := Ground.chain }], guard := none }) (v := .bool true) rfl (by kernel_rfl) (by kernel_rfl) (by kernel_rfl) (fun _ _ _ h => h) (Or.inl ⟨by kernel_rfl, fun w hSw => ?_⟩) (by assumption) ?_
  · clear hSw; go_simp
  (try simp only [Act.put, List.setIfInBounds_toArray, List.set_cons_zero, List.set_cons_succ])
  refine wpAnyH_take (i := 11) (oi := { dst := some 21, op := Op.load 39 (Operand.tmp 7), type := 39, pos := "law.go:42", after := #[{ on := 10, ground := Ground.guard }], guard := some (10, true) }) (v := .agg #[.slice F'.a.1 F.a.2.2.length F'.a.2.1, .slice F'.s.1 F.s.2.2.length F'.s.2.1, .slice F'.r.1 F.r.2.2.length F'.r.2.1, .slice F'.o.1 F.o.2.2.length F'.o.2.1, .slice F'.g.1 F.g.2.2.length F'.g.2.1, .slice F'.m.1 F.m.2.2.length F'.m.2.1, .slice F'.i.1 F.i.2.2.length F'.i.2.1, .slice F'.p.1 F.p.2.2.length F'.p.2.1, .slice F'.w.1 F.w.2.2.length F'.w.2.1, .slice F'.u.1 F.u.2.2.length F'.u.2.1, .slice F'.x.1 F.x.2.2.length F'.x.2.1, .slice F'.a.1 (F.a.2.2.length + 1) F'.a.2.1, .slice F'.s.1 (F.s.2.2.length + 1) F'.s.2.1, .slice F'.r.1 (F.r.2.2.length + 1) F'.r.2.1, .slice F'.o.1 (F.o.2.2.length + 1) F'.o.2.1, .slice F'.g.1 (F.g.2.2.length + 1) F'.g.2.1, .slice F'.m.1 (F.m.2.2.length + 1) F'.m.2.1, .slice F'.i.1 (F.i.2.2.length + 1) F'.i.2.1, .slice F'.p.1 (F.p.2.2.length + 1) F'.p.2.1, .slice F'.w.1 (F.w.2.2.length + 1) F'.w.2.1, .slice F'.u.1 (ls.length + 1) F'.u.2.1, .slice F'.x.1 (F.x.2.2.length + 1) F'.x.2.1, .slice lo ls.length lc]) rfl (by kernel_rfl) (by kernel_rfl) (by kernel_rfl) (fun _ _ _ h => h) (Or.inl ⟨by kernel_rfl, fun w hSw => ?_⟩) (by assumption) ?_
  · exact ex_row 39 _ rfl q7 rfl 39 _ (0, 0) _ hSw.h7 Try.underlying39 rfl (by kernel_rfl)
  (try simp only [Act.put, List.setIfInBounds_toArray, List.set_cons_zero, List.set_cons_succ])
  refine wpAnyH_take (i := 12) (oi := { dst := some 22, op := Op.load 34 (Operand.tmp 3), type := 34, pos := "law.go:42", after := #[{ on := 10, ground := Ground.guard }], guard := some (10, true) }) (v := .agg #[.slice F.a.1 F.a.2.2.length F.a.2.1, .slice F.s.1 F.s.2.2.length F.s.2.1, .slice F.r.1 F.r.2.2.length F.r.2.1, .slice F.o.1 F.o.2.2.length F.o.2.1, .slice F.g.1 F.g.2.2.length F.g.2.1, .slice F.m.1 F.m.2.2.length F.m.2.1, .slice F.i.1 F.i.2.2.length F.i.2.1, .slice F.p.1 F.p.2.2.length F.p.2.1, .slice F.w.1 F.w.2.2.length F.w.2.1, .slice F.u.1 F.u.2.2.length F.u.2.1, .slice F.x.1 F.x.2.2.length F.x.2.1]) rfl (by kernel_rfl) (by kernel_rfl) (by kernel_rfl) (fun _ _ _ h => h) (Or.inl ⟨by kernel_rfl, fun w hSw => ?_⟩) (by assumption) ?_
  · exact ex_row 34 _ rfl q3 rfl 34 _ (0, 0) _ hSw.h3 Try.underlying34 rfl (by kernel_rfl)
  (try simp only [Act.put, List.setIfInBounds_toArray, List.set_cons_zero, List.set_cons_succ])
  refine wpAnyH_ready (rs := [13]) (by kernel_rfl) (by simp) ?_
  refine AllReadyH.cons (o := { dst := some 23, op := Op.call { callee := Callee.value (Operand.func 21), args := #[Operand.tmp 21, Operand.tmp 22], argTypes := #[39, 34] }, type := 4, pos := "law.go:42", after := #[{ on := 11, ground := Ground.data }, { on := 12, ground := Ground.data }, { on := 10, ground := Ground.chain }, { on := 10, ground := Ground.guard }], guard := some (10, true) }) rfl (fun K hK => ?_) AllReadyH.nil
  go_simp
  refine (C21.out _ d2).mono ?_
  rintro e x3 ⟨rfl, t3⟩
  have d3 : Below W.heap.size W x3 := d2.trans (t3.mono d2.size)
  clear t3
  (try dsimp only)
  refine hK.out _ _ (KT.out _ d3) (fun hHeld => ?_)
  clear hK K
  (try simp only [Act.put, List.setIfInBounds_toArray, List.set_cons_zero, List.set_cons_succ])
  refine wpAnyH_take (i := 14) (oi := { dst := some 24, op := Op.pick (Operand.tmp 20) (Operand.tmp 23) (Operand.const (Value.bool false)), type := 4, pos := "law.go:42", after := #[{ on := 10, ground := Ground.data }, { on := 13, ground := Ground.data }], guard := none }) (v := .bool true) rfl (by kernel_rfl) (by kernel_rfl) (by kernel_rfl) (fun _ _ _ h => h) (Or.inl ⟨by kernel_rfl, fun w hSw => ?_⟩) (by assumption) ?_
  · clear hSw; go_simp
  (try simp only [Act.put, List.setIfInBounds_toArray, List.set_cons_zero, List.set_cons_succ])
  refine wpAnyH_take (i := 15) (oi := { dst := some 6, op := Op.assign (Operand.tmp 24), type := 4, pos := "law.go:42", after := #[{ on := 14, ground := Ground.data }, { on := 13, ground := Ground.chain }, { on := 0, ground := Ground.phase }, { on := 1, ground := Ground.phase }, { on := 2, ground := Ground.phase }, { on := 3, ground := Ground.phase }, { on := 4, ground := Ground.phase }, { on := 5, ground := Ground.phase }, { on := 6, ground := Ground.phase }, { on := 7, ground := Ground.phase }, { on := 8, ground := Ground.phase }, { on := 9, ground := Ground.phase }, { on := 10, ground := Ground.phase }, { on := 11, ground := Ground.phase }, { on := 12, ground := Ground.phase }, { on := 13, ground := Ground.phase }, { on := 14, ground := Ground.phase }], guard := none }) (v := .bool true) rfl (by kernel_rfl) (by kernel_rfl) (by kernel_rfl) (fun _ _ _ h => h) (Or.inl ⟨by kernel_rfl, fun w hSw => ?_⟩) (by assumption) ?_
  · clear hSw; go_simp
  (try simp only [Act.put, List.setIfInBounds_toArray, List.set_cons_zero, List.set_cons_succ])
  refine wpAnyH_done (by kernel_rfl) ?_ _
  go_wp2_with fail
  go_ret
  exact ⟨rfl, bw.out.trans (d3.mono bw.out.size)⟩
end U
end Go.Proofs.Ytgbhcfephhbalaa
