import Derived.Test.YtgbhcfephhbalaaRmf
import Derived.Deep.RegionHeld3
set_option linter.unusedVariables false
set_option linter.unusedSimpArgs false
namespace Go.Proofs.Ytgbhcfephhbalaa
open Go.RowKit Go.Maps
namespace U
set_option maxRecDepth 100000 in
set_option maxHeartbeats 4000000 in
theorem roomy_any (F : Pf) (w : World) (h : F.In w) (hs : F.Small) : Calls Try.prog 18 #[.agg F.arr] w fun e w' => RoomIs F w e w' := by
  have H := hide' h
  have Hs := hide' hs
  clear h hs
  have hPv : Hid (Value.agg F.arr = .agg #[.slice F.a.1 F.a.2.2.length F.a.2.1, .slice F.s.1 F.s.2.2.length F.s.2.1, .slice F.r.1 F.r.2.2.length F.r.2.1, .slice F.o.1 F.o.2.2.length F.o.2.1, .slice F.g.1 F.g.2.2.length F.g.2.1, .slice F.m.1 F.m.2.2.length F.m.2.1, .slice F.i.1 F.i.2.2.length F.i.2.1, .slice F.p.1 F.p.2.2.length F.p.2.1, .slice F.w.1 F.w.2.2.length F.w.2.1, .slice F.u.1 F.u.2.2.length F.u.2.1, .slice F.x.1 F.x.2.2.length F.x.2.1]) := rfl
  rw [hPv.out]
  go_enter Try.func18, Try.ntmps18
  go_wp2_with fail
  obtain ⟨V, hV⟩ : ∃ V, V = ((w.alloc (.cells #[.slice F.a.1 F.a.2.2.length F.a.2.1, .slice F.s.1 F.s.2.2.length F.s.2.1, .slice F.r.1 F.r.2.2.length F.r.2.1, .slice F.o.1 F.o.2.2.length F.o.2.1, .slice F.g.1 F.g.2.2.length F.g.2.1, .slice F.m.1 F.m.2.2.length F.m.2.1, .slice F.i.1 F.i.2.2.length F.i.2.1, .slice F.p.1 F.p.2.2.length F.p.2.1, .slice F.w.1 F.w.2.2.length F.w.2.1, .slice F.u.1 F.u.2.2.length F.u.2.1, .slice F.x.1 F.x.2.2.length F.x.2.1] 34)).alloc (.cells #[.slice none 0 0, .slice none 0 0, .slice none 0 0, .slice none 0 0, .slice none 0 0, .slice none 0 0, .slice none 0 0, .slice none 0 0, .slice none 0 0, .slice none 0 0, .slice none 0 0, .slice none 0 0, .slice none 0 0, .slice none 0 0, .slice none 0 0, .slice none 0 0, .slice none 0 0, .slice none 0 0, .slice none 0 0, .slice none 0 0, .slice none 0 0, .slice none 0 0, .slice none 0 0] 39)) := ⟨_, rfl⟩
  rw [← hV]
  have K0 : Hid (Ks F w.heap.size (w.heap.size + 1) #[.slice none 0 0, .slice none 0 0, .slice none 0 0, .slice none 0 0, .slice none 0 0, .slice none 0 0, .slice none 0 0, .slice none 0 0, .slice none 0 0, .slice none 0 0, .slice none 0 0, .slice none 0 0, .slice none 0 0, .slice none 0 0, .slice none 0 0, .slice none 0 0, .slice none 0 0, .slice none 0 0, .slice none 0 0, .slice none 0 0, .slice none 0 0, .slice none 0 0, .slice none 0 0] w V ∧ V.heap.size = w.heap.size + 2) := by
    have a1 := heap_alloc_new w (.cells #[.slice F.a.1 F.a.2.2.length F.a.2.1, .slice F.s.1 F.s.2.2.length F.s.2.1, .slice F.r.1 F.r.2.2.length F.r.2.1, .slice F.o.1 F.o.2.2.length F.o.2.1, .slice F.g.1 F.g.2.2.length F.g.2.1, .slice F.m.1 F.m.2.2.length F.m.2.1, .slice F.i.1 F.i.2.2.length F.i.2.1, .slice F.p.1 F.p.2.2.length F.p.2.1, .slice F.w.1 F.w.2.2.length F.w.2.1, .slice F.u.1 F.u.2.2.length F.u.2.1, .slice F.x.1 F.x.2.2.length F.x.2.1] 34)
    have a2 := heap_alloc_new (w.alloc (.cells #[.slice F.a.1 F.a.2.2.length F.a.2.1, .slice F.s.1 F.s.2.2.length F.s.2.1, .slice F.r.1 F.r.2.2.length F.r.2.1, .slice F.o.1 F.o.2.2.length F.o.2.1, .slice F.g.1 F.g.2.2.length F.g.2.1, .slice F.m.1 F.m.2.2.length F.m.2.1, .slice F.i.1 F.i.2.2.length F.i.2.1, .slice F.p.1 F.p.2.2.length F.p.2.1, .slice F.w.1 F.w.2.2.length F.w.2.1, .slice F.u.1 F.u.2.2.length F.u.2.1, .slice F.x.1 F.x.2.2.length F.x.2.1] 34)) (.cells #[.slice none 0 0, .slice none 0 0, .slice none 0 0, .slice none 0 0, .slice none 0 0, .slice none 0 0, .slice none 0 0, .slice none 0 0, .slice none 0 0, .slice none 0 0, .slice none 0 0, .slice none 0 0, .slice none 0 0, .slice none 0 0, .slice none 0 0, .slice none 0 0, .slice none 0 0, .slice none 0 0, .slice none 0 0, .slice none 0 0, .slice none 0 0, .slice none 0 0, .slice none 0 0] 39)
    have z1 : (w.alloc (.cells #[.slice F.a.1 F.a.2.2.length F.a.2.1, .slice F.s.1 F.s.2.2.length F.s.2.1, .slice F.r.1 F.r.2.2.length F.r.2.1, .slice F.o.1 F.o.2.2.length F.o.2.1, .slice F.g.1 F.g.2.2.length F.g.2.1, .slice F.m.1 F.m.2.2.length F.m.2.1, .slice F.i.1 F.i.2.2.length F.i.2.1, .slice F.p.1 F.p.2.2.length F.p.2.1, .slice F.w.1 F.w.2.2.length F.w.2.1, .slice F.u.1 F.u.2.2.length F.u.2.1, .slice F.x.1 F.x.2.2.length F.x.2.1] 34)).heap.size = w.heap.size + 1 := by simp
    rw [z1] at a2
    rw [hV]
    exact ⟨⟨((Below.refl _ _).alloc (Nat.le_refl _) _).alloc (by simp) _, (Below.heap_alloc _ _ _ (by omega)).trans a1, a2⟩, by simp⟩
  clear hV
  obtain ⟨b1, hb1⟩ : ∃ b1, b1 = w.heap.size := ⟨_, rfl⟩
  obtain ⟨b2, hb2⟩ : ∃ b2, b2 = w.heap.size + 1 := ⟨_, rfl⟩
  rw [← hb2, ← hb1]
  have HB := hide' (And.intro hb1 hb2)
  have K1 : Hid (Ks F b1 b2 #[.slice none 0 0, .slice none 0 0, .slice none 0 0, .slice none 0 0, .slice none 0 0, .slice none 0 0, .slice none 0 0, .slice none 0 0, .slice none 0 0, .slice none 0 0, .slice none 0 0, .slice none 0 0, .slice none 0 0, .slice none 0 0, .slice none 0 0, .slice none 0 0, .slice none 0 0, .slice none 0 0, .slice none 0 0, .slice none 0 0, .slice none 0 0, .slice none 0 0, .slice none 0 0] w V ∧ V.heap.size = w.heap.size + 2) := by rw [hb1, hb2]; exact K0
  clear K0 hb1 hb2
  have KS : Hid (∀ W, Below V.heap.size V W → Ks F b1 b2 #[.slice none 0 0, .slice none 0 0, .slice none 0 0, .slice none 0 0, .slice none 0 0, .slice none 0 0, .slice none 0 0, .slice none 0 0, .slice none 0 0, .slice none 0 0, .slice none 0 0, .slice none 0 0, .slice none 0 0, .slice none 0 0, .slice none 0 0, .slice none 0 0, .slice none 0 0, .slice none 0 0, .slice none 0 0, .slice none 0 0, .slice none 0 0, .slice none 0 0, .slice none 0 0] w W ∧ F.In W) := fun W b => by
    have hw : w.heap.size ≤ V.heap.size := K1.out.1.1.size
    have q : Ks F b1 b2 #[.slice none 0 0, .slice none 0 0, .slice none 0 0, .slice none 0 0, .slice none 0 0, .slice none 0 0, .slice none 0 0, .slice none 0 0, .slice none 0 0, .slice none 0 0, .slice none 0 0, .slice none 0 0, .slice none 0 0, .slice none 0 0, .slice none 0 0, .slice none 0 0, .slice none 0 0, .slice none 0 0, .slice none 0 0, .slice none 0 0, .slice none 0 0, .slice none 0 0, .slice none 0 0] w W := ⟨K1.out.1.1.trans (b.mono hw), (b.block b1 (lt_of_heap K1.out.1.2.1)).trans K1.out.1.2.1, (b.block b2 (lt_of_heap K1.out.1.2.2)).trans K1.out.1.2.2⟩
    exact ⟨q, H.out.below q.1⟩
  have KC : Hid (∀ W, Below V.heap.size V W → W.cell? ⟨b1, 0, none⟩ = some (.slice F.a.1 F.a.2.2.length F.a.2.1) ∧ W.cell? ⟨b1, 2, none⟩ = some (.slice F.r.1 F.r.2.2.length F.r.2.1) ∧ W.cell? ⟨b1, 3, none⟩ = some (.slice F.o.1 F.o.2.2.length F.o.2.1) ∧ W.cell? ⟨b1, 4, none⟩ = some (.slice F.g.1 F.g.2.2.length F.g.2.1)) := fun W b => ⟨(KS.out W b).1.c 0, (KS.out W b).1.c 2, (KS.out W b).1.c 3, (KS.out W b).1.c 4⟩
  have d0 : Below V.heap.size V V.drew := ⟨rfl, rfl, rfl, Nat.le_refl _, fun _ _ => rfl⟩
  have LA := hide' (fun W (b : Below V.heap.size V W) => S.longer_any F.a.1 F.a.2.1 F.a.2.2 W (KS.out W b).2.a.1 (KS.out W b).2.a.2.2 (by have := Hs.out.a; show _ < _; omega))
  have LR := hide' (fun W (b : Below V.heap.size V W) => S.longer_any F.r.1 F.r.2.1 F.r.2.2 W (KS.out W b).2.r.1 (KS.out W b).2.r.2.2 (by have := Hs.out.r; show _ < _; omega))
  have LO := hide' (fun W (b : Below V.heap.size V W) => S.longer_any F.o.1 F.o.2.1 F.o.2.2 W (KS.out W b).2.o.1 (KS.out W b).2.o.2.2 (by have := Hs.out.o; show _ < _; omega))
  have LG := hide' (fun W (b : Below V.heap.size V W) => S.longer_any F.g.1 F.g.2.1 F.g.2.2 W (KS.out W b).2.g.1 (KS.out W b).2.g.2.2 (by have := Hs.out.g; show _ < _; omega))
  obtain ⟨e0, e2, e3, e4⟩ := KC.out V (Below.refl _ _)
  refine Code.wp_mono (Q := fun e a W => e = .normal ∧ ∃ b3 g1 c1 g2 c2 g3 c3 g4 c4 : Nat, a = { tmps := #[.agg #[.slice F.a.1 F.a.2.2.length F.a.2.1, .slice F.s.1 F.s.2.2.length F.s.2.1, .slice F.r.1 F.r.2.2.length F.r.2.1, .slice F.o.1 F.o.2.2.length F.o.2.1, .slice F.g.1 F.g.2.2.length F.g.2.1, .slice F.m.1 F.m.2.2.length F.m.2.1, .slice F.i.1 F.i.2.2.length F.i.2.1, .slice F.p.1 F.p.2.2.length F.p.2.1, .slice F.w.1 F.w.2.2.length F.w.2.1, .slice F.u.1 F.u.2.2.length F.u.2.1, .slice F.x.1 F.x.2.2.length F.x.2.1], .pointer (some ⟨b1, 0, none⟩), .pointer (some ⟨b2, 0, none⟩), .pointer (some ⟨b3, 0, none⟩), undef, undef, undef, undef, undef, .pointer (some ⟨b1, 0, none⟩), .slice F.a.1 F.a.2.2.length F.a.2.1, .slice (some ⟨g1, 0, none⟩) (F.a.2.2.length + 1) c1, .pointer (some ⟨b1, 2, none⟩), .slice F.r.1 F.r.2.2.length F.r.2.1, .slice (some ⟨g2, 0, none⟩) (F.r.2.2.length + 1) c2, .pointer (some ⟨b1, 3, none⟩), .slice F.o.1 F.o.2.2.length F.o.2.1, .slice (some ⟨g3, 0, none⟩) (F.o.2.2.length + 1) c3, .pointer (some ⟨b1, 4, none⟩), .slice F.g.1 F.g.2.2.length F.g.2.1, .slice (some ⟨g4, 0, none⟩) (F.g.2.2.length + 1) c4, .agg #[.slice (some ⟨g1, 0, none⟩) (F.a.2.2.length + 1) c1, .slice none 0 0, .slice (some ⟨g2, 0, none⟩) (F.r.2.2.length + 1) c2, .slice (some ⟨g3, 0, none⟩) (F.o.2.2.length + 1) c3, .slice (some ⟨g4, 0, none⟩) (F.g.2.2.length + 1) c4, .slice none 0 0, .slice none 0 0, .slice none 0 0, .slice none 0 0, .slice none 0 0, .slice none 0 0], undef, undef, undef, undef, undef, undef, undef, undef, undef, undef, undef, undef, undef, undef, undef, undef, undef, undef, undef, undef, undef, undef, undef, undef, undef, undef, undef, undef, undef, undef, undef, undef, undef, undef, undef, undef, undef, undef, undef, undef, undef, undef, undef, undef, undef, undef, undef, undef, undef, undef, undef, undef, undef, undef, undef, undef, undef, undef, undef, undef, undef, undef, undef, undef, undef, undef, undef, undef, undef, undef, undef, undef, undef, undef, undef, undef, undef, undef, undef, undef, undef, undef, undef, undef, undef, undef, undef, undef, undef, undef, undef, undef, undef, undef, undef, undef, undef, undef, undef, undef, undef, undef, undef, undef, undef, undef, undef, undef, undef, undef, undef, undef, undef, undef, undef, undef, undef, undef, undef, undef, undef, undef, undef, undef, undef, undef, undef, undef, undef, undef, undef, undef, undef, undef, undef, undef, undef, undef, undef, undef, undef, undef, undef, undef, undef, undef, undef, undef, undef, undef, undef, undef, undef, undef], defers := [] } ∧ Hid (St b3 W.heap.size (Kk F b1 b2 #[.slice none 0 0, .slice none 0 0, .slice none 0 0, .slice none 0 0, .slice none 0 0, .slice none 0 0, .slice none 0 0, .slice none 0 0, .slice none 0 0, .slice none 0 0, .slice none 0 0, .slice none 0 0, .slice none 0 0, .slice none 0 0, .slice none 0 0, .slice none 0 0, .slice none 0 0, .slice none 0 0, .slice none 0 0, .slice none 0 0, .slice none 0 0, .slice none 0 0, .slice none 0 0] w g1 g2 g3 g4) #[.slice (some ⟨g1, 0, none⟩) (F.a.2.2.length + 1) c1, .slice none 0 0, .slice (some ⟨g2, 0, none⟩) (F.r.2.2.length + 1) c2, .slice (some ⟨g3, 0, none⟩) (F.o.2.2.length + 1) c3, .slice (some ⟨g4, 0, none⟩) (F.g.2.2.length + 1) c4, .slice none 0 0, .slice none 0 0, .slice none 0 0, .slice none 0 0, .slice none 0 0, .slice none 0 0] W ∧ ((F.a.2.2 ++ [S.sharp]).length ≤ c1 ∧ (F.r.2.2 ++ [S.sharp]).length ≤ c2) ∧ ((F.o.2.2 ++ [S.sharp]).length ≤ c3 ∧ (F.g.2.2 ++ [S.sharp]).length ≤ c4))) ?_ ?_
  rotate_left
  · go_region_held3 (fun W => W.cell? ⟨b1, 0, none⟩ = some (.slice F.a.1 F.a.2.2.length F.a.2.1) ∧ W.cell? ⟨b1, 2, none⟩ = some (.slice F.r.1 F.r.2.2.length F.r.2.1) ∧ W.cell? ⟨b1, 3, none⟩ = some (.slice F.o.1 F.o.2.2.length F.o.2.1) ∧ W.cell? ⟨b1, 4, none⟩ = some (.slice F.g.1 F.g.2.2.length F.g.2.1)) (first | with_reducible exact KC.out _ d0 | with_reducible exact KC.out _ d4 | with_reducible exact KC.out _ d3 | with_reducible exact KC.out _ d2 | with_reducible exact KC.out _ d1 | with_reducible exact KC.out _ dq | with_reducible exact KC.out _ (d4.alloc d4.size _) | with_reducible exact KC.out _ (d3.alloc d3.size _) | with_reducible exact KC.out _ (d2.alloc d2.size _) | with_reducible exact KC.out _ (d1.alloc d1.size _) | with_reducible exact KC.out _ (d0.alloc d0.size _) | go_keep) (first | (go_at_call 43; (fail_if_success (have G := d1)); (first | (refine (LA.out _ d0).mono ?_; rintro e w1 ⟨g1, c1, rfl, r1, t1⟩; have T1 := hide' t1; have N1 := r1.lt g1 ⟨_, rfl, rfl⟩; (first | (have G3 := h3; clear G3; have h3 := (t1.block _ (lt_of_heap h3)).trans h3) | skip)) | (refine (LA.out _ (d0.alloc d0.size _)).mono ?_; rintro e w1 ⟨g1, c1, rfl, r1, t1⟩; have h3 : w1.heap[V.heap.size]? = some (.cells #[.slice none 0 0, .slice none 0 0, .slice none 0 0, .slice none 0 0, .slice none 0 0, .slice none 0 0, .slice none 0 0, .slice none 0 0, .slice none 0 0, .slice none 0 0, .slice none 0 0] 34 (0, 0)) := (t1.block V.drew.heap.size (by simp)).trans (heap_alloc_new V.drew _); have N1 := r1.lt g1 ⟨_, rfl, rfl⟩; rw [show ∀ o : Obj, (V.drew.alloc o).heap.size = V.drew.heap.size + 1 from fun o => by simp] at N1; have t1 : Below V.drew.heap.size V.drew w1 := ((Below.refl _ _).alloc (Nat.le_refl _) _).trans (t1.mono (by simp)); have T1 := hide' t1)); have d1 : Below V.heap.size V w1 := d0.trans (t1.mono d0.size); have R1 := hide' r1; have M1 := hide' N1; clear r1 t1 N1) | (go_at_call 43; have G := d1; (fail_if_success (have G := d2)); (first | (refine (LR.out _ d1).mono ?_; rintro e w2 ⟨g2, c2, rfl, r2, t2⟩; have T2 := hide' t2; have N2 := r2.lt g2 ⟨_, rfl, rfl⟩; (first | (have G3 := h3; clear G3; have h3 := (t2.block _ (lt_of_heap h3)).trans h3) | skip)) | (refine (LR.out _ (d1.alloc d1.size _)).mono ?_; rintro e w2 ⟨g2, c2, rfl, r2, t2⟩; have h3 : w2.heap[w1.heap.size]? = some (.cells #[.slice none 0 0, .slice none 0 0, .slice none 0 0, .slice none 0 0, .slice none 0 0, .slice none 0 0, .slice none 0 0, .slice none 0 0, .slice none 0 0, .slice none 0 0, .slice none 0 0] 34 (0, 0)) := (t2.block w1.heap.size (by simp)).trans (heap_alloc_new w1 _); have N2 := r2.lt g2 ⟨_, rfl, rfl⟩; rw [show ∀ o : Obj, (w1.alloc o).heap.size = w1.heap.size + 1 from fun o => by simp] at N2; have t2 : Below w1.heap.size w1 w2 := ((Below.refl _ _).alloc (Nat.le_refl _) _).trans (t2.mono (by simp)); have T2 := hide' t2)); have d2 : Below V.heap.size V w2 := d1.trans (t2.mono d1.size); have R2 := hide' r2; have M2 := hide' N2; clear r2 t2 N2) | (go_at_call 43; have G := d2; (fail_if_success (have G := d3)); (first | (refine (LO.out _ d2).mono ?_; rintro e w3 ⟨g3, c3, rfl, r3, t3⟩; have T3 := hide' t3; have N3 := r3.lt g3 ⟨_, rfl, rfl⟩; (first | (have G3 := h3; clear G3; have h3 := (t3.block _ (lt_of_heap h3)).trans h3) | skip)) | (refine (LO.out _ (d2.alloc d2.size _)).mono ?_; rintro e w3 ⟨g3, c3, rfl, r3, t3⟩; have h3 : w3.heap[w2.heap.size]? = some (.cells #[.slice none 0 0, .slice none 0 0, .slice none 0 0, .slice none 0 0, .slice none 0 0, .slice none 0 0, .slice none 0 0, .slice none 0 0, .slice none 0 0, .slice none 0 0, .slice none 0 0] 34 (0, 0)) := (t3.block w2.heap.size (by simp)).trans (heap_alloc_new w2 _); have N3 := r3.lt g3 ⟨_, rfl, rfl⟩; rw [show ∀ o : Obj, (w2.alloc o).heap.size = w2.heap.size + 1 from fun o => by simp] at N3; have t3 : Below w2.heap.size w2 w3 := ((Below.refl _ _).alloc (Nat.le_refl _) _).trans (t3.mono (by simp)); have T3 := hide' t3)); have d3 : Below V.heap.size V w3 := d2.trans (t3.mono d2.size); have R3 := hide' r3; have M3 := hide' N3; clear r3 t3 N3) | (go_at_call 43; have G := d3; (first | (refine (LG.out _ d3).mono ?_; rintro e w4 ⟨g4, c4, rfl, r4, t4⟩; have T4 := hide' t4; have N4 := r4.lt g4 ⟨_, rfl, rfl⟩; (first | (have G3 := h3; clear G3; have h3 := (t4.block _ (lt_of_heap h3)).trans h3) | skip)) | (refine (LG.out _ (d3.alloc d3.size _)).mono ?_; rintro e w4 ⟨g4, c4, rfl, r4, t4⟩; have h3 : w4.heap[w3.heap.size]? = some (.cells #[.slice none 0 0, .slice none 0 0, .slice none 0 0, .slice none 0 0, .slice none 0 0, .slice none 0 0, .slice none 0 0, .slice none 0 0, .slice none 0 0, .slice none 0 0, .slice none 0 0] 34 (0, 0)) := (t4.block w3.heap.size (by simp)).trans (heap_alloc_new w3 _); have N4 := r4.lt g4 ⟨_, rfl, rfl⟩; rw [show ∀ o : Obj, (w3.alloc o).heap.size = w3.heap.size + 1 from fun o => by simp] at N4; have t4 : Below w3.heap.size w3 w4 := ((Below.refl _ _).alloc (Nat.le_refl _) _).trans (t4.mono (by simp)); have T4 := hide' t4)); have d4 : Below V.heap.size V w4 := d3.trans (t4.mono d3.size); have R4 := hide' r4; have M4 := hide' N4; (first | (have G3 := h3; clear G3; obtain ⟨qc0, qf0, qc1, qf1, qc2, qf2, qc3, qf3, qc4, qf4, qc5, qf5, qc6, qf6, qc7, qf7, qc8, qf8, qc9, qf9, qc10, qf10, qh, qt⟩ := st34 h3 (.slice (some ⟨g1, 0, none⟩) (F.a.2.2.length + 1) c1) (.slice none 0 0) (.slice (some ⟨g2, 0, none⟩) (F.r.2.2.length + 1) c2) (.slice (some ⟨g3, 0, none⟩) (F.o.2.2.length + 1) c3) (.slice (some ⟨g4, 0, none⟩) (F.g.2.2.length + 1) c4) (.slice none 0 0) (.slice none 0 0) (.slice none 0 0) (.slice none 0 0) (.slice none 0 0) (.slice none 0 0); have dq := d4.trans (below_own qt (fun _ q => by rw [q]; first | exact d3.size | exact d2.size | exact d1.size | exact d0.size) d4.size); have QH := hide' (And.intro qh qt); clear qh qt) | skip); clear r4 t4 N4))
    all_goals (refine ⟨rfl, _, g1, c1, g2, c2, g3, c3, g4, c4, rfl, ?_⟩)
    all_goals (first | (have G3 := QH; clear G3) | (have QH := hide' (And.intro (heap_alloc_new w4 (.cells #[.slice (some ⟨g1, 0, none⟩) (F.a.2.2.length + 1) c1, .slice none 0 0, .slice (some ⟨g2, 0, none⟩) (F.r.2.2.length + 1) c2, .slice (some ⟨g3, 0, none⟩) (F.o.2.2.length + 1) c3, .slice (some ⟨g4, 0, none⟩) (F.g.2.2.length + 1) c4, .slice none 0 0, .slice none 0 0, .slice none 0 0, .slice none 0 0, .slice none 0 0, .slice none 0 0] 34)) ((Turn.refl (fun j => j = w4.heap.size) w4).alloc (.cells #[.slice (some ⟨g1, 0, none⟩) (F.a.2.2.length + 1) c1, .slice none 0 0, .slice (some ⟨g2, 0, none⟩) (F.r.2.2.length + 1) c2, .slice (some ⟨g3, 0, none⟩) (F.o.2.2.length + 1) c3, .slice (some ⟨g4, 0, none⟩) (F.g.2.2.length + 1) c4, .slice none 0 0, .slice none 0 0, .slice none 0 0, .slice none 0 0, .slice none 0 0, .slice none 0 0] 34))); have dq := d4.alloc d4.size (.cells #[.slice (some ⟨g1, 0, none⟩) (F.a.2.2.length + 1) c1, .slice none 0 0, .slice (some ⟨g2, 0, none⟩) (F.r.2.2.length + 1) c2, .slice (some ⟨g3, 0, none⟩) (F.o.2.2.length + 1) c3, .slice (some ⟨g4, 0, none⟩) (F.g.2.2.length + 1) c4, .slice none 0 0, .slice none 0 0, .slice none 0 0, .slice none 0 0, .slice none 0 0, .slice none 0 0] 34)))
    all_goals (
      have u3 := (turn_below T4.out).trans QH.out.2
      have u2 := (turn_below (T3.out.trans (T4.out.mono T3.out.size))).trans QH.out.2
      have u1 := (turn_below (T2.out.trans ((T3.out.trans (T4.out.mono T3.out.size)).mono T2.out.size))).trans QH.out.2
      have hz : V.drew.heap.size = V.heap.size := rfl
      have m1 := M1.out
      have m2 := M2.out
      have m3 := M3.out
      have m4 := M4.out
      have s1 := T1.out.size
      have s2 := T2.out.size
      have s3 := T3.out.size
      have s4 := T4.out.size
      have sq := QH.out.2.size
      refine ⟨room_end KS.out HB.out K1.out.2 dq (by omega) QH.out.1 (kept_s R1.out u1 (by omega)) (kept_s R2.out u2 (by omega)) (kept_s R3.out u3 (by omega)) (kept_s R4.out QH.out.2 (by omega)) ⟨⟨by omega, by omega⟩, ⟨by omega, by omega⟩, ⟨by omega, by omega⟩, ⟨by omega, by omega⟩⟩, ⟨⟨R1.out.cap, R2.out.cap⟩, ⟨R3.out.cap, R4.out.cap⟩⟩⟩)
  rintro _ a V1 ⟨rfl, b3, g1, c1, g2, c2, g3, c3, g4, c4, rfl, ST1⟩
  clear e0 e2 e3 e4 LA LR LO LG KS KC K1 d0 hPv V
  simp only [Exit.then]
  obtain ⟨K1, HK1, HS1, S1⟩ : ∃ K : World → Prop, Hid (∀ W, K W → Kk F b1 b2 #[.slice none 0 0, .slice none 0 0, .slice none 0 0, .slice none 0 0, .slice none 0 0, .slice none 0 0, .slice none 0 0, .slice none 0 0, .slice none 0 0, .slice none 0 0, .slice none 0 0, .slice none 0 0, .slice none 0 0, .slice none 0 0, .slice none 0 0, .slice none 0 0, .slice none 0 0, .slice none 0 0, .slice none 0 0, .slice none 0 0, .slice none 0 0, .slice none 0 0, .slice none 0 0] w g1 g2 g3 g4 W) ∧ Hid (∀ W, K W → Ks F b1 b2 #[.slice none 0 0, .slice none 0 0, .slice none 0 0, .slice none 0 0, .slice none 0 0, .slice none 0 0, .slice none 0 0, .slice none 0 0, .slice none 0 0, .slice none 0 0, .slice none 0 0, .slice none 0 0, .slice none 0 0, .slice none 0 0, .slice none 0 0, .slice none 0 0, .slice none 0 0, .slice none 0 0, .slice none 0 0, .slice none 0 0, .slice none 0 0, .slice none 0 0, .slice none 0 0] w W) ∧ Hid (St b3 V1.heap.size K #[.slice (some ⟨g1, 0, none⟩) (F.a.2.2.length + 1) c1, .slice none 0 0, .slice (some ⟨g2, 0, none⟩) (F.r.2.2.length + 1) c2, .slice (some ⟨g3, 0, none⟩) (F.o.2.2.length + 1) c3, .slice (some ⟨g4, 0, none⟩) (F.g.2.2.length + 1) c4, .slice none 0 0, .slice none 0 0, .slice none 0 0, .slice none 0 0, .slice none 0 0, .slice none 0 0] V1) := ⟨_, fun _ q => q, fun _ q => q.1.1.1.1, ST1.out.1⟩
  have CAP := hide' ST1.out.2
  clear ST1
  have INV : Hid (∀ W, Ks F b1 b2 #[.slice none 0 0, .slice none 0 0, .slice none 0 0, .slice none 0 0, .slice none 0 0, .slice none 0 0, .slice none 0 0, .slice none 0 0, .slice none 0 0, .slice none 0 0, .slice none 0 0, .slice none 0 0, .slice none 0 0, .slice none 0 0, .slice none 0 0, .slice none 0 0, .slice none 0 0, .slice none 0 0, .slice none 0 0, .slice none 0 0, .slice none 0 0, .slice none 0 0, .slice none 0 0] w W → F.In W) := fun W q => H.out.below q.1
  have e31 : V1.cell? ⟨b3, 1, none⟩ = some (.slice none 0 0) := S1.out.cell 1
  have e11 : V1.cell? ⟨b1, 1, none⟩ = some (.slice F.s.1 F.s.2.2.length F.s.2.1) := (HS1.out V1 S1.out.k).c 1
  have I1 := hide' (INV.out V1 (HS1.out V1 S1.out.k))
  have hbs : Hid (F.s.2.2.length < 1099511627776) := by have := Hs.out.s; show _ < _; omega
  go_wp2_with (at_builtin; refine stay_app _ _ _ rfl ?_)
  unfold Stay
  refine T.wpList_appS _ rfl _ _ rfl V1.heap.size F.s.1 F.s.2.1 F.s.2.2 rfl rfl I1.out.s.1 I1.out.s.2.2 hbs (Nat.le_refl _) ?_
  intro o5 c5 w5 r5 t5
  have S5 := hide' (S1.out.below t5)
  have RS : Hid (T.RowI V1.heap.size o5 c5 F.s.2.2 (w5.setCell ⟨b3, 1, none⟩ (.slice o5 F.s.2.2.length c5))) := r5.turn (set_turn b3 1 _ w5) (fun j q z => by have := (r5.lt j q).1; have := S1.out.hb; omega)
  have q5 : w5.cell? ⟨b3, 1, none⟩ = some (.slice none 0 0) := S5.out.cell 1
  have f5 := S5.out.frozen 1
  have SP : Hid (St b3 V1.heap.size K1 #[.slice (some ⟨g1, 0, none⟩) (F.a.2.2.length + 1) c1, .slice o5 F.s.2.2.length c5, .slice (some ⟨g2, 0, none⟩) (F.r.2.2.length + 1) c2, .slice (some ⟨g3, 0, none⟩) (F.o.2.2.length + 1) c3, .slice (some ⟨g4, 0, none⟩) (F.g.2.2.length + 1) c4, .slice none 0 0, .slice none 0 0, .slice none 0 0, .slice none 0 0, .slice none 0 0, .slice none 0 0] (w5.setCell ⟨b3, 1, none⟩ (.slice o5 F.s.2.2.length c5))) := S5.out.put' 1 _ rfl
  have q6 : (w5.setCell ⟨b3, 1, none⟩ (.slice o5 F.s.2.2.length c5)).cell? ⟨b3, 1, none⟩ = some (.slice o5 F.s.2.2.length c5) := SP.out.cell 1
  clear r5 t5 S5
  go_wp2_with (at_builtin; refine stay_app _ _ _ rfl ?_)
  unfold Stay
  refine T.wpList_app1 _ rfl _ _ rfl V1.heap.size o5 c5 F.s.2.2 tsharp _ 1 rfl RS.out (by rw [size_set]; rfl) hbs SP.out.hB ?_
  intro g6 c6 w6 r6 t6 hg6 hl6
  have S6 := hide' (SP.out.grow t6 (fun j q => (RS.out.lt j q).1))
  have q7 : w6.cell? ⟨b3, 1, none⟩ = some (.slice o5 F.s.2.2.length c5) := S6.out.cell 1
  have f7 := S6.out.frozen 1
  have S7 : Hid (St b3 V1.heap.size K1 #[.slice (some ⟨g1, 0, none⟩) (F.a.2.2.length + 1) c1, .slice (some ⟨g6, 0, none⟩) (F.s.2.2.length + 1) c6, .slice (some ⟨g2, 0, none⟩) (F.r.2.2.length + 1) c2, .slice (some ⟨g3, 0, none⟩) (F.o.2.2.length + 1) c3, .slice (some ⟨g4, 0, none⟩) (F.g.2.2.length + 1) c4, .slice none 0 0, .slice none 0 0, .slice none 0 0, .slice none 0 0, .slice none 0 0, .slice none 0 0] (w6.setCell ⟨b3, 1, none⟩ (.slice (some ⟨g6, 0, none⟩) (F.s.2.2.length + 1) c6))) := S6.out.put' 1 _ rfl
  have R6 := hide' r6
  have e15 : (w6.setCell ⟨b3, 1, none⟩ (.slice (some ⟨g6, 0, none⟩) (F.s.2.2.length + 1) c6)).cell? ⟨b1, 5, none⟩ = some (.slice F.m.1 F.m.2.2.length F.m.2.1) := (HS1.out _ S7.out.k).c 5
  clear r6 t6 hg6 hl6 S6
  go_wp2_with fail
  obtain ⟨K2, HK2, HS2, S2⟩ : ∃ K : World → Prop, Hid (∀ W, K W → K1 W ∧ Subs (some ⟨g6, 0, none⟩) (F.s.2.2 ++ [tsharp]) W) ∧ Hid (∀ W, K W → Ks F b1 b2 #[.slice none 0 0, .slice none 0 0, .slice none 0 0, .slice none 0 0, .slice none 0 0, .slice none 0 0, .slice none 0 0, .slice none 0 0, .slice none 0 0, .slice none 0 0, .slice none 0 0, .slice none 0 0, .slice none 0 0, .slice none 0 0, .slice none 0 0, .slice none 0 0, .slice none 0 0, .slice none 0 0, .slice none 0 0, .slice none 0 0, .slice none 0 0, .slice none 0 0, .slice none 0 0] w W) ∧ Hid (St b3 (w6.setCell ⟨b3, 1, none⟩ (.slice (some ⟨g6, 0, none⟩) (F.s.2.2.length + 1) c6)).heap.size K #[.slice (some ⟨g1, 0, none⟩) (F.a.2.2.length + 1) c1, .slice (some ⟨g6, 0, none⟩) (F.s.2.2.length + 1) c6, .slice (some ⟨g2, 0, none⟩) (F.r.2.2.length + 1) c2, .slice (some ⟨g3, 0, none⟩) (F.o.2.2.length + 1) c3, .slice (some ⟨g4, 0, none⟩) (F.g.2.2.length + 1) c4, .slice none 0 0, .slice none 0 0, .slice none 0 0, .slice none 0 0, .slice none 0 0, .slice none 0 0] (w6.setCell ⟨b3, 1, none⟩ (.slice (some ⟨g6, 0, none⟩) (F.s.2.2.length + 1) c6))) := by
    have hg := R6.out.lt g6 ⟨_, rfl, rfl⟩
    have hb := S1.out.hb
    exact S7.out.add' (stab_t (by rw [size_set]; exact hg.2) (by omega)) (kept_t R6.out (set_turn b3 1 _ w6) (by omega)) HS1.out
  have CS := hide' R6.out.cap
  clear S1 S7 SP RS R6 e31 e11 I1 q5 f5 q6 q7 f7 e15
  generalize w6.setCell ⟨b3, 1, none⟩ (.slice (some ⟨g6, 0, none⟩) (F.s.2.2.length + 1) c6) = V2 at *
  have I2 := hide' (INV.out V2 (HS2.out V2 S2.out.k))
  refine (Q.pairs_any F.m.1 F.m.2.1 F.m.2.2 V2 I2.out.m.1 I2.out.m.2.2 (by have := Hs.out.m; show _ < _; omega)).mono ?_
  rintro e w20 ⟨g20, c20, rfl, r20, t20⟩
  have q20 : w20.cell? ⟨b3, 5, none⟩ = some (.slice none 0 0) := (S2.out.below t20).cell 5
  have f20 := (S2.out.below t20).frozen 5
  obtain ⟨K3, HK3', HS3', S3'⟩ := S2.out.pairs (cs' := #[.slice (some ⟨g1, 0, none⟩) (F.a.2.2.length + 1) c1, .slice (some ⟨g6, 0, none⟩) (F.s.2.2.length + 1) c6, .slice (some ⟨g2, 0, none⟩) (F.r.2.2.length + 1) c2, .slice (some ⟨g3, 0, none⟩) (F.o.2.2.length + 1) c3, .slice (some ⟨g4, 0, none⟩) (F.g.2.2.length + 1) c4, .slice (some ⟨g20, 0, none⟩) (F.m.2.2.length + 1) c20, .slice none 0 0, .slice none 0 0, .slice none 0 0, .slice none 0 0, .slice none 0 0]) (i := 5) (v := .slice (some ⟨g20, 0, none⟩) (F.m.2.2.length + 1) c20) HS2.out r20 t20 rfl
  have HK3 := hide' HK3'
  have HS3 := hide' HS3'
  have S3 := hide' S3'
  have CP20 := hide' r20.cap
  have z20 : (w20.setCell ⟨b3, 5, none⟩ (.slice (some ⟨g20, 0, none⟩) (F.m.2.2.length + 1) c20)).cell? ⟨b1, 6, none⟩ = some (.slice F.i.1 F.i.2.2.length F.i.2.1) := (HS3.out _ S3.out.k).c 6
  clear HK3' HS3' S3' r20 t20 I2 S2
  go_wp2_with fail
  clear q20 f20 z20
  generalize w20.setCell ⟨b3, 5, none⟩ (.slice (some ⟨g20, 0, none⟩) (F.m.2.2.length + 1) c20) = V3 at *
  have I3 := hide' (INV.out V3 (HS3.out V3 S3.out.k))
  refine (Q.pairs_any F.i.1 F.i.2.1 F.i.2.2 V3 I3.out.i.1 I3.out.i.2.2 (by have := Hs.out.i; show _ < _; omega)).mono ?_
  rintro e w21 ⟨g21, c21, rfl, r21, t21⟩
  have q21 : w21.cell? ⟨b3, 6, none⟩ = some (.slice none 0 0) := (S3.out.below t21).cell 6
  have f21 := (S3.out.below t21).frozen 6
  obtain ⟨K4, HK4', HS4', S4'⟩ := S3.out.pairs (cs' := #[.slice (some ⟨g1, 0, none⟩) (F.a.2.2.length + 1) c1, .slice (some ⟨g6, 0, none⟩) (F.s.2.2.length + 1) c6, .slice (some ⟨g2, 0, none⟩) (F.r.2.2.length + 1) c2, .slice (some ⟨g3, 0, none⟩) (F.o.2.2.length + 1) c3, .slice (some ⟨g4, 0, none⟩) (F.g.2.2.length + 1) c4, .slice (some ⟨g20, 0, none⟩) (F.m.2.2.length + 1) c20, .slice (some ⟨g21, 0, none⟩) (F.i.2.2.length + 1) c21, .slice none 0 0, .slice none 0 0, .slice none 0 0, .slice none 0 0]) (i := 6) (v := .slice (some ⟨g21, 0, none⟩) (F.i.2.2.length + 1) c21) HS3.out r21 t21 rfl
  have HK4 := hide' HK4'
  have HS4 := hide' HS4'
  have S4 := hide' S4'
  have CP21 := hide' r21.cap
  have z21 : (w21.setCell ⟨b3, 6, none⟩ (.slice (some ⟨g21, 0, none⟩) (F.i.2.2.length + 1) c21)).cell? ⟨b1, 7, none⟩ = some (.slice F.p.1 F.p.2.2.length F.p.2.1) := (HS4.out _ S4.out.k).c 7
  clear HK4' HS4' S4' r21 t21 I3 S3
  go_wp2_with fail
  clear q21 f21 z21
  generalize w21.setCell ⟨b3, 6, none⟩ (.slice (some ⟨g21, 0, none⟩) (F.i.2.2.length + 1) c21) = V4 at *
  have I4 := hide' (INV.out V4 (HS4.out V4 S4.out.k))
  refine (Q.pairs_any F.p.1 F.p.2.1 F.p.2.2 V4 I4.out.p.1 I4.out.p.2.2 (by have := Hs.out.p; show _ < _; omega)).mono ?_
  rintro e w22 ⟨g22, c22, rfl, r22, t22⟩
  have q22 : w22.cell? ⟨b3, 7, none⟩ = some (.slice none 0 0) := (S4.out.below t22).cell 7
  have f22 := (S4.out.below t22).frozen 7
  obtain ⟨K5, HK5', HS5', S5'⟩ := S4.out.pairs (cs' := #[.slice (some ⟨g1, 0, none⟩) (F.a.2.2.length + 1) c1, .slice (some ⟨g6, 0, none⟩) (F.s.2.2.length + 1) c6, .slice (some ⟨g2, 0, none⟩) (F.r.2.2.length + 1) c2, .slice (some ⟨g3, 0, none⟩) (F.o.2.2.length + 1) c3, .slice (some ⟨g4, 0, none⟩) (F.g.2.2.length + 1) c4, .slice (some ⟨g20, 0, none⟩) (F.m.2.2.length + 1) c20, .slice (some ⟨g21, 0, none⟩) (F.i.2.2.length + 1) c21, .slice (some ⟨g22, 0, none⟩) (F.p.2.2.length + 1) c22, .slice none 0 0, .slice none 0 0, .slice none 0 0]) (i := 7) (v := .slice (some ⟨g22, 0, none⟩) (F.p.2.2.length + 1) c22) HS4.out r22 t22 rfl
  have HK5 := hide' HK5'
  have HS5 := hide' HS5'
  have S5 := hide' S5'
  have CP22 := hide' r22.cap
  have z22 : (w22.setCell ⟨b3, 7, none⟩ (.slice (some ⟨g22, 0, none⟩) (F.p.2.2.length + 1) c22)).cell? ⟨b1, 8, none⟩ = some (.slice F.w.1 F.w.2.2.length F.w.2.1) := (HS5.out _ S5.out.k).c 8
  clear HK5' HS5' S5' r22 t22 I4 S4
  go_wp2_with fail
  clear q22 f22 z22
  generalize w22.setCell ⟨b3, 7, none⟩ (.slice (some ⟨g22, 0, none⟩) (F.p.2.2.length + 1) c22) = V5 at *
  have I5 := hide' (INV.out V5 (HS5.out V5 S5.out.k))
  refine (Q.pairs_any F.w.1 F.w.2.1 F.w.2.2 V5 I5.out.w.1 I5.out.w.2.2 (by have := Hs.out.w; show _ < _; omega)).mono ?_
  rintro e w23 ⟨g23, c23, rfl, r23, t23⟩
  have q23 : w23.cell? ⟨b3, 8, none⟩ = some (.slice none 0 0) := (S5.out.below t23).cell 8
  have f23 := (S5.out.below t23).frozen 8
  obtain ⟨K6, HK6', HS6', S6'⟩ := S5.out.pairs (cs' := #[.slice (some ⟨g1, 0, none⟩) (F.a.2.2.length + 1) c1, .slice (some ⟨g6, 0, none⟩) (F.s.2.2.length + 1) c6, .slice (some ⟨g2, 0, none⟩) (F.r.2.2.length + 1) c2, .slice (some ⟨g3, 0, none⟩) (F.o.2.2.length + 1) c3, .slice (some ⟨g4, 0, none⟩) (F.g.2.2.length + 1) c4, .slice (some ⟨g20, 0, none⟩) (F.m.2.2.length + 1) c20, .slice (some ⟨g21, 0, none⟩) (F.i.2.2.length + 1) c21, .slice (some ⟨g22, 0, none⟩) (F.p.2.2.length + 1) c22, .slice (some ⟨g23, 0, none⟩) (F.w.2.2.length + 1) c23, .slice none 0 0, .slice none 0 0]) (i := 8) (v := .slice (some ⟨g23, 0, none⟩) (F.w.2.2.length + 1) c23) HS5.out r23 t23 rfl
  have HK6 := hide' HK6'
  have HS6 := hide' HS6'
  have S6 := hide' S6'
  have CP23 := hide' r23.cap
  have z23 : True := trivial
  clear HK6' HS6' S6' r23 t23 I5 S5
  go_wp2_with fail
  clear q23 f23 z23
  generalize w23.setCell ⟨b3, 8, none⟩ (.slice (some ⟨g23, 0, none⟩) (F.w.2.2.length + 1) c23) = V6 at *
  obtain ⟨C, HC⟩ : ∃ C : Value → Array Value, Hid (∀ v, C v = #[.slice (some ⟨g1, 0, none⟩) (F.a.2.2.length + 1) c1, .slice (some ⟨g6, 0, none⟩) (F.s.2.2.length + 1) c6, .slice (some ⟨g2, 0, none⟩) (F.r.2.2.length + 1) c2, .slice (some ⟨g3, 0, none⟩) (F.o.2.2.length + 1) c3, .slice (some ⟨g4, 0, none⟩) (F.g.2.2.length + 1) c4, .slice (some ⟨g20, 0, none⟩) (F.m.2.2.length + 1) c20, .slice (some ⟨g21, 0, none⟩) (F.i.2.2.length + 1) c21, .slice (some ⟨g22, 0, none⟩) (F.p.2.2.length + 1) c22, .slice (some ⟨g23, 0, none⟩) (F.w.2.2.length + 1) c23, v, .slice none 0 0]) := ⟨_, fun _ => rfl⟩
  have hC9 : Hid (∀ u v, (C u).setIfInBounds 9 v = C v) := fun u v => by rw [HC.out, HC.out]; rfl
  have hCc : Hid (∀ v, (C v)[9]? = some v) := fun v => by rw [HC.out]; rfl
  have L0 : Hid (Lp F b3 V6.heap.size K6 C 0 [] none none 0 0 V6) := Lp.nil (by rw [HC.out]; exact S6.out)
  have hul : (F.u.2.2.length : Int) ≤ 1048576 := by have := Hs.out.u; omega
  clear S6
  generalize hB6 : V6.heap.size = B6 at *
  clear hB6
  go_loopw [4, 5] (fun lv iv wx => ∃ (n : Nat) (ls : List (Ru × Nat × Nat)) (lo uo : Option Addr) (lc uc : Nat), iv = .int .i64 (n : Int) ∧ n ≤ F.u.2.2.length ∧ lv = .slice lo ls.length lc ∧ Hid (Lp F b3 B6 K6 C n ls lo uo lc uc wx)) (fun _ iv _ => F.u.2.2.length - (intOf iv).toNat)
  case atStart => exact ⟨0, [], none, none, 0, 0, rfl, Nat.zero_le _, rfl, L0⟩
  case round =>
    obtain ⟨n, ls, lo, uo, lc, uc, rfl, hn, rfl, HL⟩ := hrel
    clear L0
    have hlen := hide' (HL.out.len hn)
    have e19 : wr.cell? ⟨b1, 9, none⟩ = some (.slice F.u.1 F.u.2.2.length F.u.2.1) := (HS6.out wr HL.out.st.k).c 9
    have IU := hide' (INV.out wr (HS6.out wr HL.out.st.k)).u
    have huc := IU.out.2.1
    by_cases hlt : n < F.u.2.2.length
    · have hlt' : (n : Int) < (F.u.2.2.length : Int) := by omega
      have hn64 : (n : Int) < 1048577 := by omega
      obtain ⟨R, hR⟩ : ∃ R, F.u.2.2[n]? = some R := ⟨_, List.getElem?_eq_getElem hlt⟩
      obtain ⟨ub, uoff, huo, hub, hc⟩ := IU.out.1.1.at (show (F.u.2.2.map Ru.cells)[n]? = some R.cells by rw [List.getElem?_map, hR]; rfl)
      obtain ⟨hRo, ⟨bv, hbv⟩, hRl⟩ := IU.out.1.2 R (List.mem_of_getElem? hR)
      obtain ⟨d, who, what, ro, rc, rl, cd, lv⟩ := R
      simp only at hbv hRo hRl
      subst hbv
      have x0 : wr.cell? ⟨ub, uoff + n * 6, none⟩ = some (.bool bv) := hc 0 _ rfl
      have x1 : wr.cell? ⟨ub, uoff + n * 6 + 1, none⟩ = some (.string who) := hc 1 _ rfl
      have x2 : wr.cell? ⟨ub, uoff + n * 6 + 2, none⟩ = some (.string what) := hc 2 _ rfl
      have x3 : wr.cell? ⟨ub, uoff + n * 6 + 3, none⟩ = some (.slice ro rl.length rc) := hc 3 _ rfl
      have x4 : wr.cell? ⟨ub, uoff + n * 6 + 4, none⟩ = some (.int .i8 cd) := hc 4 _ rfl
      have x5 : wr.cell? ⟨ub, uoff + n * 6 + 5, none⟩ = some (.float .f64 lv) := hc 5 _ rfl
      rw [huo] at e19
      have HR := hide' hR
      have HRo := hide' hRo
      have hrl64 : (rl.length : Int) ≤ 1048576 := by omega
      clear hR hc huo hub hRo hRl IU
      have hsf : ∀ (a : Addr) (k : FloatKind) (b : Nat) (m : Mode) (w : World), (store a (.float k b) m).run Try.prog w = stored Try.prog w a (.float k b) m := fun a k b m w => run_store Try.prog w a _ m rfl
      go_wp2_with fail
      refine (S.longer_any ro rc rl _ (HRo.out.1.below ((Below.refl _ _).alloc (Nat.le_refl _) _)) HRo.out.2.2 (by show _ < _; omega)).mono ?_
      rintro e w1 ⟨g, c, rfl, r1, t1⟩
      have hr1 : Hid (w1.heap[wr.heap.size]? = some (.cells #[.bool bv, .string who, .string what, .slice ro rl.length rc, .int .i8 cd, .float .f64 lv] 27 (0, 0))) := (t1.block wr.heap.size (by simp)).trans (heap_alloc_new wr _)
      have tv := hide' (bel_alloc t1)
      have rl1 := hide' (HL.out.l.below tv.out)
      have hcap := r1.cap
      rw [List.length_append, List.length_singleton] at hcap
      have A1 := hide' (And.intro r1 t1)
      clear r1 t1 x0 x1 x2 x3 x4 x5 e19
      go_wp2_with (at_builtin; refine stay_app _ _ _ rfl ?_)
      unfold Stay
      refine G.wpList_app1 w1 rfl _ _ 37 25 1 24 (.slice none 0 0) rfl Try.underlying37 G.info25 rfl (by decide) (by decide) B6 lo lc (ls.map lcells) (lcells (⟨.bool bv, who, what, ro, rc, rl, cd, lv⟩, g, c)) rfl (by simp [lcells, Value.oneCell']) _ 1 (by rw [List.length_map]; rfl) rl1.out rfl (by rw [List.length_map]; have := hlen.out; show _ < _; omega) (Nat.le_trans HL.out.st.hB tv.out.size) ?_
      intro g2 c2 w2 r2 t2 h2 l2
      rw [List.length_map]
      have A2 := hide' (And.intro r2 (And.intro t2 (And.intro h2 l2)))
      have hrb : wr.heap.size < w1.heap.size := lt_of_heap hr1.out
      have hnl : ¬ G.At lo wr.heap.size := fun q => by have := (HL.out.l.lt _ q).2; omega
      have hr2 := hide' ((t2.block wr.heap.size hrb hnl).trans hr1.out)
      have y3 : w2.cell? ⟨wr.heap.size, 3, none⟩ = some (.slice ro rl.length rc) := by rw [Lib.cell_of_heap hr2.out]; rfl
      have y3f := Lib.frozen_of_heap hr2.out 3
      have hw3 : Hid ((w2.setCell ⟨wr.heap.size, 3, none⟩ (.slice (some ⟨g, 0, none⟩) rl.length c)).heap[wr.heap.size]? = some (.cells #[.bool bv, .string who, .string what, .slice (some ⟨g, 0, none⟩) rl.length c, .int .i8 cd, .float .f64 lv] 27 (0, 0))) := (heap_set hr2.out).trans rfl
      have w3c : (w2.setCell ⟨wr.heap.size, 3, none⟩ (.slice (some ⟨g, 0, none⟩) rl.length c)).cell? ⟨wr.heap.size, 0, none⟩ = some (.bool bv) ∧ (w2.setCell ⟨wr.heap.size, 3, none⟩ (.slice (some ⟨g, 0, none⟩) rl.length c)).cell? ⟨wr.heap.size, 1, none⟩ = some (.string who) ∧ (w2.setCell ⟨wr.heap.size, 3, none⟩ (.slice (some ⟨g, 0, none⟩) rl.length c)).cell? ⟨wr.heap.size, 2, none⟩ = some (.string what) ∧ (w2.setCell ⟨wr.heap.size, 3, none⟩ (.slice (some ⟨g, 0, none⟩) rl.length c)).cell? ⟨wr.heap.size, 3, none⟩ = some (.slice (some ⟨g, 0, none⟩) rl.length c) ∧ (w2.setCell ⟨wr.heap.size, 3, none⟩ (.slice (some ⟨g, 0, none⟩) rl.length c)).cell? ⟨wr.heap.size, 4, none⟩ = some (.int .i8 cd) ∧ (w2.setCell ⟨wr.heap.size, 3, none⟩ (.slice (some ⟨g, 0, none⟩) rl.length c)).cell? ⟨wr.heap.size, 5, none⟩ = some (.float .f64 lv) := ⟨by rw [Lib.cell_of_heap hw3.out]; rfl, by rw [Lib.cell_of_heap hw3.out]; rfl, by rw [Lib.cell_of_heap hw3.out]; rfl, by rw [Lib.cell_of_heap hw3.out]; rfl, by rw [Lib.cell_of_heap hw3.out]; rfl, by rw [Lib.cell_of_heap hw3.out]; rfl⟩
      obtain ⟨y0, y1, y2, y3', y4, y5⟩ := w3c
      have S3 := hide' (HL.out.st3 tv.out t2 (.slice (some ⟨g, 0, none⟩) rl.length c))
      have U3 := hide' (HL.out.u3 tv.out t2 (.slice (some ⟨g, 0, none⟩) rl.length c))
      have e39 : (w2.setCell ⟨wr.heap.size, 3, none⟩ (.slice (some ⟨g, 0, none⟩) rl.length c)).cell? ⟨b3, 9, none⟩ = some (.slice uo ls.length uc) := (S3.out.cell 9).trans (hCc.out _)
      clear r2 t2 h2 l2
      go_wp2_with (at_builtin; refine stay_app _ _ _ rfl ?_)
      unfold Stay
      refine G.wpList_app1 (w2.setCell ⟨wr.heap.size, 3, none⟩ (.slice (some ⟨g, 0, none⟩) rl.length c)) rfl _ _ 31 27 6 80 _ rfl Try.underlying31 G.info27 rfl (by decide) (by decide) B6 uo uc (ls.map ucells) (ucells (⟨.bool bv, who, what, ro, rc, rl, cd, lv⟩, g, c)) rfl (by simp [ucells, Ru.cells, Ru.moved, Value.oneCell']) _ 1 (by rw [List.length_map]; rfl) U3.out (by rw [size_set]; rfl) (by rw [List.length_map]; have := hlen.out; show _ < _; omega) S3.out.hB ?_
      intro g4 c4 w4 r4 t4 h4 l4
      rw [List.length_map]
      have S4 := hide' (S3.out.grow t4 (fun j q => (HL.out.u.lt j q).1))
      have y9 : w4.cell? ⟨b3, 9, none⟩ = some (.slice uo ls.length uc) := (S4.out.cell 9).trans (hCc.out _)
      have y9f := S4.out.frozen 9
      have FIN := hide' (HL.out.step hn HR.out hC9.out A1.out.1 A1.out.2 A2.out.1 A2.out.2.1 A2.out.2.2.1 A2.out.2.2.2 r4 t4 h4 l4)
      clear r4 t4 h4 l4 S3 S4 U3 A1 A2 HL
      go_wp2_with fail
      exact ⟨⟨n + 1, ls ++ [(⟨.bool bv, who, what, ro, rc, rl, cd, lv⟩, g, c)], some ⟨g2, 0, none⟩, some ⟨g4, 0, none⟩, c2, c4, by go_num, by omega, by simp, FIN⟩, by simp [intOf]; omega⟩
    · have hnl : n = F.u.2.2.length := by omega
      subst hnl
      have hlt' : ¬ (F.u.2.2.length : Int) < (F.u.2.2.length : Int) := by omega
      have e39 : wr.cell? ⟨b3, 9, none⟩ = some (.slice uo ls.length uc) := (HL.out.st.cell 9).trans (hCc.out _)
      clear IU hlt
      go_wp2_with (at_builtin; refine stay_app _ _ _ rfl ?_)
      unfold Stay
      refine G.wpList_app1 wr rfl _ _ 31 27 6 80 _ rfl Try.underlying31 G.info27 rfl (by decide) (by decide) B6 uo uc (ls.map ucells) usharp.cells rfl (by simp [usharp, Ru.cells, Value.oneCell']) _ 1 (by rw [List.length_map]; rfl) HL.out.u rfl (by rw [List.length_map]; have := hlen.out; show _ < _; omega) HL.out.st.hB ?_
      intro g7 c7 w7 r7 t7 h7 l7
      rw [List.length_map]
      have S7 := hide' (HL.out.st.grow t7 (fun j q => (HL.out.u.lt j q).1))
      have y9 : w7.cell? ⟨b3, 9, none⟩ = some (.slice uo ls.length uc) := (S7.out.cell 9).trans (hCc.out _)
      have y9f := S7.out.frozen 9
      obtain ⟨K7, HK7', HS7', SV7', CU'⟩ := HL.out.fin hC9.out HS6.out r7 t7 h7 l7
      have HK7 := hide' HK7'
      have HS7 := hide' HS7'
      have SV7 := hide' SV7'
      have CU := hide' CU'
      have EL := hide' HL.out.el
      clear HK7' HS7' SV7' CU' r7 t7 h7 l7 S7 HL
      obtain ⟨V7, hV7⟩ : ∃ V7, V7 = w7.setCell ⟨b3, 9, none⟩ (.slice (some ⟨g7, 0, none⟩) (ls.length + 1) c7) := ⟨_, rfl⟩
      rw [← hV7] at SV7
      have e310 : (w7.setCell ⟨b3, 9, none⟩ (.slice (some ⟨g7, 0, none⟩) (ls.length + 1) c7)).cell? ⟨b3, 10, none⟩ = some (.slice none 0 0) := by rw [← hV7]; exact (SV7.out.cell 10).trans (by rw [HC.out]; rfl)
      have e110 : (w7.setCell ⟨b3, 9, none⟩ (.slice (some ⟨g7, 0, none⟩) (ls.length + 1) c7)).cell? ⟨b1, 10, none⟩ = some (.slice F.x.1 F.x.2.2.length F.x.2.1) := by rw [← hV7]; exact (HS7.out V7 SV7.out.k).c 10
      go_wp2_with (at_builtin; refine stay_app _ _ _ rfl ?_)
      unfold Stay
      rw [← hV7]
      clear hV7 e310 e110 y9 y9f e39 e19
      have I7 := hide' (INV.out V7 (HS7.out V7 SV7.out.k)).x
      have hbx : Hid (F.x.2.2.length < 1099511627776) := by have := Hs.out.x; show _ < _; omega
      refine X.wpList_appS _ rfl _ _ rfl V7.heap.size F.x.1 F.x.2.1 F.x.2.2 rfl rfl I7.out.1 I7.out.2.2 hbx (Nat.le_refl _) ?_
      intro o8 c8 w8 r8 t8
      have S8 := hide' (SV7.out.below t8)
      have RX : Hid (X.RowI V7.heap.size o8 c8 F.x.2.2 (w8.setCell ⟨b3, 10, none⟩ (.slice o8 F.x.2.2.length c8))) := r8.turn (set_turn b3 10 _ w8) (fun j q z => by have := (r8.lt j q).1; have := SV7.out.hb; omega)
      have q8 : w8.cell? ⟨b3, 10, none⟩ = some (.slice none 0 0) := (S8.out.cell 10).trans (by rw [HC.out]; rfl)
      have f8 := S8.out.frozen 10
      have SX : Hid (St b3 V7.heap.size K7 #[.slice (some ⟨g1, 0, none⟩) (F.a.2.2.length + 1) c1, .slice (some ⟨g6, 0, none⟩) (F.s.2.2.length + 1) c6, .slice (some ⟨g2, 0, none⟩) (F.r.2.2.length + 1) c2, .slice (some ⟨g3, 0, none⟩) (F.o.2.2.length + 1) c3, .slice (some ⟨g4, 0, none⟩) (F.g.2.2.length + 1) c4, .slice (some ⟨g20, 0, none⟩) (F.m.2.2.length + 1) c20, .slice (some ⟨g21, 0, none⟩) (F.i.2.2.length + 1) c21, .slice (some ⟨g22, 0, none⟩) (F.p.2.2.length + 1) c22, .slice (some ⟨g23, 0, none⟩) (F.w.2.2.length + 1) c23, .slice (some ⟨g7, 0, none⟩) (ls.length + 1) c7, .slice o8 F.x.2.2.length c8] (w8.setCell ⟨b3, 10, none⟩ (.slice o8 F.x.2.2.length c8))) := S8.out.put' 10 _ (by rw [HC.out]; rfl)
      have q9 : (w8.setCell ⟨b3, 10, none⟩ (.slice o8 F.x.2.2.length c8)).cell? ⟨b3, 10, none⟩ = some (.slice o8 F.x.2.2.length c8) := SX.out.cell 10
      clear r8 t8 S8
      go_wp2_with (at_builtin; refine stay_app _ _ _ rfl ?_)
      unfold Stay
      refine X.wpList_app1 _ rfl _ _ rfl V7.heap.size o8 c8 F.x.2.2 xsharp _ 1 rfl RX.out (by rw [size_set]; rfl) hbx SX.out.hB ?_
      intro g9 c9 w9 r9 t9 hg9 hl9
      have S9 := hide' (SX.out.grow t9 (fun j q => (RX.out.lt j q).1))
      have q10 : w9.cell? ⟨b3, 10, none⟩ = some (.slice o8 F.x.2.2.length c8) := S9.out.cell 10
      have f10 := S9.out.frozen 10
      have S10 : Hid (St b3 V7.heap.size K7 #[.slice (some ⟨g1, 0, none⟩) (F.a.2.2.length + 1) c1, .slice (some ⟨g6, 0, none⟩) (F.s.2.2.length + 1) c6, .slice (some ⟨g2, 0, none⟩) (F.r.2.2.length + 1) c2, .slice (some ⟨g3, 0, none⟩) (F.o.2.2.length + 1) c3, .slice (some ⟨g4, 0, none⟩) (F.g.2.2.length + 1) c4, .slice (some ⟨g20, 0, none⟩) (F.m.2.2.length + 1) c20, .slice (some ⟨g21, 0, none⟩) (F.i.2.2.length + 1) c21, .slice (some ⟨g22, 0, none⟩) (F.p.2.2.length + 1) c22, .slice (some ⟨g23, 0, none⟩) (F.w.2.2.length + 1) c23, .slice (some ⟨g7, 0, none⟩) (ls.length + 1) c7, .slice (some ⟨g9, 0, none⟩) (F.x.2.2.length + 1) c9] (w9.setCell ⟨b3, 10, none⟩ (.slice (some ⟨g9, 0, none⟩) (F.x.2.2.length + 1) c9))) := S9.out.put' 10 _ rfl
      have R9 := hide' r9
      clear r9 t9 hg9 hl9 S9
      go_wp2_with fail
      obtain ⟨K9, HK9, HS9, S11⟩ : ∃ K : World → Prop, Hid (∀ W, K W → K7 W ∧ X.Ints (some ⟨g9, 0, none⟩) (F.x.2.2 ++ [xsharp]) W) ∧ Hid (∀ W, K W → Ks F b1 b2 #[.slice none 0 0, .slice none 0 0, .slice none 0 0, .slice none 0 0, .slice none 0 0, .slice none 0 0, .slice none 0 0, .slice none 0 0, .slice none 0 0, .slice none 0 0, .slice none 0 0, .slice none 0 0, .slice none 0 0, .slice none 0 0, .slice none 0 0, .slice none 0 0, .slice none 0 0, .slice none 0 0, .slice none 0 0, .slice none 0 0, .slice none 0 0, .slice none 0 0, .slice none 0 0] w W) ∧ Hid (St b3 (w9.setCell ⟨b3, 10, none⟩ (.slice (some ⟨g9, 0, none⟩) (F.x.2.2.length + 1) c9)).heap.size K #[.slice (some ⟨g1, 0, none⟩) (F.a.2.2.length + 1) c1, .slice (some ⟨g6, 0, none⟩) (F.s.2.2.length + 1) c6, .slice (some ⟨g2, 0, none⟩) (F.r.2.2.length + 1) c2, .slice (some ⟨g3, 0, none⟩) (F.o.2.2.length + 1) c3, .slice (some ⟨g4, 0, none⟩) (F.g.2.2.length + 1) c4, .slice (some ⟨g20, 0, none⟩) (F.m.2.2.length + 1) c20, .slice (some ⟨g21, 0, none⟩) (F.i.2.2.length + 1) c21, .slice (some ⟨g22, 0, none⟩) (F.p.2.2.length + 1) c22, .slice (some ⟨g23, 0, none⟩) (F.w.2.2.length + 1) c23, .slice (some ⟨g7, 0, none⟩) (ls.length + 1) c7, .slice (some ⟨g9, 0, none⟩) (F.x.2.2.length + 1) c9] (w9.setCell ⟨b3, 10, none⟩ (.slice (some ⟨g9, 0, none⟩) (F.x.2.2.length + 1) c9))) := by
        have hg := R9.out.lt g9 ⟨_, rfl, rfl⟩
        have hb := SV7.out.hb
        exact S10.out.add' (stab_x (by rw [size_set]; exact hg.2) (by omega)) (kept_x R9.out (set_turn b3 10 _ w9) (by omega)) HS7.out
      have CX := hide' R9.out.cap
      clear S10 SX RX R9 q8 f8 q9 q10 f10 I7 SV7
      generalize w9.setCell ⟨b3, 10, none⟩ (.slice (some ⟨g9, 0, none⟩) (F.x.2.2.length + 1) c9) = V9 at *
      have capf : (F.a.2.2.length ≤ c1 ∧ F.s.2.2.length ≤ c6) ∧ (F.r.2.2.length ≤ c2 ∧ F.o.2.2.length ≤ c3 ∧ F.g.2.2.length ≤ c4) ∧ (F.m.2.2.length ≤ c20 ∧ F.i.2.2.length ≤ c21 ∧ F.p.2.2.length ≤ c22 ∧ F.w.2.2.length ≤ c23) ∧ (F.u.2.2.length ≤ c7 ∧ F.x.2.2.length ≤ c9) := by
        have := CAP.out
        have := CS.out
        have := CP20.out
        have := CP21.out
        have := CP22.out
        have := CP23.out
        have := CX.out
        have := CU.out.2.1
        have := hlen.out
        simp only [List.length_append, List.length_singleton] at *
        omega
      obtain ⟨⟨ka, ks⟩, ⟨kr, ko, kg⟩, ⟨km, ki, kp, kw⟩, ⟨ku, kx⟩⟩ := capf
      have KD : Hid (∀ W, Below V9.heap.size V9 W → W.cell? ⟨b3, 0, none⟩ = some (.slice (some ⟨g1, 0, none⟩) (F.a.2.2.length + 1) c1) ∧ W.cell? ⟨b3, 1, none⟩ = some (.slice (some ⟨g6, 0, none⟩) (F.s.2.2.length + 1) c6) ∧ W.cell? ⟨b3, 2, none⟩ = some (.slice (some ⟨g2, 0, none⟩) (F.r.2.2.length + 1) c2) ∧ W.cell? ⟨b3, 3, none⟩ = some (.slice (some ⟨g3, 0, none⟩) (F.o.2.2.length + 1) c3) ∧ W.cell? ⟨b3, 4, none⟩ = some (.slice (some ⟨g4, 0, none⟩) (F.g.2.2.length + 1) c4) ∧ W.cell? ⟨b1, 0, none⟩ = some (.slice F.a.1 F.a.2.2.length F.a.2.1) ∧ W.cell? ⟨b1, 1, none⟩ = some (.slice F.s.1 F.s.2.2.length F.s.2.1) ∧ W.cell? ⟨b1, 2, none⟩ = some (.slice F.r.1 F.r.2.2.length F.r.2.1) ∧ W.cell? ⟨b1, 3, none⟩ = some (.slice F.o.1 F.o.2.2.length F.o.2.1) ∧ W.cell? ⟨b1, 4, none⟩ = some (.slice F.g.1 F.g.2.2.length F.g.2.1)) := fun W b => by
        have hk := HS9.out W (S11.out.below b).k
        have s3 := S11.out.below b
        exact ⟨s3.cell 0, s3.cell 1, s3.cell 2, s3.cell 3, s3.cell 4, hk.c 0, hk.c 1, hk.c 2, hk.c 3, hk.c 4⟩
      have d0 : Below V9.heap.size V9 V9.drew := ⟨rfl, rfl, rfl, Nat.le_refl _, fun _ _ => rfl⟩
      obtain ⟨m0, m1, m2, m3, m4, n0, n1, n2, n3, n4⟩ := KD.out V9 (Below.refl _ _)
      go_region_held3 (fun W => W.cell? ⟨b3, 0, none⟩ = some (.slice (some ⟨g1, 0, none⟩) (F.a.2.2.length + 1) c1) ∧ W.cell? ⟨b3, 1, none⟩ = some (.slice (some ⟨g6, 0, none⟩) (F.s.2.2.length + 1) c6) ∧ W.cell? ⟨b3, 2, none⟩ = some (.slice (some ⟨g2, 0, none⟩) (F.r.2.2.length + 1) c2) ∧ W.cell? ⟨b3, 3, none⟩ = some (.slice (some ⟨g3, 0, none⟩) (F.o.2.2.length + 1) c3) ∧ W.cell? ⟨b3, 4, none⟩ = some (.slice (some ⟨g4, 0, none⟩) (F.g.2.2.length + 1) c4) ∧ W.cell? ⟨b1, 0, none⟩ = some (.slice F.a.1 F.a.2.2.length F.a.2.1) ∧ W.cell? ⟨b1, 1, none⟩ = some (.slice F.s.1 F.s.2.2.length F.s.2.1) ∧ W.cell? ⟨b1, 2, none⟩ = some (.slice F.r.1 F.r.2.2.length F.r.2.1) ∧ W.cell? ⟨b1, 3, none⟩ = some (.slice F.o.1 F.o.2.2.length F.o.2.1) ∧ W.cell? ⟨b1, 4, none⟩ = some (.slice F.g.1 F.g.2.2.length F.g.2.1)) (first | with_reducible exact KD.out _ d0 | with_reducible exact KD.out _ (d0.alloc d0.size _) | go_keep) (fail)
      rename_i hHeld
      clear hHeld
      obtain ⟨V10, hV10⟩ : ∃ V10, V10 = (V9.alloc (.cells #[.slice (some ⟨g1, 0, none⟩) F.a.2.2.length c1, .slice (some ⟨g6, 0, none⟩) F.s.2.2.length c6, .slice (some ⟨g2, 0, none⟩) F.r.2.2.length c2, .slice (some ⟨g3, 0, none⟩) F.o.2.2.length c3, .slice (some ⟨g4, 0, none⟩) F.g.2.2.length c4, .slice none 0 0, .slice none 0 0, .slice none 0 0, .slice none 0 0, .slice none 0 0, .slice none 0 0] 34)).drew := ⟨_, rfl⟩
      rw [← hV10]
      have d10 : Below V9.heap.size V9 V10 := by rw [hV10]; have b := (Below.refl V9.heap.size V9).alloc (Nat.le_refl _) (.cells #[.slice (some ⟨g1, 0, none⟩) F.a.2.2.length c1, .slice (some ⟨g6, 0, none⟩) F.s.2.2.length c6, .slice (some ⟨g2, 0, none⟩) F.r.2.2.length c2, .slice (some ⟨g3, 0, none⟩) F.o.2.2.length c3, .slice (some ⟨g4, 0, none⟩) F.g.2.2.length c4, .slice none 0 0, .slice none 0 0, .slice none 0 0, .slice none 0 0, .slice none 0 0, .slice none 0 0] 34); exact ⟨b.os, b.tape, b.output, b.size, b.block⟩
      have h10 : V10.heap[V9.heap.size]? = some (.cells #[.slice (some ⟨g1, 0, none⟩) F.a.2.2.length c1, .slice (some ⟨g6, 0, none⟩) F.s.2.2.length c6, .slice (some ⟨g2, 0, none⟩) F.r.2.2.length c2, .slice (some ⟨g3, 0, none⟩) F.o.2.2.length c3, .slice (some ⟨g4, 0, none⟩) F.g.2.2.length c4, .slice none 0 0, .slice none 0 0, .slice none 0 0, .slice none 0 0, .slice none 0 0, .slice none 0 0] 34 (0, 0)) := by rw [hV10]; exact heap_alloc_new V9 (.cells #[.slice (some ⟨g1, 0, none⟩) F.a.2.2.length c1, .slice (some ⟨g6, 0, none⟩) F.s.2.2.length c6, .slice (some ⟨g2, 0, none⟩) F.r.2.2.length c2, .slice (some ⟨g3, 0, none⟩) F.o.2.2.length c3, .slice (some ⟨g4, 0, none⟩) F.g.2.2.length c4, .slice none 0 0, .slice none 0 0, .slice none 0 0, .slice none 0 0, .slice none 0 0, .slice none 0 0] 34)
      obtain ⟨K10, HK10', HS10', S12'⟩ := S11.out.next (b8 := V9.heap.size) HS9.out d10 h10 (Nat.le_refl _)
      have HK10 := hide' HK10'
      have HS10 := hide' HS10'
      have P0 := hide' S12'
      clear HK10' HS10' S12' hV10 KD d0 m0 m1 m2 m3 m4 n0 n1 n2 n3 n4 S11 d10 h10
      generalize V9.heap.size = b8 at *
      generalize V10.heap.size = B10 at *

      have a5 : V10.cell? ⟨b3, 5, none⟩ = some (.slice (some ⟨g20, 0, none⟩) (F.m.2.2.length + 1) c20) := by rw [Lib.cell_of_heap (HK10.out _ P0.out.k).2]; rfl
      have bb5 : V10.cell? ⟨b1, 5, none⟩ = some (.slice F.m.1 F.m.2.2.length F.m.2.1) := (HS10.out _ P0.out.k).c 5
      have c5' : V10.cell? ⟨b8, 5, none⟩ = some (.slice none 0 0) := P0.out.cell 5
      have f5' := P0.out.frozen 5
      have P1 : Hid (St b8 B10 K10 #[.slice (some ⟨g1, 0, none⟩) F.a.2.2.length c1, .slice (some ⟨g6, 0, none⟩) F.s.2.2.length c6, .slice (some ⟨g2, 0, none⟩) F.r.2.2.length c2, .slice (some ⟨g3, 0, none⟩) F.o.2.2.length c3, .slice (some ⟨g4, 0, none⟩) F.g.2.2.length c4, .slice (some ⟨g20, 0, none⟩) F.m.2.2.length c20, .slice none 0 0, .slice none 0 0, .slice none 0 0, .slice none 0 0, .slice none 0 0] (V10.setCell ⟨b8, 5, none⟩ (.slice (some ⟨g20, 0, none⟩) F.m.2.2.length c20))) := P0.out.put' 5 _ rfl
      clear P0
      simp only [Exit.then]
      go_wp2_with (with_reducible refine stay_fa 6 rfl ?_)
      unfold Stay
      clear a5 bb5 c5' f5'
      generalize V10.setCell ⟨b8, 5, none⟩ (.slice (some ⟨g20, 0, none⟩) F.m.2.2.length c20) = V11 at *
      have a6 : V11.cell? ⟨b3, 6, none⟩ = some (.slice (some ⟨g21, 0, none⟩) (F.i.2.2.length + 1) c21) := by rw [Lib.cell_of_heap (HK10.out _ P1.out.k).2]; rfl
      have bb6 : V11.cell? ⟨b1, 6, none⟩ = some (.slice F.i.1 F.i.2.2.length F.i.2.1) := (HS10.out _ P1.out.k).c 6
      have c6' : V11.cell? ⟨b8, 6, none⟩ = some (.slice none 0 0) := P1.out.cell 6
      have f6' := P1.out.frozen 6
      have P2 : Hid (St b8 B10 K10 #[.slice (some ⟨g1, 0, none⟩) F.a.2.2.length c1, .slice (some ⟨g6, 0, none⟩) F.s.2.2.length c6, .slice (some ⟨g2, 0, none⟩) F.r.2.2.length c2, .slice (some ⟨g3, 0, none⟩) F.o.2.2.length c3, .slice (some ⟨g4, 0, none⟩) F.g.2.2.length c4, .slice (some ⟨g20, 0, none⟩) F.m.2.2.length c20, .slice (some ⟨g21, 0, none⟩) F.i.2.2.length c21, .slice none 0 0, .slice none 0 0, .slice none 0 0, .slice none 0 0] (V11.setCell ⟨b8, 6, none⟩ (.slice (some ⟨g21, 0, none⟩) F.i.2.2.length c21))) := P1.out.put' 6 _ rfl
      clear P1
      go_wp2_with (with_reducible refine stay_fa 7 rfl ?_)
      unfold Stay
      clear a6 bb6 c6' f6'
      generalize V11.setCell ⟨b8, 6, none⟩ (.slice (some ⟨g21, 0, none⟩) F.i.2.2.length c21) = V12 at *
      have a7 : V12.cell? ⟨b3, 7, none⟩ = some (.slice (some ⟨g22, 0, none⟩) (F.p.2.2.length + 1) c22) := by rw [Lib.cell_of_heap (HK10.out _ P2.out.k).2]; rfl
      have bb7 : V12.cell? ⟨b1, 7, none⟩ = some (.slice F.p.1 F.p.2.2.length F.p.2.1) := (HS10.out _ P2.out.k).c 7
      have c7' : V12.cell? ⟨b8, 7, none⟩ = some (.slice none 0 0) := P2.out.cell 7
      have f7' := P2.out.frozen 7
      have P3 : Hid (St b8 B10 K10 #[.slice (some ⟨g1, 0, none⟩) F.a.2.2.length c1, .slice (some ⟨g6, 0, none⟩) F.s.2.2.length c6, .slice (some ⟨g2, 0, none⟩) F.r.2.2.length c2, .slice (some ⟨g3, 0, none⟩) F.o.2.2.length c3, .slice (some ⟨g4, 0, none⟩) F.g.2.2.length c4, .slice (some ⟨g20, 0, none⟩) F.m.2.2.length c20, .slice (some ⟨g21, 0, none⟩) F.i.2.2.length c21, .slice (some ⟨g22, 0, none⟩) F.p.2.2.length c22, .slice none 0 0, .slice none 0 0, .slice none 0 0] (V12.setCell ⟨b8, 7, none⟩ (.slice (some ⟨g22, 0, none⟩) F.p.2.2.length c22))) := P2.out.put' 7 _ rfl
      clear P2
      go_wp2_with (with_reducible refine stay_fa 8 rfl ?_)
      unfold Stay
      clear a7 bb7 c7' f7'
      generalize V12.setCell ⟨b8, 7, none⟩ (.slice (some ⟨g22, 0, none⟩) F.p.2.2.length c22) = V13 at *
      have a8 : V13.cell? ⟨b3, 8, none⟩ = some (.slice (some ⟨g23, 0, none⟩) (F.w.2.2.length + 1) c23) := by rw [Lib.cell_of_heap (HK10.out _ P3.out.k).2]; rfl
      have bb8 : V13.cell? ⟨b1, 8, none⟩ = some (.slice F.w.1 F.w.2.2.length F.w.2.1) := (HS10.out _ P3.out.k).c 8
      have c8' : V13.cell? ⟨b8, 8, none⟩ = some (.slice none 0 0) := P3.out.cell 8
      have f8' := P3.out.frozen 8
      have P4 : Hid (St b8 B10 K10 #[.slice (some ⟨g1, 0, none⟩) F.a.2.2.length c1, .slice (some ⟨g6, 0, none⟩) F.s.2.2.length c6, .slice (some ⟨g2, 0, none⟩) F.r.2.2.length c2, .slice (some ⟨g3, 0, none⟩) F.o.2.2.length c3, .slice (some ⟨g4, 0, none⟩) F.g.2.2.length c4, .slice (some ⟨g20, 0, none⟩) F.m.2.2.length c20, .slice (some ⟨g21, 0, none⟩) F.i.2.2.length c21, .slice (some ⟨g22, 0, none⟩) F.p.2.2.length c22, .slice (some ⟨g23, 0, none⟩) F.w.2.2.length c23, .slice none 0 0, .slice none 0 0] (V13.setCell ⟨b8, 8, none⟩ (.slice (some ⟨g23, 0, none⟩) F.w.2.2.length c23))) := P3.out.put' 8 _ rfl
      clear P3
      go_wp2_with (with_reducible refine stay_fa 9 rfl ?_)
      unfold Stay
      clear a8 bb8 c8' f8'
      generalize V13.setCell ⟨b8, 8, none⟩ (.slice (some ⟨g23, 0, none⟩) F.w.2.2.length c23) = V14 at *
      have a9 : V14.cell? ⟨b3, 9, none⟩ = some (.slice (some ⟨g7, 0, none⟩) (ls.length + 1) c7) := by rw [Lib.cell_of_heap (HK10.out _ P4.out.k).2]; rfl
      have bb9 : V14.cell? ⟨b1, 9, none⟩ = some (.slice F.u.1 F.u.2.2.length F.u.2.1) := (HS10.out _ P4.out.k).c 9
      have c9' : V14.cell? ⟨b8, 9, none⟩ = some (.slice none 0 0) := P4.out.cell 9
      have f9' := P4.out.frozen 9
      have P5 : Hid (St b8 B10 K10 #[.slice (some ⟨g1, 0, none⟩) F.a.2.2.length c1, .slice (some ⟨g6, 0, none⟩) F.s.2.2.length c6, .slice (some ⟨g2, 0, none⟩) F.r.2.2.length c2, .slice (some ⟨g3, 0, none⟩) F.o.2.2.length c3, .slice (some ⟨g4, 0, none⟩) F.g.2.2.length c4, .slice (some ⟨g20, 0, none⟩) F.m.2.2.length c20, .slice (some ⟨g21, 0, none⟩) F.i.2.2.length c21, .slice (some ⟨g22, 0, none⟩) F.p.2.2.length c22, .slice (some ⟨g23, 0, none⟩) F.w.2.2.length c23, .slice (some ⟨g7, 0, none⟩) F.u.2.2.length c7, .slice none 0 0] (V14.setCell ⟨b8, 9, none⟩ (.slice (some ⟨g7, 0, none⟩) F.u.2.2.length c7))) := P4.out.put' 9 _ rfl
      clear P4
      go_wp2_with (with_reducible refine stay_fa 10 rfl ?_)
      unfold Stay
      clear a9 bb9 c9' f9'
      generalize V14.setCell ⟨b8, 9, none⟩ (.slice (some ⟨g7, 0, none⟩) F.u.2.2.length c7) = V15 at *
      have a10 : V15.cell? ⟨b3, 10, none⟩ = some (.slice (some ⟨g9, 0, none⟩) (F.x.2.2.length + 1) c9) := by rw [Lib.cell_of_heap (HK10.out _ P5.out.k).2]; rfl
      have bb10 : V15.cell? ⟨b1, 10, none⟩ = some (.slice F.x.1 F.x.2.2.length F.x.2.1) := (HS10.out _ P5.out.k).c 10
      have c10' : V15.cell? ⟨b8, 10, none⟩ = some (.slice none 0 0) := P5.out.cell 10
      have f10' := P5.out.frozen 10
      have P6 : Hid (St b8 B10 K10 #[.slice (some ⟨g1, 0, none⟩) F.a.2.2.length c1, .slice (some ⟨g6, 0, none⟩) F.s.2.2.length c6, .slice (some ⟨g2, 0, none⟩) F.r.2.2.length c2, .slice (some ⟨g3, 0, none⟩) F.o.2.2.length c3, .slice (some ⟨g4, 0, none⟩) F.g.2.2.length c4, .slice (some ⟨g20, 0, none⟩) F.m.2.2.length c20, .slice (some ⟨g21, 0, none⟩) F.i.2.2.length c21, .slice (some ⟨g22, 0, none⟩) F.p.2.2.length c22, .slice (some ⟨g23, 0, none⟩) F.w.2.2.length c23, .slice (some ⟨g7, 0, none⟩) F.u.2.2.length c7, .slice (some ⟨g9, 0, none⟩) F.x.2.2.length c9] (V15.setCell ⟨b8, 10, none⟩ (.slice (some ⟨g9, 0, none⟩) F.x.2.2.length c9))) := P5.out.put' 10 _ rfl
      clear P5
      go_wp2_with (with_reducible refine stay_ld rfl ?_)
      unfold Stay
      clear a10 bb10 c10' f10'
      generalize V15.setCell ⟨b8, 10, none⟩ (.slice (some ⟨g9, 0, none⟩) F.x.2.2.length c9) = V16 at *
      have u0 : V16.cell? ⟨b8, 0, none⟩ = some (.slice (some ⟨g1, 0, none⟩) F.a.2.2.length c1) := P6.out.cell 0
      have v0 : V16.cell? ⟨b3, 0, none⟩ = some (.slice (some ⟨g1, 0, none⟩) (F.a.2.2.length + 1) c1) := by rw [Lib.cell_of_heap (HK10.out _ P6.out.k).2]; rfl
      have u1 : V16.cell? ⟨b8, 1, none⟩ = some (.slice (some ⟨g6, 0, none⟩) F.s.2.2.length c6) := P6.out.cell 1
      have v1 : V16.cell? ⟨b3, 1, none⟩ = some (.slice (some ⟨g6, 0, none⟩) (F.s.2.2.length + 1) c6) := by rw [Lib.cell_of_heap (HK10.out _ P6.out.k).2]; rfl
      have u2 : V16.cell? ⟨b8, 2, none⟩ = some (.slice (some ⟨g2, 0, none⟩) F.r.2.2.length c2) := P6.out.cell 2
      have v2 : V16.cell? ⟨b3, 2, none⟩ = some (.slice (some ⟨g2, 0, none⟩) (F.r.2.2.length + 1) c2) := by rw [Lib.cell_of_heap (HK10.out _ P6.out.k).2]; rfl
      have u3 : V16.cell? ⟨b8, 3, none⟩ = some (.slice (some ⟨g3, 0, none⟩) F.o.2.2.length c3) := P6.out.cell 3
      have v3 : V16.cell? ⟨b3, 3, none⟩ = some (.slice (some ⟨g3, 0, none⟩) (F.o.2.2.length + 1) c3) := by rw [Lib.cell_of_heap (HK10.out _ P6.out.k).2]; rfl
      have u4 : V16.cell? ⟨b8, 4, none⟩ = some (.slice (some ⟨g4, 0, none⟩) F.g.2.2.length c4) := P6.out.cell 4
      have v4 : V16.cell? ⟨b3, 4, none⟩ = some (.slice (some ⟨g4, 0, none⟩) (F.g.2.2.length + 1) c4) := by rw [Lib.cell_of_heap (HK10.out _ P6.out.k).2]; rfl
      have u5 : V16.cell? ⟨b8, 5, none⟩ = some (.slice (some ⟨g20, 0, none⟩) F.m.2.2.length c20) := P6.out.cell 5
      have v5 : V16.cell? ⟨b3, 5, none⟩ = some (.slice (some ⟨g20, 0, none⟩) (F.m.2.2.length + 1) c20) := by rw [Lib.cell_of_heap (HK10.out _ P6.out.k).2]; rfl
      have u6 : V16.cell? ⟨b8, 6, none⟩ = some (.slice (some ⟨g21, 0, none⟩) F.i.2.2.length c21) := P6.out.cell 6
      have v6 : V16.cell? ⟨b3, 6, none⟩ = some (.slice (some ⟨g21, 0, none⟩) (F.i.2.2.length + 1) c21) := by rw [Lib.cell_of_heap (HK10.out _ P6.out.k).2]; rfl
      have u7 : V16.cell? ⟨b8, 7, none⟩ = some (.slice (some ⟨g22, 0, none⟩) F.p.2.2.length c22) := P6.out.cell 7
      have v7 : V16.cell? ⟨b3, 7, none⟩ = some (.slice (some ⟨g22, 0, none⟩) (F.p.2.2.length + 1) c22) := by rw [Lib.cell_of_heap (HK10.out _ P6.out.k).2]; rfl
      have u8 : V16.cell? ⟨b8, 8, none⟩ = some (.slice (some ⟨g23, 0, none⟩) F.w.2.2.length c23) := P6.out.cell 8
      have v8 : V16.cell? ⟨b3, 8, none⟩ = some (.slice (some ⟨g23, 0, none⟩) (F.w.2.2.length + 1) c23) := by rw [Lib.cell_of_heap (HK10.out _ P6.out.k).2]; rfl
      have u9 : V16.cell? ⟨b8, 9, none⟩ = some (.slice (some ⟨g7, 0, none⟩) F.u.2.2.length c7) := P6.out.cell 9
      have v9 : V16.cell? ⟨b3, 9, none⟩ = some (.slice (some ⟨g7, 0, none⟩) (ls.length + 1) c7) := by rw [Lib.cell_of_heap (HK10.out _ P6.out.k).2]; rfl
      have u10 : V16.cell? ⟨b8, 10, none⟩ = some (.slice (some ⟨g9, 0, none⟩) F.x.2.2.length c9) := P6.out.cell 10
      have v10 : V16.cell? ⟨b3, 10, none⟩ = some (.slice (some ⟨g9, 0, none⟩) (F.x.2.2.length + 1) c9) := by rw [Lib.cell_of_heap (HK10.out _ P6.out.k).2]; rfl
      have hb2 : Hid (V16.heap[b2]? = some (.cells #[.slice none 0 0, .slice none 0 0, .slice none 0 0, .slice none 0 0, .slice none 0 0, .slice none 0 0, .slice none 0 0, .slice none 0 0, .slice none 0 0, .slice none 0 0, .slice none 0 0, .slice none 0 0, .slice none 0 0, .slice none 0 0, .slice none 0 0, .slice none 0 0, .slice none 0 0, .slice none 0 0, .slice none 0 0, .slice none 0 0, .slice none 0 0, .slice none 0 0, .slice none 0 0] 39 (0, 0))) := (HS10.out _ P6.out.k).2.2
      have PK := hide' P6.out.k
      clear P6
      have tH : Hid ((V16.setRow b2 #[.slice (some ⟨g1, 0, none⟩) F.a.2.2.length c1, .slice (some ⟨g6, 0, none⟩) F.s.2.2.length c6, .slice (some ⟨g2, 0, none⟩) F.r.2.2.length c2, .slice (some ⟨g3, 0, none⟩) F.o.2.2.length c3, .slice (some ⟨g4, 0, none⟩) F.g.2.2.length c4, .slice (some ⟨g20, 0, none⟩) F.m.2.2.length c20, .slice (some ⟨g21, 0, none⟩) F.i.2.2.length c21, .slice (some ⟨g22, 0, none⟩) F.p.2.2.length c22, .slice (some ⟨g23, 0, none⟩) F.w.2.2.length c23, .slice (some ⟨g7, 0, none⟩) F.u.2.2.length c7, .slice (some ⟨g9, 0, none⟩) F.x.2.2.length c9, .slice (some ⟨g1, 0, none⟩) (F.a.2.2.length + 1) c1, .slice (some ⟨g6, 0, none⟩) (F.s.2.2.length + 1) c6, .slice (some ⟨g2, 0, none⟩) (F.r.2.2.length + 1) c2, .slice (some ⟨g3, 0, none⟩) (F.o.2.2.length + 1) c3, .slice (some ⟨g4, 0, none⟩) (F.g.2.2.length + 1) c4, .slice (some ⟨g20, 0, none⟩) (F.m.2.2.length + 1) c20, .slice (some ⟨g21, 0, none⟩) (F.i.2.2.length + 1) c21, .slice (some ⟨g22, 0, none⟩) (F.p.2.2.length + 1) c22, .slice (some ⟨g23, 0, none⟩) (F.w.2.2.length + 1) c23, .slice (some ⟨g7, 0, none⟩) (ls.length + 1) c7, .slice (some ⟨g9, 0, none⟩) (F.x.2.2.length + 1) c9, .slice lo ls.length lc]).heap[b2]? = some (.cells #[.slice (some ⟨g1, 0, none⟩) F.a.2.2.length c1, .slice (some ⟨g6, 0, none⟩) F.s.2.2.length c6, .slice (some ⟨g2, 0, none⟩) F.r.2.2.length c2, .slice (some ⟨g3, 0, none⟩) F.o.2.2.length c3, .slice (some ⟨g4, 0, none⟩) F.g.2.2.length c4, .slice (some ⟨g20, 0, none⟩) F.m.2.2.length c20, .slice (some ⟨g21, 0, none⟩) F.i.2.2.length c21, .slice (some ⟨g22, 0, none⟩) F.p.2.2.length c22, .slice (some ⟨g23, 0, none⟩) F.w.2.2.length c23, .slice (some ⟨g7, 0, none⟩) F.u.2.2.length c7, .slice (some ⟨g9, 0, none⟩) F.x.2.2.length c9, .slice (some ⟨g1, 0, none⟩) (F.a.2.2.length + 1) c1, .slice (some ⟨g6, 0, none⟩) (F.s.2.2.length + 1) c6, .slice (some ⟨g2, 0, none⟩) (F.r.2.2.length + 1) c2, .slice (some ⟨g3, 0, none⟩) (F.o.2.2.length + 1) c3, .slice (some ⟨g4, 0, none⟩) (F.g.2.2.length + 1) c4, .slice (some ⟨g20, 0, none⟩) (F.m.2.2.length + 1) c20, .slice (some ⟨g21, 0, none⟩) (F.i.2.2.length + 1) c21, .slice (some ⟨g22, 0, none⟩) (F.p.2.2.length + 1) c22, .slice (some ⟨g23, 0, none⟩) (F.w.2.2.length + 1) c23, .slice (some ⟨g7, 0, none⟩) (ls.length + 1) c7, .slice (some ⟨g9, 0, none⟩) (F.x.2.2.length + 1) c9, .slice lo ls.length lc] 39 (0, 0))) := setRow_heap V16 b2 #[.slice none 0 0, .slice none 0 0, .slice none 0 0, .slice none 0 0, .slice none 0 0, .slice none 0 0, .slice none 0 0, .slice none 0 0, .slice none 0 0, .slice none 0 0, .slice none 0 0, .slice none 0 0, .slice none 0 0, .slice none 0 0, .slice none 0 0, .slice none 0 0, .slice none 0 0, .slice none 0 0, .slice none 0 0, .slice none 0 0, .slice none 0 0, .slice none 0 0, .slice none 0 0] #[.slice (some ⟨g1, 0, none⟩) F.a.2.2.length c1, .slice (some ⟨g6, 0, none⟩) F.s.2.2.length c6, .slice (some ⟨g2, 0, none⟩) F.r.2.2.length c2, .slice (some ⟨g3, 0, none⟩) F.o.2.2.length c3, .slice (some ⟨g4, 0, none⟩) F.g.2.2.length c4, .slice (some ⟨g20, 0, none⟩) F.m.2.2.length c20, .slice (some ⟨g21, 0, none⟩) F.i.2.2.length c21, .slice (some ⟨g22, 0, none⟩) F.p.2.2.length c22, .slice (some ⟨g23, 0, none⟩) F.w.2.2.length c23, .slice (some ⟨g7, 0, none⟩) F.u.2.2.length c7, .slice (some ⟨g9, 0, none⟩) F.x.2.2.length c9, .slice (some ⟨g1, 0, none⟩) (F.a.2.2.length + 1) c1, .slice (some ⟨g6, 0, none⟩) (F.s.2.2.length + 1) c6, .slice (some ⟨g2, 0, none⟩) (F.r.2.2.length + 1) c2, .slice (some ⟨g3, 0, none⟩) (F.o.2.2.length + 1) c3, .slice (some ⟨g4, 0, none⟩) (F.g.2.2.length + 1) c4, .slice (some ⟨g20, 0, none⟩) (F.m.2.2.length + 1) c20, .slice (some ⟨g21, 0, none⟩) (F.i.2.2.length + 1) c21, .slice (some ⟨g22, 0, none⟩) (F.p.2.2.length + 1) c22, .slice (some ⟨g23, 0, none⟩) (F.w.2.2.length + 1) c23, .slice (some ⟨g7, 0, none⟩) (ls.length + 1) c7, .slice (some ⟨g9, 0, none⟩) (F.x.2.2.length + 1) c9, .slice lo ls.length lc] 39 (0, 0) hb2.out
      have hfin : Hid (RoomIs F w (.returned (.agg #[.slice (some ⟨g1, 0, none⟩) F.a.2.2.length c1, .slice (some ⟨g6, 0, none⟩) F.s.2.2.length c6, .slice (some ⟨g2, 0, none⟩) F.r.2.2.length c2, .slice (some ⟨g3, 0, none⟩) F.o.2.2.length c3, .slice (some ⟨g4, 0, none⟩) F.g.2.2.length c4, .slice (some ⟨g20, 0, none⟩) F.m.2.2.length c20, .slice (some ⟨g21, 0, none⟩) F.i.2.2.length c21, .slice (some ⟨g22, 0, none⟩) F.p.2.2.length c22, .slice (some ⟨g23, 0, none⟩) F.w.2.2.length c23, .slice (some ⟨g7, 0, none⟩) F.u.2.2.length c7, .slice (some ⟨g9, 0, none⟩) F.x.2.2.length c9, .slice (some ⟨g1, 0, none⟩) (F.a.2.2.length + 1) c1, .slice (some ⟨g6, 0, none⟩) (F.s.2.2.length + 1) c6, .slice (some ⟨g2, 0, none⟩) (F.r.2.2.length + 1) c2, .slice (some ⟨g3, 0, none⟩) (F.o.2.2.length + 1) c3, .slice (some ⟨g4, 0, none⟩) (F.g.2.2.length + 1) c4, .slice (some ⟨g20, 0, none⟩) (F.m.2.2.length + 1) c20, .slice (some ⟨g21, 0, none⟩) (F.i.2.2.length + 1) c21, .slice (some ⟨g22, 0, none⟩) (F.p.2.2.length + 1) c22, .slice (some ⟨g23, 0, none⟩) (F.w.2.2.length + 1) c23, .slice (some ⟨g7, 0, none⟩) (ls.length + 1) c7, .slice (some ⟨g9, 0, none⟩) (F.x.2.2.length + 1) c9, .slice lo ls.length lc])) (V16.setRow b2 #[.slice (some ⟨g1, 0, none⟩) F.a.2.2.length c1, .slice (some ⟨g6, 0, none⟩) F.s.2.2.length c6, .slice (some ⟨g2, 0, none⟩) F.r.2.2.length c2, .slice (some ⟨g3, 0, none⟩) F.o.2.2.length c3, .slice (some ⟨g4, 0, none⟩) F.g.2.2.length c4, .slice (some ⟨g20, 0, none⟩) F.m.2.2.length c20, .slice (some ⟨g21, 0, none⟩) F.i.2.2.length c21, .slice (some ⟨g22, 0, none⟩) F.p.2.2.length c22, .slice (some ⟨g23, 0, none⟩) F.w.2.2.length c23, .slice (some ⟨g7, 0, none⟩) F.u.2.2.length c7, .slice (some ⟨g9, 0, none⟩) F.x.2.2.length c9, .slice (some ⟨g1, 0, none⟩) (F.a.2.2.length + 1) c1, .slice (some ⟨g6, 0, none⟩) (F.s.2.2.length + 1) c6, .slice (some ⟨g2, 0, none⟩) (F.r.2.2.length + 1) c2, .slice (some ⟨g3, 0, none⟩) (F.o.2.2.length + 1) c3, .slice (some ⟨g4, 0, none⟩) (F.g.2.2.length + 1) c4, .slice (some ⟨g20, 0, none⟩) (F.m.2.2.length + 1) c20, .slice (some ⟨g21, 0, none⟩) (F.i.2.2.length + 1) c21, .slice (some ⟨g22, 0, none⟩) (F.p.2.2.length + 1) c22, .slice (some ⟨g23, 0, none⟩) (F.w.2.2.length + 1) c23, .slice (some ⟨g7, 0, none⟩) (ls.length + 1) c7, .slice (some ⟨g9, 0, none⟩) (F.x.2.2.length + 1) c9, .slice lo ls.length lc])) := by
        have k9 := HK9.out V16 (HK10.out V16 PK.out).1
        have k7 := HK7.out V16 k9.1
        have k6 := HK6.out V16 k7.1
        have k5 := HK5.out V16 k6.1
        have k4 := HK4.out V16 k5.1
        have k3 := HK3.out V16 k4.1
        have k2 := HK2.out V16 k3.1
        have k1 := HK1.out V16 k2.1
        obtain ⟨rm, bel⟩ := room_is (b2 := b2) k1.1.1.1.1 HB.out.2 (fun i v q => by have := Array.mem_of_getElem? q; simpa using this) #[.slice (some ⟨g1, 0, none⟩) F.a.2.2.length c1, .slice (some ⟨g6, 0, none⟩) F.s.2.2.length c6, .slice (some ⟨g2, 0, none⟩) F.r.2.2.length c2, .slice (some ⟨g3, 0, none⟩) F.o.2.2.length c3, .slice (some ⟨g4, 0, none⟩) F.g.2.2.length c4, .slice (some ⟨g20, 0, none⟩) F.m.2.2.length c20, .slice (some ⟨g21, 0, none⟩) F.i.2.2.length c21, .slice (some ⟨g22, 0, none⟩) F.p.2.2.length c22, .slice (some ⟨g23, 0, none⟩) F.w.2.2.length c23, .slice (some ⟨g7, 0, none⟩) F.u.2.2.length c7, .slice (some ⟨g9, 0, none⟩) F.x.2.2.length c9, .slice (some ⟨g1, 0, none⟩) (F.a.2.2.length + 1) c1, .slice (some ⟨g6, 0, none⟩) (F.s.2.2.length + 1) c6, .slice (some ⟨g2, 0, none⟩) (F.r.2.2.length + 1) c2, .slice (some ⟨g3, 0, none⟩) (F.o.2.2.length + 1) c3, .slice (some ⟨g4, 0, none⟩) (F.g.2.2.length + 1) c4, .slice (some ⟨g20, 0, none⟩) (F.m.2.2.length + 1) c20, .slice (some ⟨g21, 0, none⟩) (F.i.2.2.length + 1) c21, .slice (some ⟨g22, 0, none⟩) (F.p.2.2.length + 1) c22, .slice (some ⟨g23, 0, none⟩) (F.w.2.2.length + 1) c23, .slice (some ⟨g7, 0, none⟩) (ls.length + 1) c7, .slice (some ⟨g9, 0, none⟩) (F.x.2.2.length + 1) c9, .slice lo ls.length lc] k1.1.1.1.2 k2.2 k1.1.1.2 k1.1.2 k1.2 k3.2 k4.2 k5.2 k6.2 k7.2 k9.2 CAP.out CS.out CP20.out CP21.out CP22.out CP23.out CX.out CU.out EL.out
        exact ⟨full F ls g1 c1 g6 c6 g2 c2 g3 c3 g4 c4 g20 c20 g21 c21 g22 c22 g23 c23 g7 c7 g9 c9, lo, lc, ls, by simp [Pf.cut, Pf.arr, full], rm, bel⟩
      clear HK1 HK2 HK3 HK4 HK5 HK6 HK7 HK9 HK10 HS1 HS2 HS3 HS4 HS5 HS6 HS7 HS9 HS10 CAP CS CP20 CP21 CP22 CP23 CX CU EL PK INV H Hs HB hC9 hCc HC
      go_wp2_with (with_reducible refine stay_st39 _ _ rfl ?_)
      unfold Stay
      refine wpList_store_row rfl 39 _ _ rfl b2 #[.slice (some ⟨g1, 0, none⟩) F.a.2.2.length c1, .slice (some ⟨g6, 0, none⟩) F.s.2.2.length c6, .slice (some ⟨g2, 0, none⟩) F.r.2.2.length c2, .slice (some ⟨g3, 0, none⟩) F.o.2.2.length c3, .slice (some ⟨g4, 0, none⟩) F.g.2.2.length c4, .slice (some ⟨g20, 0, none⟩) F.m.2.2.length c20, .slice (some ⟨g21, 0, none⟩) F.i.2.2.length c21, .slice (some ⟨g22, 0, none⟩) F.p.2.2.length c22, .slice (some ⟨g23, 0, none⟩) F.w.2.2.length c23, .slice (some ⟨g7, 0, none⟩) F.u.2.2.length c7, .slice (some ⟨g9, 0, none⟩) F.x.2.2.length c9, .slice (some ⟨g1, 0, none⟩) (F.a.2.2.length + 1) c1, .slice (some ⟨g6, 0, none⟩) (F.s.2.2.length + 1) c6, .slice (some ⟨g2, 0, none⟩) (F.r.2.2.length + 1) c2, .slice (some ⟨g3, 0, none⟩) (F.o.2.2.length + 1) c3, .slice (some ⟨g4, 0, none⟩) (F.g.2.2.length + 1) c4, .slice (some ⟨g20, 0, none⟩) (F.m.2.2.length + 1) c20, .slice (some ⟨g21, 0, none⟩) (F.i.2.2.length + 1) c21, .slice (some ⟨g22, 0, none⟩) (F.p.2.2.length + 1) c22, .slice (some ⟨g23, 0, none⟩) (F.w.2.2.length + 1) c23, .slice (some ⟨g7, 0, none⟩) (ls.length + 1) c7, .slice (some ⟨g9, 0, none⟩) (F.x.2.2.length + 1) c9, .slice lo ls.length lc] rfl rfl 39 #[.slice none 0 0, .slice none 0 0, .slice none 0 0, .slice none 0 0, .slice none 0 0, .slice none 0 0, .slice none 0 0, .slice none 0 0, .slice none 0 0, .slice none 0 0, .slice none 0 0, .slice none 0 0, .slice none 0 0, .slice none 0 0, .slice none 0 0, .slice none 0 0, .slice none 0 0, .slice none 0 0, .slice none 0 0, .slice none 0 0, .slice none 0 0, .slice none 0 0, .slice none 0 0] hb2.out (by kernel_rfl) rfl (by simp [Value.oneCell']) ?_
      go_wp2_with fail
      (try simp only [Exit.inBlock, Exit.then])
      refine bodyPost_ret (results_cell_row rfl _ _ b2 39 #[.slice (some ⟨g1, 0, none⟩) F.a.2.2.length c1, .slice (some ⟨g6, 0, none⟩) F.s.2.2.length c6, .slice (some ⟨g2, 0, none⟩) F.r.2.2.length c2, .slice (some ⟨g3, 0, none⟩) F.o.2.2.length c3, .slice (some ⟨g4, 0, none⟩) F.g.2.2.length c4, .slice (some ⟨g20, 0, none⟩) F.m.2.2.length c20, .slice (some ⟨g21, 0, none⟩) F.i.2.2.length c21, .slice (some ⟨g22, 0, none⟩) F.p.2.2.length c22, .slice (some ⟨g23, 0, none⟩) F.w.2.2.length c23, .slice (some ⟨g7, 0, none⟩) F.u.2.2.length c7, .slice (some ⟨g9, 0, none⟩) F.x.2.2.length c9, .slice (some ⟨g1, 0, none⟩) (F.a.2.2.length + 1) c1, .slice (some ⟨g6, 0, none⟩) (F.s.2.2.length + 1) c6, .slice (some ⟨g2, 0, none⟩) (F.r.2.2.length + 1) c2, .slice (some ⟨g3, 0, none⟩) (F.o.2.2.length + 1) c3, .slice (some ⟨g4, 0, none⟩) (F.g.2.2.length + 1) c4, .slice (some ⟨g20, 0, none⟩) (F.m.2.2.length + 1) c20, .slice (some ⟨g21, 0, none⟩) (F.i.2.2.length + 1) c21, .slice (some ⟨g22, 0, none⟩) (F.p.2.2.length + 1) c22, .slice (some ⟨g23, 0, none⟩) (F.w.2.2.length + 1) c23, .slice (some ⟨g7, 0, none⟩) (ls.length + 1) c7, .slice (some ⟨g9, 0, none⟩) (F.x.2.2.length + 1) c9, .slice lo ls.length lc] (0, 0) _ rfl tH.out Try.underlying39 rfl (by kernel_rfl)) rfl ?_
      exact hfin.out
end U
end Go.Proofs.Ytgbhcfephhbalaa
