import Derived.Test.YtodgokcjjlkcoaaAll
import Derived.Deep.RegionHeld3
set_option linter.unusedVariables false
set_option linter.unusedSimpArgs false
namespace Go.Proofs.Ytodgokcjjlkcoaa
open Go.RowKit Go.Maps
namespace U
set_option maxRecDepth 100000 in
set_option maxHeartbeats 16000000 in
theorem denied_any (F : Pf) (N : Nat) (t : X.K3) (w : World) (h : F.In w) (f : Fine F N) (ht : t.1.size ≤ 1048576 ∧ t.2.1.size ≤ 1048576 ∧ t.2.2.size ≤ 1048576) : Calls Try.prog 39 #[.agg F.arr, .agg #[.string t.1, .string t.2.1, .string t.2.2]] w fun e w' => e = .returned (.bool (rany F t.1 t.2.1 t.2.2 true F.u.2.2)) ∧ Below w.heap.size w w' := by
  have H := hide' h
  have Hf := hide' f
  have Ht := hide' ht
  have hul : (F.u.2.2.length : Int) ≤ 1048576 := by have := f.small.u; omega
  have cul := h.u.2.1
  clear h f ht
  go_enter Try.func39, Try.ntmps39
  go_wp2_with fail
  have B0 : Hid (Below w.heap.size w ((w.alloc (.cells F.arr 34)).alloc (.cells #[.string t.1, .string t.2.1, .string t.2.2] 36)) ∧ ((w.alloc (.cells F.arr 34)).alloc (.cells #[.string t.1, .string t.2.1, .string t.2.2] 36)).heap[w.heap.size]? = some (.cells F.arr 34 (0, 0)) ∧ ((w.alloc (.cells F.arr 34)).alloc (.cells #[.string t.1, .string t.2.1, .string t.2.2] 36)).heap[w.heap.size + 1]? = some (.cells #[.string t.1, .string t.2.1, .string t.2.2] 36 (0, 0))) := by
    have B := allocs_below [.cells F.arr 34, .cells #[.string t.1, .string t.2.1, .string t.2.2] 36] w
    have g := allocs_get [.cells F.arr 34, .cells #[.string t.1, .string t.2.1, .string t.2.2] 36] w
    exact ⟨B, g 0 _ rfl, g 1 _ rfl⟩
  generalize (w.alloc (.cells F.arr 34)).alloc (.cells #[.string t.1, .string t.2.1, .string t.2.2] 36) = V at *
  generalize hq2 : w.heap.size + 1 = q2 at *
  obtain ⟨q1, hq1⟩ : ∃ q1, q1 = w.heap.size := ⟨_, rfl⟩
  rw [← hq1]
  have B1 : Hid (Below w.heap.size w V ∧ V.heap[q1]? = some (.cells F.arr 34 (0, 0)) ∧ V.heap[q2]? = some (.cells #[.string t.1, .string t.2.1, .string t.2.2] 36 (0, 0))) := by rw [hq1]; exact B0
  clear hq1 hq2 B0
  have BV : Hid (∀ W, Below V.heap.size V W → (Below w.heap.size w W ∧ W.heap[q1]? = some (.cells F.arr 34 (0, 0)) ∧ W.heap[q2]? = some (.cells #[.string t.1, .string t.2.1, .string t.2.2] 36 (0, 0)))) := fun W b => ⟨B1.out.1.trans (b.mono B1.out.1.size), (b.block _ (lt_of_heap B1.out.2.1)).trans B1.out.2.1, (b.block _ (lt_of_heap B1.out.2.2)).trans B1.out.2.2⟩
  go_loopw [5] (fun iv wx => ∃ (i : Nat), iv = .int .i64 (i : Int) ∧ i ≤ F.u.2.2.length ∧ Hid (rany F t.1 t.2.1 t.2.2 true (F.u.2.2.take i) = false ∧ Below V.heap.size V wx)) (fun iv _ => F.u.2.2.length - (intOf iv).toNat)
  case atStart => exact ⟨0, rfl, Nat.zero_le _, rfl, Below.refl _ _⟩
  case round =>
    obtain ⟨i, rfl, hi, HM⟩ := hrel
    have y9 : wr.cell? ⟨q1, 9, none⟩ = some (.slice F.u.1 F.u.2.2.length F.u.2.1) := by rw [Lib.cell_of_heap (BV.out _ HM.out.2).2.1]; rfl
    by_cases hlt : i < F.u.2.2.length
    · have hlt' : (i : Int) < (F.u.2.2.length : Int) := by omega
      obtain ⟨R, hR⟩ : ∃ R, F.u.2.2[i]? = some R := ⟨_, List.getElem?_eq_getElem hlt⟩
      have hRc : (F.u.2.2.map Ru.cells)[i]? = some R.cells := by rw [List.getElem?_map, hR]; rfl
      obtain ⟨ub, uoff, huo, _, _⟩ := (H.out.below (BV.out _ HM.out.2).1).u.1.1.at hRc
      obtain ⟨hRo, ⟨bv, hbv⟩, hRl⟩ := H.out.u.1.2 R (List.mem_of_getElem? hR)
      have Hbv := hide' hbv
      have HRu := hide' (Hf.out.zu R (List.mem_of_getElem? hR))
      have SA : Hid (∀ W, Below V.heap.size V W → W.cell? ⟨q1, 0, none⟩ = some (.slice F.a.1 F.a.2.2.length F.a.2.1) ∧ W.cell? ⟨q1, 1, none⟩ = some (.slice F.s.1 F.s.2.2.length F.s.2.1) ∧ W.cell? ⟨q1, 2, none⟩ = some (.slice F.r.1 F.r.2.2.length F.r.2.1) ∧ W.cell? ⟨q1, 3, none⟩ = some (.slice F.o.1 F.o.2.2.length F.o.2.1) ∧ W.cell? ⟨q1, 4, none⟩ = some (.slice F.g.1 F.g.2.2.length F.g.2.1) ∧ W.cell? ⟨q1, 5, none⟩ = some (.slice F.m.1 F.m.2.2.length F.m.2.1) ∧ W.cell? ⟨q1, 6, none⟩ = some (.slice F.i.1 F.i.2.2.length F.i.2.1) ∧ W.cell? ⟨q1, 7, none⟩ = some (.slice F.p.1 F.p.2.2.length F.p.2.1) ∧ W.cell? ⟨q1, 8, none⟩ = some (.slice F.w.1 F.w.2.2.length F.w.2.1) ∧ W.cell? ⟨q1, 9, none⟩ = some (.slice (some ⟨ub, uoff, none⟩) F.u.2.2.length F.u.2.1) ∧ W.cell? ⟨q1, 10, none⟩ = some (.slice F.x.1 F.x.2.2.length F.x.2.1) ∧ W.cell? ⟨ub, uoff + i * 6, none⟩ = some (.bool bv) ∧ W.cell? ⟨ub, uoff + i * 6 + 1, none⟩ = some (.string R.who) ∧ W.cell? ⟨ub, uoff + i * 6 + 2, none⟩ = some (.string R.what) ∧ W.cell? ⟨ub, uoff + i * 6 + 3, none⟩ = some (.slice R.ro R.rl.length R.rc) ∧ W.cell? ⟨ub, uoff + i * 6 + 4, none⟩ = some (.int .i8 R.cd) ∧ W.cell? ⟨ub, uoff + i * 6 + 5, none⟩ = some (.float .f64 R.lv) ∧ W.cell? ⟨q2, 0, none⟩ = some (.string t.1) ∧ W.cell? ⟨q2, 1, none⟩ = some (.string t.2.1) ∧ W.cell? ⟨q2, 2, none⟩ = some (.string t.2.2)) := fun W b => by
        obtain ⟨b', o', e', _, hc⟩ := (H.out.below (BV.out _ b).1).u.1.1.at hRc
        rw [huo] at e'
        cases e'
        have g := (BV.out W b).2.1
        have g2 := (BV.out W b).2.2
        obtain ⟨k0, k1, k2, k3, k4, k5, k6, k7, k8, k9, k10⟩ : W.cell? ⟨q1, 0, none⟩ = some (.slice F.a.1 F.a.2.2.length F.a.2.1) ∧ W.cell? ⟨q1, 1, none⟩ = some (.slice F.s.1 F.s.2.2.length F.s.2.1) ∧ W.cell? ⟨q1, 2, none⟩ = some (.slice F.r.1 F.r.2.2.length F.r.2.1) ∧ W.cell? ⟨q1, 3, none⟩ = some (.slice F.o.1 F.o.2.2.length F.o.2.1) ∧ W.cell? ⟨q1, 4, none⟩ = some (.slice F.g.1 F.g.2.2.length F.g.2.1) ∧ W.cell? ⟨q1, 5, none⟩ = some (.slice F.m.1 F.m.2.2.length F.m.2.1) ∧ W.cell? ⟨q1, 6, none⟩ = some (.slice F.i.1 F.i.2.2.length F.i.2.1) ∧ W.cell? ⟨q1, 7, none⟩ = some (.slice F.p.1 F.p.2.2.length F.p.2.1) ∧ W.cell? ⟨q1, 8, none⟩ = some (.slice F.w.1 F.w.2.2.length F.w.2.1) ∧ W.cell? ⟨q1, 9, none⟩ = some (.slice F.u.1 F.u.2.2.length F.u.2.1) ∧ W.cell? ⟨q1, 10, none⟩ = some (.slice F.x.1 F.x.2.2.length F.x.2.1) := ⟨by rw [Lib.cell_of_heap g]; rfl, by rw [Lib.cell_of_heap g]; rfl, by rw [Lib.cell_of_heap g]; rfl, by rw [Lib.cell_of_heap g]; rfl, by rw [Lib.cell_of_heap g]; rfl, by rw [Lib.cell_of_heap g]; rfl, by rw [Lib.cell_of_heap g]; rfl, by rw [Lib.cell_of_heap g]; rfl, by rw [Lib.cell_of_heap g]; rfl, by rw [Lib.cell_of_heap g]; rfl, by rw [Lib.cell_of_heap g]; rfl⟩
        rw [huo] at k9
        have c0 := hc 0 R.d rfl
        rw [hbv] at c0
        exact ⟨k0, k1, k2, k3, k4, k5, k6, k7, k8, k9, k10, c0, hc 1 _ rfl, hc 2 _ rfl, hc 3 _ rfl, hc 4 _ rfl, hc 5 _ rfl, by rw [Lib.cell_of_heap g2]; rfl, by rw [Lib.cell_of_heap g2]; rfl, by rw [Lib.cell_of_heap g2]; rfl⟩
      have RT := hide' (rany_take (F := F) (ts := t.1) (to := t.2.1) (ta := t.2.2) (dn := true) hR)
      have RD : Hid (rsay F t.1 t.2.1 t.2.2 true R = (mtc F.po R t.1 t.2.1 t.2.2 && bv)) := by show _ = _; unfold rsay den; rw [hbv]; cases bv <;> simp
      have HRm := hide' (List.mem_of_getElem? hR)
      have C19 : Hid (∀ W, Below V.heap.size V W → Calls Try.prog 19 #[.agg #[.slice F.a.1 F.a.2.2.length F.a.2.1, .slice F.s.1 F.s.2.2.length F.s.2.1, .slice F.r.1 F.r.2.2.length F.r.2.1, .slice F.o.1 F.o.2.2.length F.o.2.1, .slice F.g.1 F.g.2.2.length F.g.2.1, .slice F.m.1 F.m.2.2.length F.m.2.1, .slice F.i.1 F.i.2.2.length F.i.2.1, .slice F.p.1 F.p.2.2.length F.p.2.1, .slice F.w.1 F.w.2.2.length F.w.2.1, .slice (some ⟨ub, uoff, none⟩) F.u.2.2.length F.u.2.1, .slice F.x.1 F.x.2.2.length F.x.2.1], .agg #[.bool bv, .string R.who, .string R.what, .slice R.ro R.rl.length R.rc, .int .i8 R.cd, .float .f64 R.lv], .agg #[.string t.1, .string t.2.1, .string t.2.2]] W fun e w' => e = .returned (.bool (mtc F.po R t.1 t.2.1 t.2.2)) ∧ Below W.heap.size W w') := fun W b => by
        rw [← huo]
        exact mtc_call F N R bv t.1 t.2.1 t.2.2 W (H.out.below (BV.out _ b).1) Hf.out hbv ⟨hRo.1.below (BV.out _ b).1, hRo.2⟩ ⟨Ht.out.1, Ht.out.2.1, Nat.le_trans HRu.out.1 Hf.out.n, Nat.le_trans HRu.out.2.1 Hf.out.n, hRl⟩
      have Huo := hide' huo
      clear hR hRc hRo hbv hRl huo hlt
      generalize mtc F.po R t.1 t.2.1 t.2.2 = mv at *
      go_wp2_with fail
      clear y9
      obtain ⟨c0, c1, c2, c3, c4, c5, c6, c7, c8, c9, c10, c11, c12, c13, c14, c15, c16, c17, c18, c19⟩ := SA.out wr HM.out.2
      have e0 : Below V.heap.size V wr.drew := HM.out.2.trans ⟨rfl, rfl, rfl, Nat.le_refl _, fun _ _ => rfl⟩
      have HM1 := hide' HM.out.1
      clear HM
      go_region_held3 (fun W => W.cell? ⟨q1, 0, none⟩ = some (.slice F.a.1 F.a.2.2.length F.a.2.1) ∧ W.cell? ⟨q1, 1, none⟩ = some (.slice F.s.1 F.s.2.2.length F.s.2.1) ∧ W.cell? ⟨q1, 2, none⟩ = some (.slice F.r.1 F.r.2.2.length F.r.2.1) ∧ W.cell? ⟨q1, 3, none⟩ = some (.slice F.o.1 F.o.2.2.length F.o.2.1) ∧ W.cell? ⟨q1, 4, none⟩ = some (.slice F.g.1 F.g.2.2.length F.g.2.1) ∧ W.cell? ⟨q1, 5, none⟩ = some (.slice F.m.1 F.m.2.2.length F.m.2.1) ∧ W.cell? ⟨q1, 6, none⟩ = some (.slice F.i.1 F.i.2.2.length F.i.2.1) ∧ W.cell? ⟨q1, 7, none⟩ = some (.slice F.p.1 F.p.2.2.length F.p.2.1) ∧ W.cell? ⟨q1, 8, none⟩ = some (.slice F.w.1 F.w.2.2.length F.w.2.1) ∧ W.cell? ⟨q1, 9, none⟩ = some (.slice (some ⟨ub, uoff, none⟩) F.u.2.2.length F.u.2.1) ∧ W.cell? ⟨q1, 10, none⟩ = some (.slice F.x.1 F.x.2.2.length F.x.2.1) ∧ W.cell? ⟨ub, uoff + i * 6, none⟩ = some (.bool bv) ∧ W.cell? ⟨ub, uoff + i * 6 + 1, none⟩ = some (.string R.who) ∧ W.cell? ⟨ub, uoff + i * 6 + 2, none⟩ = some (.string R.what) ∧ W.cell? ⟨ub, uoff + i * 6 + 3, none⟩ = some (.slice R.ro R.rl.length R.rc) ∧ W.cell? ⟨ub, uoff + i * 6 + 4, none⟩ = some (.int .i8 R.cd) ∧ W.cell? ⟨ub, uoff + i * 6 + 5, none⟩ = some (.float .f64 R.lv) ∧ W.cell? ⟨q2, 0, none⟩ = some (.string t.1) ∧ W.cell? ⟨q2, 1, none⟩ = some (.string t.2.1) ∧ W.cell? ⟨q2, 2, none⟩ = some (.string t.2.2)) (first | with_reducible exact SA.out _ e1 | with_reducible exact SA.out _ e0 | go_keep) ((go_at_call 19; refine (C19.out _ e0).mono ?_; rintro e w2 ⟨rfl, b2⟩; have e1 : Below V.heap.size V w2 := e0.trans (b2.mono e0.size); clear b2))
      rename_i hHeld
      clear hHeld c0 c1 c2 c3 c4 c5 c6 c7 c8 c9 c10 c11 c12 c13 c14 c15 c16 c17 c18 c19 e0
      obtain ⟨_, _, _, _, _, _, _, _, _, c9, _, c11, _, _, _, _, _, _, _, _⟩ := SA.out w2 e1
      have E1 := hide' e1
      clear e1
      cases bv with
      | false =>
        have q : Hid (rany F t.1 t.2.1 t.2.2 true (F.u.2.2.take (i + 1)) = false) := by show _ = _; rw [RT.out, RD.out, HM1.out]; simp
        go_wp2_with fail
        exact ⟨⟨i + 1, by go_num, by omega, q.out, E1.out⟩, by simp [intOf]; omega⟩
      | true =>
        cases mv with
        | false =>
          have q : Hid (rany F t.1 t.2.1 t.2.2 true (F.u.2.2.take (i + 1)) = false) := by show _ = _; rw [RT.out, RD.out, HM1.out]; simp
          go_wp2_with fail
          exact ⟨⟨i + 1, by go_num, by omega, q.out, E1.out⟩, by simp [intOf]; omega⟩
        | true =>
          have q : Hid (rany F t.1 t.2.1 t.2.2 true F.u.2.2 = true) := by show _ = _; unfold rany; rw [List.any_eq_true]; exact ⟨R, HRm.out, by rw [RD.out]; rfl⟩
          go_wp2_with fail
          go_ret
          exact ⟨by rw [q.out]; rfl, (BV.out _ E1.out).1⟩
    · have hi' : i = F.u.2.2.length := by omega
      have hlt' : ¬ (i : Int) < (F.u.2.2.length : Int) := by omega
      have HM2 := HM
      rw [hi', List.take_length] at HM2
      clear HM hi' hlt hi
      go_wp2_with fail
      go_ret
      exact ⟨by rw [HM2.out.1]; rfl, (BV.out _ HM2.out.2).1⟩
end U
end Go.Proofs.Ytodgokcjjlkcoaa
