import Derived.Test.YtodgokcjjlkcoaaDqp
import Derived.Deep.RegionHeld3
set_option linter.unusedVariables false
set_option linter.unusedSimpArgs false
namespace Go.Proofs.Ytodgokcjjlkcoaa
open Go.RowKit Go.Maps
namespace U
/-- three cells are written over -/
theorem st36 {b : Nat} {w : World} {x0 x1 x2 : Value} (h : w.heap[b]? = some (.cells #[x0, x1, x2] 36 (0, 0))) (v0 v1 v2 : Value) : w.cell? ⟨b, 0, none⟩ = some x0 ∧ w.frozen? ⟨b, 0, none⟩ = false ∧ (w.setCell ⟨b, 0, none⟩ v0).cell? ⟨b, 1, none⟩ = some x1 ∧ (w.setCell ⟨b, 0, none⟩ v0).frozen? ⟨b, 1, none⟩ = false ∧ ((w.setCell ⟨b, 0, none⟩ v0).setCell ⟨b, 1, none⟩ v1).cell? ⟨b, 2, none⟩ = some x2 ∧ ((w.setCell ⟨b, 0, none⟩ v0).setCell ⟨b, 1, none⟩ v1).frozen? ⟨b, 2, none⟩ = false ∧ (((w.setCell ⟨b, 0, none⟩ v0).setCell ⟨b, 1, none⟩ v1).setCell ⟨b, 2, none⟩ v2).heap[b]? = some (.cells #[v0, v1, v2] 36 (0, 0)) ∧ Turn (fun j => j = b) w (((w.setCell ⟨b, 0, none⟩ v0).setCell ⟨b, 1, none⟩ v1).setCell ⟨b, 2, none⟩ v2) :=
  ⟨(by rw [Lib.cell_of_heap h]; rfl), Lib.frozen_of_heap h 0, (by rw [World.cell?_setCell_other _ _ _ _ (by simp), Lib.cell_of_heap h]; rfl), (by rw [World.frozen?_setCell]; exact Lib.frozen_of_heap h 1), (by rw [World.cell?_setCell_other _ _ _ _ (by simp), World.cell?_setCell_other _ _ _ _ (by simp), Lib.cell_of_heap h]; rfl), (by rw [World.frozen?_setCell, World.frozen?_setCell]; exact Lib.frozen_of_heap h 2), (by simp [World.setCell, Array.getElem?_modify, h]), (((Turn.refl (fun j => j = b) w).setCell (p := ⟨b, 0, none⟩) (fun _ => rfl) _).setCell (p := ⟨b, 1, none⟩) (fun _ => rfl) _).setCell (p := ⟨b, 2, none⟩) (fun _ => rfl) _⟩
theorem trs_mono {al ol sl : List ByteArray} {i : Nat} {s : ByteArray} (hs : sl[i]? = some s) : (trs al ol (sl.take (i + 1))).length ≤ (trs al ol sl).length := by
  rw [trs_len, trs_len]
  exact Nat.mul_le_mul_right _ (List.length_take_le' _ _)
theorem cur_len {al ol sl : List ByteArray} {i j k : Nat} {s o : ByteArray} (hs : sl[i]? = some s) (ho : ol[j]? = some o) (hk : k ≤ al.length) : (cur al ol sl i j k s o).length ≤ (trs al ol sl).length := by
  have h1 := trs_mono (al := al) (ol := ol) hs
  have h2 := cur_jn (al := al) (ol := ol) hs
  have h3 : (trs al (ol.take (j + 1)) [s]).length ≤ (trs al (ol.take ol.length) [s]).length := by
    rw [trs_len, trs_len, List.take_length]
    exact Nat.mul_le_mul_left _ (Nat.mul_le_mul_right _ (List.length_take_le' _ _))
  have h4 := cur_kn (al := al) (sl := sl) (i := i) (s := s) ho
  have h5 : (trs (al.take k) [o] [s]).length ≤ (trs (al.take al.length) [o] [s]).length := by
    rw [trs_len, trs_len, List.take_length]
    exact Nat.mul_le_mul_left _ (Nat.mul_le_mul_left _ (List.length_take_le' _ _))
  have h6 : (cur al ol sl i j k s o).length ≤ (cur al ol sl i j al.length s o).length := by
    unfold cur
    rw [List.length_append, List.length_append, List.length_append, List.length_append]
    omega
  rw [h4, List.length_append] at h6
  rw [← h2, List.length_append] at h1
  omega
def AllIs (F : Pf) (w : World) (e : Ending) (w' : World) : Prop := ∃ lo lc, e = .returned (.slice lo F.trs.length lc) ∧ X.RowI w.heap.size lo lc F.trs w' ∧ Below w.heap.size w w'
set_option maxRecDepth 100000 in
set_option maxHeartbeats 8000000 in
theorem all_any (F : Pf) (w : World) (h : F.In w) (hs : F.Small) (hv : F.s.2.2.length * (F.o.2.2.length * F.a.2.2.length) ≤ 65536) : Calls Try.prog 32 #[.agg F.arr] w fun e w' => AllIs F w e w' := by
  have H := hide' h
  have hsl : (F.s.2.2.length : Int) ≤ 1048576 := by have := hs.s; omega
  have hol : (F.o.2.2.length : Int) ≤ 1048576 := by have := hs.o; omega
  have hal : (F.a.2.2.length : Int) ≤ 1048576 := by have := hs.a; omega
  have csl := h.s.2.1
  have col := h.o.2.1
  have cal := h.a.2.1
  clear h hs
  go_enter Try.func32, Try.ntmps32
  go_wp2_with fail
  have B0 : Hid (Below w.heap.size w (w.alloc (.cells F.arr 34)) ∧ (w.alloc (.cells F.arr 34)).heap[w.heap.size]? = some (.cells F.arr 34 (0, 0))) := ⟨(Below.refl _ _).alloc (Nat.le_refl _) _, heap_alloc_new w _⟩
  generalize w.alloc (.cells F.arr 34) = V at *
  obtain ⟨q1, hq1⟩ : ∃ q1, q1 = w.heap.size := ⟨_, rfl⟩
  rw [← hq1]
  have B1 : Hid (Below w.heap.size w V ∧ V.heap[q1]? = some (.cells F.arr 34 (0, 0))) := by rw [hq1]; exact B0
  clear hq1 B0
  obtain ⟨sn, hsn⟩ : ∃ sn, sn = F.s.2.2.map (·.1) := ⟨_, rfl⟩
  have Hsn := hide' hsn
  have hsnl : Hid (sn.length = F.s.2.2.length) := by show _ = _; rw [hsn, List.length_map]
  have HT : Hid (dq (trs F.a.2.2 F.o.2.2 sn) = F.trs) := by show _ = _; rw [trs_dq, hsn]; rfl
  have HV : Hid ((trs F.a.2.2 F.o.2.2 sn).length ≤ 65536) := by show _ ≤ _; rw [trs_len, hsn, List.length_map]; exact hv
  clear hsn hv
  have BW : Hid (∀ V', Below V.heap.size V V' → (Below w.heap.size w V' ∧ V'.heap[q1]? = some (.cells F.arr 34 (0, 0)))) := fun V' b => ⟨B1.out.1.trans (b.mono B1.out.1.size), (b.block _ (lt_of_heap B1.out.2)).trans B1.out.2⟩
  have KC : Hid (∀ W, Below V.heap.size V W → W.cell? ⟨q1, 1, none⟩ = some (.slice F.s.1 F.s.2.2.length F.s.2.1) ∧ W.cell? ⟨q1, 3, none⟩ = some (.slice F.o.1 F.o.2.2.length F.o.2.1) ∧ W.cell? ⟨q1, 0, none⟩ = some (.slice F.a.1 F.a.2.2.length F.a.2.1)) := fun W b => by
    have g := (BW.out W b).2
    exact ⟨by rw [Lib.cell_of_heap g]; rfl, by rw [Lib.cell_of_heap g]; rfl, by rw [Lib.cell_of_heap g]; rfl⟩
  go_loopw [3, 4] (fun lv iv wx => ∃ (i : Nat) (lo : Option Addr) (lc : Nat), iv = .int .i64 (i : Int) ∧ i ≤ F.s.2.2.length ∧ lv = .slice lo (dq (trs F.a.2.2 F.o.2.2 (sn.take i))).length lc ∧ Hid (Below V.heap.size V wx ∧ X.RowI V.heap.size lo lc (dq (trs F.a.2.2 F.o.2.2 (sn.take i))) wx)) (fun _ iv _ => F.s.2.2.length - (intOf iv).toNat)
  case atStart => exact ⟨0, none, 0, rfl, Nat.zero_le _, rfl, Below.refl _ _, X.RowI.nil _ _⟩
  case round =>
    obtain ⟨i, lo, lc, rfl, hi, rfl, HM⟩ := hrel
    obtain ⟨e1, e3, e0⟩ := KC.out _ HM.out.1
    by_cases hlt : i < F.s.2.2.length
    · have hlt' : (i : Int) < (F.s.2.2.length : Int) := by omega
      obtain ⟨s, hs⟩ : ∃ s, F.s.2.2[i]? = some s := ⟨_, List.getElem?_eq_getElem hlt⟩
      have Hs : Hid (sn[i]? = some s.1) := by show _ = _; rw [Hsn.out, List.getElem?_map, hs]; rfl
      obtain ⟨sb, soff, hsy, _, _⟩ := (H.out.below (BW.out _ HM.out.1).1).s.1.at hs
      have SC : Hid (∀ W, Below V.heap.size V W → W.cell? ⟨sb, soff + i * 2, none⟩ = some (.string s.1)) := fun W b => by
        obtain ⟨b', o', e', _, g1, _⟩ := (H.out.below (BW.out _ b).1).s.1.at hs
        rw [hsy] at e'
        cases e'
        exact g1
      have Hsy := hide' hsy
      clear hs hsy hlt
      go_wp2_with fail
      clear e1 e3 e0
      go_loopw [3, 5] (fun lv jv wx => ∃ (j : Nat) (lo : Option Addr) (lc : Nat), jv = .int .i64 (j : Int) ∧ j ≤ F.o.2.2.length ∧ lv = .slice lo (dq (trs F.a.2.2 F.o.2.2 (sn.take i) ++ trs F.a.2.2 (F.o.2.2.take j) [s.1])).length lc ∧ Hid (Below V.heap.size V wx ∧ X.RowI V.heap.size lo lc (dq (trs F.a.2.2 F.o.2.2 (sn.take i) ++ trs F.a.2.2 (F.o.2.2.take j) [s.1])) wx)) (fun _ jv _ => F.o.2.2.length - (intOf jv).toNat)
      case atStart => exact ⟨0, lo, lc, rfl, Nat.zero_le _, by rw [cur_j0], by rw [cur_j0]; exact HM⟩
      case round =>
        obtain ⟨j, lo, lc, rfl, hj, rfl, HM⟩ := hrel
        obtain ⟨e1, e3, e0⟩ := KC.out _ HM.out.1
        by_cases hlt : j < F.o.2.2.length
        · have hjt' : (j : Int) < (F.o.2.2.length : Int) := by omega
          obtain ⟨o, ho⟩ : ∃ o, F.o.2.2[j]? = some o := ⟨_, List.getElem?_eq_getElem hlt⟩
          have Ho := hide' ho
          obtain ⟨ob, ooff, hoy, _, _⟩ := (H.out.below (BW.out _ HM.out.1).1).o.1.at ho
          have OC : Hid (∀ W, Below V.heap.size V W → W.cell? ⟨ob, ooff + j, none⟩ = some (.string o)) := fun W b => by
            obtain ⟨b', o', e', _, g1⟩ := (H.out.below (BW.out _ b).1).o.1.at ho
            rw [hoy] at e'
            cases e'
            exact g1
          have Hoy := hide' hoy
          clear ho hoy hlt
          go_wp2_with fail
          clear e1 e3 e0
          go_loopw [3, 6] (fun lv kv wx => ∃ (k : Nat) (lo : Option Addr) (lc : Nat), kv = .int .i64 (k : Int) ∧ k ≤ F.a.2.2.length ∧ lv = .slice lo (dq (cur F.a.2.2 F.o.2.2 sn i j k s.1 o)).length lc ∧ Hid (Below V.heap.size V wx ∧ X.RowI V.heap.size lo lc (dq (cur F.a.2.2 F.o.2.2 sn i j k s.1 o)) wx)) (fun _ kv _ => F.a.2.2.length - (intOf kv).toNat)
          case atStart => exact ⟨0, lo, lc, rfl, Nat.zero_le _, by rw [cur_k0], by rw [cur_k0]; exact HM⟩
          case round =>
            obtain ⟨k, lo, lc, rfl, hk, rfl, HM⟩ := hrel
            obtain ⟨e1, e3, e0⟩ := KC.out _ HM.out.1
            by_cases hlt : k < F.a.2.2.length
            · have hkt' : (k : Int) < (F.a.2.2.length : Int) := by omega
              obtain ⟨a, ha⟩ : ∃ a, F.a.2.2[k]? = some a := ⟨_, List.getElem?_eq_getElem hlt⟩
              have CN := hide' (cur_next (ol := F.o.2.2) (sl := sn) (i := i) (j := j) (s := s.1) (o := o) ha)
              obtain ⟨ab, aoff, hay, _, _⟩ := (H.out.below (BW.out _ HM.out.1).1).a.1.at ha
              have SA : Hid (∀ W, Below V.heap.size V W → W.cell? ⟨q1, 1, none⟩ = some (.slice (some ⟨sb, soff, none⟩) F.s.2.2.length F.s.2.1) ∧ W.cell? ⟨q1, 3, none⟩ = some (.slice (some ⟨ob, ooff, none⟩) F.o.2.2.length F.o.2.1) ∧ W.cell? ⟨q1, 0, none⟩ = some (.slice (some ⟨ab, aoff, none⟩) F.a.2.2.length F.a.2.1) ∧ W.cell? ⟨sb, soff + i * 2, none⟩ = some (.string s.1) ∧ W.cell? ⟨ob, ooff + j, none⟩ = some (.string o) ∧ W.cell? ⟨ab, aoff + k, none⟩ = some (.string a)) := fun W b => by
                obtain ⟨b', o', e', _, g1⟩ := (H.out.below (BW.out _ b).1).a.1.at ha
                rw [hay] at e'
                cases e'
                obtain ⟨k1, k3, k0⟩ := KC.out W b
                rw [Hsy.out] at k1
                rw [Hoy.out] at k3
                rw [hay] at k0
                exact ⟨k1, k3, k0, SC.out W b, OC.out W b, g1⟩
              have Hay := hide' hay
              have CL : Hid ((dq (cur F.a.2.2 F.o.2.2 sn i j k s.1 o)).length ≤ 65536) := by
                have q1 := dq_len (cur F.a.2.2 F.o.2.2 sn i j k s.1 o)
                have q2 := cur_len (al := F.a.2.2) (k := k) Hs.out Ho.out (by omega)
                have q3 := HV.out
                show _ ≤ _
                omega
              clear ha hay hlt e1 e3
              go_wp2_with fail
              clear e0
              obtain ⟨c1, c2, c3, c4, c5, c6⟩ := SA.out wr HM.out.1
              have e0 : Below V.heap.size V wr.drew := HM.out.1.trans ⟨rfl, rfl, rfl, Nat.le_refl _, fun _ _ => rfl⟩
              have r0 : Hid (X.RowI V.heap.size lo lc (dq (cur F.a.2.2 F.o.2.2 sn i j k s.1 o)) wr.drew) := HM.out.2.below ⟨rfl, rfl, rfl, Nat.le_refl _, fun _ _ => rfl⟩
              clear HM
              go_region_held3 (fun W => W.cell? ⟨q1, 1, none⟩ = some (.slice (some ⟨sb, soff, none⟩) F.s.2.2.length F.s.2.1) ∧ W.cell? ⟨q1, 3, none⟩ = some (.slice (some ⟨ob, ooff, none⟩) F.o.2.2.length F.o.2.1) ∧ W.cell? ⟨q1, 0, none⟩ = some (.slice (some ⟨ab, aoff, none⟩) F.a.2.2.length F.a.2.1) ∧ W.cell? ⟨sb, soff + i * 2, none⟩ = some (.string s.1) ∧ W.cell? ⟨ob, ooff + j, none⟩ = some (.string o) ∧ W.cell? ⟨ab, aoff + k, none⟩ = some (.string a)) (first | with_reducible exact SA.out _ d1 | with_reducible exact SA.out _ (d1.alloc d1.size _) | with_reducible exact SA.out _ e0 | with_reducible exact SA.out _ (e0.alloc e0.size _) | with_reducible exact SA.out _ dq1 | go_keep) (first | (go_at_call 34; refine (tri_any s.1 o a _).mono ?_; rintro e w1 ⟨rfl, b1⟩; (first | (have d1 : Below V.heap.size V w1 := e0.trans (b1.mono e0.size); have r1 := hide' (r0.out.below b1)) | (have h3 : w1.heap[wr.heap.size]? = some (.cells #[.string ByteArray.empty, .string ByteArray.empty, .string ByteArray.empty] 36 (0, 0)) := (b1.block wr.drew.heap.size (by simp)).trans (heap_alloc_new wr.drew _); have d1 : Below V.heap.size V w1 := (e0.alloc e0.size _).trans (b1.mono (e0.alloc e0.size _).size); have r1 : Hid (X.RowI V.heap.size lo lc (dq (cur F.a.2.2 F.o.2.2 sn i j k s.1 o)) w1) := (r0.out.below ((Below.refl _ _).alloc (Nat.le_refl _) _)).below b1; obtain ⟨qc0, qf0, qc1, qf1, qc2, qf2, qh, qt⟩ := st36 h3 (.string s.1) (.string o) (.string a); have dq1 : Below V.heap.size V (((w1.setCell ⟨wr.heap.size, 0, none⟩ (.string s.1)).setCell ⟨wr.heap.size, 1, none⟩ (.string o)).setCell ⟨wr.heap.size, 2, none⟩ (.string a)) := d1.trans (below_own qt (fun _ q => by rw [q]; exact e0.size) d1.size); have QH := hide' (And.intro qh qt); clear qh qt)); clear b1))
              · rename_i hHeld
                clear hHeld c1 c2 c3 c4 c5 c6 r0 e0
                have S7 := hide' (And.intro (heap_alloc_new w1 (.cells #[.string s.1, .string o, .string a] 36)) (And.intro (d1.alloc d1.size (.cells #[.string s.1, .string o, .string a] 36)) (r1.out.below ((Below.refl _ _).alloc (Nat.le_refl _) (.cells #[.string s.1, .string o, .string a] 36)))))
                generalize w1.alloc (.cells #[.string s.1, .string o, .string a] 36) = W7 at *
                generalize w1.heap.size = q7 at *
                go_wp2_with (with_reducible refine stay_load 36 _ rfl ?_)
                unfold Stay
                refine wpList_load_row rfl 36 _ rfl q7 rfl 36 #[.string s.1, .string o, .string a] (0, 0) _ S7.out.1 Try.underlying36 rfl (by kernel_rfl) ?_
                go_wp2_with fail
                refine (has_any lo lc (dq (cur F.a.2.2 F.o.2.2 sn i j k s.1 o)) (s.1, o, a) W7 S7.out.2.2.ints S7.out.2.2.cap (by have := CL.out; omega)).mono ?_
                rintro e W8 ⟨rfl, b8⟩
                have S8 := hide' (And.intro ((b8.block _ (lt_of_heap S7.out.1)).trans S7.out.1) (And.intro (S7.out.2.1.trans (b8.mono S7.out.2.1.size)) (S7.out.2.2.below b8)))
                clear b8 S7
                cases hin : isIn (dq (cur F.a.2.2 F.o.2.2 sn i j k s.1 o)) (s.1, o, a) with
                | true =>
                  have DN : Hid (dq (cur F.a.2.2 F.o.2.2 sn i j (k + 1) s.1 o) = dq (cur F.a.2.2 F.o.2.2 sn i j k s.1 o)) := by show _ = _; rw [CN.out, dq_snoc, dqs_in (isIn_mem.1 hin)]
                  clear hin
                  go_wp2_with fail
                  exact ⟨⟨k + 1, lo, lc, by go_num, by omega, by rw [DN.out], by rw [DN.out]; exact S8.out.2⟩, by simp [intOf]; omega⟩
                | false =>
                  have DN : Hid (dq (cur F.a.2.2 F.o.2.2 sn i j (k + 1) s.1 o) = dq (cur F.a.2.2 F.o.2.2 sn i j k s.1 o) ++ [(s.1, o, a)]) := by show _ = _; rw [CN.out, dq_snoc, dqs_out (fun q => by rw [isIn_mem.2 q] at hin; cases hin)]
                  clear hin
                  go_wp2_with (with_reducible refine stay_load 36 _ rfl ?_)
                  unfold Stay
                  refine wpList_load_row rfl 36 _ rfl q7 rfl 36 #[.string s.1, .string o, .string a] (0, 0) _ S8.out.1 Try.underlying36 rfl (by kernel_rfl) ?_
                  go_wp2_with (at_builtin; refine stay_app _ _ _ rfl ?_)
                  unfold Stay
                  refine X.wpList_app1 W8 rfl _ _ rfl V.heap.size lo lc _ (s.1, o, a) 36 _ rfl S8.out.2.2 rfl (by have := CL.out; show _ < _; omega) S8.out.2.1.size ?_
                  intro g cap W9 r9 t9 hg hl9
                  have HM3 := hide' (And.intro (S8.out.2.1.trans (below_own t9 (fun j q => (S8.out.2.2.lt j q).1) S8.out.2.1.size)) r9)
                  clear hg hl9 r9 t9 S8
                  go_wp2_with fail
                  exact ⟨⟨k + 1, _, _, by go_num, by omega, by rw [DN.out, List.length_append]; rfl, by rw [DN.out]; exact HM3⟩, by simp [intOf]; omega⟩
              · rename_i hHeld
                have S7 := hide' (And.intro QH.out.1 (And.intro dq1 (r1.out.turn QH.out.2 (fun j q e => by have := (r0.out.lt j q).2; have e2 : j = wr.heap.size := e; have e3 : wr.drew.heap.size = wr.heap.size := rfl; omega))))
                clear hHeld c1 c2 c3 c4 c5 c6 r0 e0 qc0 qf0 qc1 qf1 qc2 qf2 QH dq1 h3
                generalize ((w1.setCell ⟨wr.heap.size, 0, none⟩ (.string s.1)).setCell ⟨wr.heap.size, 1, none⟩ (.string o)).setCell ⟨wr.heap.size, 2, none⟩ (.string a) = W7 at *
                generalize wr.heap.size = q7 at *
                go_wp2_with (with_reducible refine stay_load 36 _ rfl ?_)
                unfold Stay
                refine wpList_load_row rfl 36 _ rfl q7 rfl 36 #[.string s.1, .string o, .string a] (0, 0) _ S7.out.1 Try.underlying36 rfl (by kernel_rfl) ?_
                go_wp2_with fail
                refine (has_any lo lc (dq (cur F.a.2.2 F.o.2.2 sn i j k s.1 o)) (s.1, o, a) W7 S7.out.2.2.ints S7.out.2.2.cap (by have := CL.out; omega)).mono ?_
                rintro e W8 ⟨rfl, b8⟩
                have S8 := hide' (And.intro ((b8.block _ (lt_of_heap S7.out.1)).trans S7.out.1) (And.intro (S7.out.2.1.trans (b8.mono S7.out.2.1.size)) (S7.out.2.2.below b8)))
                clear b8 S7
                cases hin : isIn (dq (cur F.a.2.2 F.o.2.2 sn i j k s.1 o)) (s.1, o, a) with
                | true =>
                  have DN : Hid (dq (cur F.a.2.2 F.o.2.2 sn i j (k + 1) s.1 o) = dq (cur F.a.2.2 F.o.2.2 sn i j k s.1 o)) := by show _ = _; rw [CN.out, dq_snoc, dqs_in (isIn_mem.1 hin)]
                  clear hin
                  go_wp2_with fail
                  exact ⟨⟨k + 1, lo, lc, by go_num, by omega, by rw [DN.out], by rw [DN.out]; exact S8.out.2⟩, by simp [intOf]; omega⟩
                | false =>
                  have DN : Hid (dq (cur F.a.2.2 F.o.2.2 sn i j (k + 1) s.1 o) = dq (cur F.a.2.2 F.o.2.2 sn i j k s.1 o) ++ [(s.1, o, a)]) := by show _ = _; rw [CN.out, dq_snoc, dqs_out (fun q => by rw [isIn_mem.2 q] at hin; cases hin)]
                  clear hin
                  go_wp2_with (with_reducible refine stay_load 36 _ rfl ?_)
                  unfold Stay
                  refine wpList_load_row rfl 36 _ rfl q7 rfl 36 #[.string s.1, .string o, .string a] (0, 0) _ S8.out.1 Try.underlying36 rfl (by kernel_rfl) ?_
                  go_wp2_with (at_builtin; refine stay_app _ _ _ rfl ?_)
                  unfold Stay
                  refine X.wpList_app1 W8 rfl _ _ rfl V.heap.size lo lc _ (s.1, o, a) 36 _ rfl S8.out.2.2 rfl (by have := CL.out; show _ < _; omega) S8.out.2.1.size ?_
                  intro g cap W9 r9 t9 hg hl9
                  have HM3 := hide' (And.intro (S8.out.2.1.trans (below_own t9 (fun j q => (S8.out.2.2.lt j q).1) S8.out.2.1.size)) r9)
                  clear hg hl9 r9 t9 S8
                  go_wp2_with fail
                  exact ⟨⟨k + 1, _, _, by go_num, by omega, by rw [DN.out, List.length_append]; rfl, by rw [DN.out]; exact HM3⟩, by simp [intOf]; omega⟩
            · have hk' : k = F.a.2.2.length := by omega
              have hkt' : ¬ (k : Int) < (F.a.2.2.length : Int) := by omega
              have HM2 := HM
              rw [hk', cur_kn Ho.out] at HM2
              rw [hk', cur_kn Ho.out, ← hk']
              clear HM hk' hlt hk
              go_wp2_with fail
              exact ⟨⟨j + 1, lo, lc, by go_num, by omega, rfl, HM2⟩, by simp [intOf]; omega⟩
        · have hj' : j = F.o.2.2.length := by omega
          have hjt' : ¬ (j : Int) < (F.o.2.2.length : Int) := by omega
          have HM2 := HM
          rw [hj', cur_jn Hs.out] at HM2
          rw [hj', cur_jn Hs.out, ← hj']
          clear HM hj' hlt hj
          go_wp2_with fail
          exact ⟨⟨i + 1, lo, lc, by go_num, by omega, rfl, HM2⟩, by simp [intOf]; omega⟩
    · have hi' : i = F.s.2.2.length := by omega
      have hlt' : ¬ (i : Int) < (F.s.2.2.length : Int) := by omega
      have HM2 := HM
      rw [hi', ← hsnl.out, List.take_length, HT.out] at HM2
      rw [hi', ← hsnl.out, List.take_length, HT.out]
      rw [hsnl.out, ← hi']
      clear HM hi' hlt hi
      go_wp2_with fail
      go_ret
      exact ⟨lo, lc, rfl, HM2.out.2.mono B1.out.1.size, B1.out.1.trans (HM2.out.1.mono B1.out.1.size)⟩
end U
end Go.Proofs.Ytodgokcjjlkcoaa
