import Derived.Test.YtollaamlnddhcaaWol
set_option linter.unusedVariables false
set_option linter.unusedSimpArgs false
namespace Go.Proofs.Ytollaamlnddhcaa
open Go.RowKit Go.Maps
namespace U
/-- the trust of the first subject of a name -/
def tru (sl : List (ByteArray × Nat)) (z : ByteArray) : Option Nat := (sl.find? (fun u => decide (u.1 = z))).map (·.2)
theorem tru_none {sl : List (ByteArray × Nat)} {z : ByteArray} (h : ∀ (i : Nat) (k : ByteArray × Nat), sl[i]? = some k → k.1 ≠ z) : tru sl z = none := by
  have : sl.find? (fun u => decide (u.1 = z)) = none := by
    rw [List.find?_eq_none]
    intro u hu
    obtain ⟨i, hi⟩ := List.mem_iff_getElem?.1 hu
    simpa using h i u hi
  unfold tru; rw [this]; rfl
theorem tru_some {sl : List (ByteArray × Nat)} {z : ByteArray} {j : Nat} {k : ByteArray × Nat} (hj : sl[j]? = some k) (hz : k.1 = z) (hno : ∀ i, i < j → ∀ k', sl[i]? = some k' → k'.1 ≠ z) : tru sl z = some k.2 := by
  have hl := (List.getElem?_eq_some_iff.1 hj).1
  have e : sl = sl.take j ++ (k :: sl.drop (j + 1)) := by
    have h1 : sl[j] = k := (List.getElem?_eq_some_iff.1 hj).2
    rw [← h1, ← List.drop_eq_getElem_cons hl, List.take_append_drop]
  have h1 : (sl.take j).find? (fun u => decide (u.1 = z)) = none := by
    rw [List.find?_eq_none]
    intro u hu
    obtain ⟨i, hi⟩ := List.mem_iff_getElem?.1 hu
    rw [List.getElem?_take] at hi
    split at hi
    · rename_i q; simpa using hno i q u hi
    · cases hi
  unfold tru
  rw [e, List.find?_append, h1]
  simp [hz]
set_option maxRecDepth 100000 in
set_option maxHeartbeats 2000000 in
theorem indexFunc_any (so : Option Addr) (sc : Nat) (sl : List (ByteArray × Nat)) (xb : Nat) (z : ByteArray) (w : World) (h : Subs so sl w) (hc : sl.length ≤ sc) (hx : w.cell? ⟨xb, 0, none⟩ = some (.string z)) (hl : xb < w.heap.size) (hlen : Hid (sl.length ≤ 1048576)) :
    Calls Try.prog 80 #[.slice so sl.length sc, .func (.func 81) #[] #[.pointer (some ⟨xb, 0, none⟩)]] w fun e w' => (((∃ (j : Nat) (k : ByteArray × Nat), e = .returned (.int .i64 (j : Int)) ∧ sl[j]? = some k ∧ tru sl z = some k.2 ∧ k.1 = z) ∨ (e = .returned (.int .i64 (-1)) ∧ tru sl z = none)) ∧ Below w.heap.size w w') := by
  have hent := Try.call81
  have H := hide' h
  have hp64 : (sl.length : Int) ≤ 1048576 := by have := hlen.out; omega
  have Hx := hide' hx
  clear h hx
  go_enter Try.func80, Try.ntmps80
  go_wp2_with fail
  go_loopw [8] (fun iv wx => ∃ j : Nat, iv = .int .i64 (j : Int) ∧ j ≤ sl.length ∧ (∀ i, i < j → ∀ k', sl[i]? = some k' → k'.1 ≠ z) ∧ Below w.heap.size w wx) (fun iv _ => sl.length - (intOf iv).toNat)
  case atStart => exact ⟨0, rfl, by omega, fun i hi => by omega, Below.refl _ _⟩
  case round =>
    obtain ⟨j, rfl, hjl, hno, hB⟩ := hrel
    by_cases hlt : j < sl.length
    · have hlt' : (j : Int) < (sl.length : Int) := by omega
      obtain ⟨k, hk⟩ : ∃ k, sl[j]? = some k := ⟨_, List.getElem?_eq_getElem hlt⟩
      obtain ⟨b, off, rfl, hb, d0, d1⟩ := (H.out.below hB).at hk
      have hxr := hide' ((hB.cell (p := ⟨xb, 0, none⟩) hl).trans Hx.out)
      have hlr : xb < wr.heap.size := Nat.lt_of_lt_of_le hl hB.size
      have HC := hide' (cl78 k xb z wr hxr.out hlr)
      have HN := hide' (And.intro hno (And.intro hB hk))
      clear hno hB hk
      by_cases hz : k.1 = z
      · have hzH := hide' hz
        clear hz
        go_wp2_with fail
        refine HC.out.mono ?_
        rintro e w1 ⟨rfl, b1⟩
        have hT : Hid (tru sl z = some k.2) := tru_some HN.out.2.2 hzH.out HN.out.1
        have hbb : Hid (Below w.heap.size w w1) := HN.out.2.1.trans (b1.mono HN.out.2.1.size)
        clear b1
        rw [decide_eq_true hzH.out]
        go_wp2_with fail
        go_ret
        exact ⟨.inl ⟨j, k, rfl, HN.out.2.2, hT.out, hzH.out⟩, hbb.out⟩
      · go_wp2_with fail
        refine HC.out.mono ?_
        rintro e w1 ⟨rfl, b1⟩
        have hbb : Hid (Below w.heap.size w w1) := HN.out.2.1.trans (b1.mono HN.out.2.1.size)
        clear b1
        rw [decide_eq_false hz]
        go_wp2_with fail
        refine ⟨⟨j + 1, by go_num, by omega, fun i hi k' hk' => ?_, hbb.out⟩, by simp [intOf]; omega⟩
        rcases Nat.lt_or_ge i j with q | q
        · exact HN.out.1 i q k' hk'
        · have : i = j := by omega
          subst this
          rw [HN.out.2.2] at hk'; cases hk'; exact hz
    · have hjn : sl.length = j := by omega
      have hlt' : ¬ (j : Int) < (sl.length : Int) := by omega
      subst hjn
      have hT : Hid (tru sl z = none ∧ Below w.heap.size w wr) := ⟨tru_none (fun i k hk => hno i (List.getElem?_eq_some_iff.1 hk).1 k hk), hB⟩
      clear hno hB
      go_wp2_with fail
      go_ret
      exact ⟨.inr ⟨rfl, hT.out.1⟩, hT.out.2⟩
/-- three cells are written over -/
structure St66 (rb : Nat) (w : World) : Prop where
  c0 : ∃ a, w.cell? ⟨rb, 0, none⟩ = some a
  f0 : w.frozen? ⟨rb, 0, none⟩ = false
  c1 : ∀ u, ∃ a, (w.setCell ⟨rb, 0, none⟩ u).cell? ⟨rb, 1, none⟩ = some a
  f1 : ∀ u, (w.setCell ⟨rb, 0, none⟩ u).frozen? ⟨rb, 1, none⟩ = false
  c2 : ∀ u v, ∃ a, ((w.setCell ⟨rb, 0, none⟩ u).setCell ⟨rb, 1, none⟩ v).cell? ⟨rb, 2, none⟩ = some a
  f2 : ∀ u v, ((w.setCell ⟨rb, 0, none⟩ u).setCell ⟨rb, 1, none⟩ v).frozen? ⟨rb, 2, none⟩ = false
  fin : ∀ u v x, (((w.setCell ⟨rb, 0, none⟩ u).setCell ⟨rb, 1, none⟩ v).setCell ⟨rb, 2, none⟩ x).heap[rb]? = some (.cells #[u, v, x] 97 (0, 0))
  tt : ∀ u v x, Turn (fun j => j = rb) w (((w.setCell ⟨rb, 0, none⟩ u).setCell ⟨rb, 1, none⟩ v).setCell ⟨rb, 2, none⟩ x)
theorem st66 {rb : Nat} {w : World} {a0 a1 a2 : Value} (h : w.heap[rb]? = some (.cells #[a0, a1, a2] 97 (0, 0))) : St66 rb w where
  c0 := ⟨a0, by rw [Lib.cell_of_heap h]; rfl⟩
  f0 := Lib.frozen_of_heap h 0
  c1 := fun u => ⟨a1, by rw [World.cell?_setCell_other _ _ _ _ (by simp), Lib.cell_of_heap h]; rfl⟩
  f1 := fun u => by rw [World.frozen?_setCell]; exact Lib.frozen_of_heap h 1
  c2 := fun u v => ⟨a2, by rw [World.cell?_setCell_other _ _ _ _ (by simp), World.cell?_setCell_other _ _ _ _ (by simp), Lib.cell_of_heap h]; rfl⟩
  f2 := fun u v => by rw [World.frozen?_setCell, World.frozen?_setCell]; exact Lib.frozen_of_heap h 2
  fin := fun u v x => by simp [World.setCell, Array.getElem?_modify, h]
  tt := fun u v x => (((Turn.refl (fun j => j = rb) w).setCell (p := ⟨rb, 0, none⟩) (fun _ => rfl) _).setCell (p := ⟨rb, 1, none⟩) (fun _ => rfl) _).setCell (p := ⟨rb, 2, none⟩) (fun _ => rfl) _
/-- what subjectOf tells -/
def SubjIs (P : Po) (z : ByteArray) (w : World) (e : Ending) (w' : World) : Prop := (∃ t, tru P.sl z = some t ∧ PartyIs (P.m.2.2 ++ P.i.2.2) z t w e w') ∨ (tru P.sl z = none ∧ e = .returned (.agg #[.string ⟨#[]⟩, .float .f64 0, .map none]) ∧ Below w.heap.size w w')
set_option maxRecDepth 100000 in
set_option maxHeartbeats 4000000 in
theorem subjectOf_any (P : Po) (z : ByteArray) (w : World) (h : P.In w) (hs : P.Small) (hz : z.size ≤ 1048576) : Calls Try.prog 73 #[P.val, .string z] w fun e w' => SubjIs P z w e w' := by
  have hmf : ∀ (fn : Fn) (first cap : Array Value) (w : World), (Instr.makeFunc fn first cap).run Try.prog w = .ok (.func fn first cap) w := fun _ _ _ _ => rfl
  have H := hide' h
  have Hs := hide' hs
  have hs64 : (P.sl.length : Int) ≤ 1048576 := by have := hs.s; omega
  have hsc := h.sc
  clear h hs
  have hPv : Hid (P.val = .agg #[.slice P.ao P.al.length P.ac, .slice P.so P.sl.length P.sc, P.ro, .slice P.oo P.ol.length P.oc, P.gr, .slice P.m.1 P.m.2.2.length P.m.2.1, .slice P.i.1 P.i.2.2.length P.i.2.1, .slice P.p.1 P.p.2.2.length P.p.2.1, .slice P.w.1 P.w.2.2.length P.w.2.1, P.ru, P.ex]) := rfl
  rw [hPv.out]
  go_enter Try.func73, Try.ntmps73
  go_wp2_with fail
  obtain ⟨V, hV⟩ : ∃ V, V = (((w.alloc (.cells #[.slice P.ao P.al.length P.ac, .slice P.so P.sl.length P.sc, P.ro, .slice P.oo P.ol.length P.oc, P.gr, .slice P.m.1 P.m.2.2.length P.m.2.1, .slice P.i.1 P.i.2.2.length P.i.2.1, .slice P.p.1 P.p.2.2.length P.p.2.1, .slice P.w.1 P.w.2.2.length P.w.2.1, P.ru, P.ex] 28)).alloc (.cells #[.string z] 9)).alloc (.cells #[.string ⟨#[]⟩, .float .f64 0, .map none] 97)) := ⟨_, rfl⟩
  rw [← hV]
  have F : Hid (V.heap.size = w.heap.size + 3 ∧ Below w.heap.size w V ∧ V.heap[w.heap.size]? = some (.cells #[.slice P.ao P.al.length P.ac, .slice P.so P.sl.length P.sc, P.ro, .slice P.oo P.ol.length P.oc, P.gr, .slice P.m.1 P.m.2.2.length P.m.2.1, .slice P.i.1 P.i.2.2.length P.i.2.1, .slice P.p.1 P.p.2.2.length P.p.2.1, .slice P.w.1 P.w.2.2.length P.w.2.1, P.ru, P.ex] 28 (0, 0)) ∧ V.heap[w.heap.size + 1]? = some (.cells #[.string z] 9 (0, 0)) ∧ V.heap[w.heap.size + 1 + 1]? = some (.cells #[.string ⟨#[]⟩, .float .f64 0, .map none] 97 (0, 0))) := by
    generalize (.cells #[.slice P.ao P.al.length P.ac, .slice P.so P.sl.length P.sc, P.ro, .slice P.oo P.ol.length P.oc, P.gr, .slice P.m.1 P.m.2.2.length P.m.2.1, .slice P.i.1 P.i.2.2.length P.i.2.1, .slice P.p.1 P.p.2.2.length P.p.2.1, .slice P.w.1 P.w.2.2.length P.w.2.1, P.ru, P.ex] 28 : Obj) = o1 at *
    have a1 := heap_alloc_new w o1
    have a2 := heap_alloc_new (w.alloc o1) (.cells #[.string z] 9)
    have a3 := heap_alloc_new ((w.alloc o1).alloc (.cells #[.string z] 9)) (.cells #[.string ⟨#[]⟩, .float .f64 0, .map none] 97)
    have z1 : (w.alloc o1).heap.size = w.heap.size + 1 := by simp
    have z2 : ((w.alloc o1).alloc (.cells #[.string z] 9)).heap.size = w.heap.size + 1 + 1 := by simp
    rw [z1] at a2
    rw [z2] at a3
    rw [hV]
    exact ⟨by simp, (((Below.refl _ _).alloc (Nat.le_refl _) _).alloc (by simp) _).alloc (by simp; omega) _, (Below.heap_alloc _ _ _ (by omega)).trans ((Below.heap_alloc _ _ _ (by omega)).trans a1), (Below.heap_alloc _ _ _ (by omega)).trans a2, a3⟩
  clear hV
  obtain ⟨sV, bV, f1, f2, f3⟩ := F.out
  have hIV := H.out.below bV
  refine (indexFunc_any P.so P.sc P.sl (w.heap.size + 1) z V hIV.s hIV.sc (by rw [Lib.cell_of_heap f2]; rfl) (by omega) (by show _ ≤ _; exact Hs.out.s)).mono ?_
  rintro e w1 ⟨hcase, b1⟩
  have hw1 : Hid (Below w.heap.size w w1) := bV.trans (b1.mono bV.size)
  have g1 := (b1.block w.heap.size (by omega)).trans f1
  have g2 := (b1.block (w.heap.size + 1) (by omega)).trans f2
  have g3 := (b1.block (w.heap.size + 1 + 1) (by omega)).trans f3
  have hs1 : w.heap.size + 3 ≤ w1.heap.size := by have := b1.size; omega
  clear F sV bV f1 f2 f3 hIV b1
  have hsf : ∀ (a : Addr) (k : FloatKind) (b : Nat) (m : Mode) (w : World), (store a (.float k b) m).run Try.prog w = stored Try.prog w a (.float k b) m := fun a k b m w => run_store Try.prog w a _ m rfl
  rcases hcase with ⟨j, k, rfl, hj, ht, hkz⟩ | ⟨rfl, ht⟩
  · obtain ⟨sb, off, hso, hsb, _, d1⟩ := (H.out.below hw1.out).s.at hj
    have HI := hide' (H.out.below hw1.out)
    have hjl := (List.getElem?_eq_some_iff.1 hj).1
    have hj64 : (j : Int) < (P.sl.length : Int) := by omega
    rw [hso] at g1 ⊢
    have HPv : Hid (P.val = .agg #[.slice P.ao P.al.length P.ac, .slice (some ⟨sb, off, none⟩) P.sl.length P.sc, P.ro, .slice P.oo P.ol.length P.oc, P.gr, .slice P.m.1 P.m.2.2.length P.m.2.1, .slice P.i.1 P.i.2.2.length P.i.2.1, .slice P.p.1 P.p.2.2.length P.p.2.1, .slice P.w.1 P.w.2.2.length P.w.2.1, P.ru, P.ex]) := by show _ = _; unfold Po.val; rw [hso]
    have hsbn : sb < w.heap.size := by
      obtain ⟨sb', off', e, hq, _⟩ := H.out.s.at hj
      rw [hso] at e; cases e; exact hq
    obtain ⟨bx, hbx⟩ : ∃ bx, bx = w.heap.size := ⟨_, rfl⟩
    generalize hrb : w.heap.size + 1 + 1 = rb at *
    generalize hnb : w.heap.size + 1 = nb at *
    rw [← hbx]
    rw [← hbx] at g1
    have hls : bx < w1.heap.size ∧ nb < w1.heap.size ∧ sb < w1.heap.size ∧ rb < w1.heap.size ∧ bx ≠ rb ∧ nb ≠ rb ∧ sb ≠ rb := ⟨by omega, by omega, by omega, by omega, by omega, by omega, by omega⟩
    have K1 : w1.cell? ⟨bx, 0, none⟩ = some (.slice P.ao P.al.length P.ac) ∧ w1.cell? ⟨bx, 1, none⟩ = some (.slice (some ⟨sb, off, none⟩) P.sl.length P.sc) ∧ w1.cell? ⟨bx, 2, none⟩ = some P.ro ∧ w1.cell? ⟨bx, 3, none⟩ = some (.slice P.oo P.ol.length P.oc) ∧ w1.cell? ⟨bx, 4, none⟩ = some P.gr ∧ w1.cell? ⟨bx, 5, none⟩ = some (.slice P.m.1 P.m.2.2.length P.m.2.1) ∧ w1.cell? ⟨bx, 6, none⟩ = some (.slice P.i.1 P.i.2.2.length P.i.2.1) ∧ w1.cell? ⟨bx, 7, none⟩ = some (.slice P.p.1 P.p.2.2.length P.p.2.1) ∧ w1.cell? ⟨bx, 8, none⟩ = some (.slice P.w.1 P.w.2.2.length P.w.2.1) ∧ w1.cell? ⟨bx, 9, none⟩ = some P.ru ∧ w1.cell? ⟨bx, 10, none⟩ = some P.ex ∧ w1.cell? ⟨nb, 0, none⟩ = some (.string z) ∧ w1.cell? ⟨sb, off + j * 2 + 1, none⟩ = some (.float .f64 k.2) := ⟨by rw [Lib.cell_of_heap g1]; rfl, by rw [Lib.cell_of_heap g1]; rfl, by rw [Lib.cell_of_heap g1]; rfl, by rw [Lib.cell_of_heap g1]; rfl, by rw [Lib.cell_of_heap g1]; rfl, by rw [Lib.cell_of_heap g1]; rfl, by rw [Lib.cell_of_heap g1]; rfl, by rw [Lib.cell_of_heap g1]; rfl, by rw [Lib.cell_of_heap g1]; rfl, by rw [Lib.cell_of_heap g1]; rfl, by rw [Lib.cell_of_heap g1]; rfl, by rw [Lib.cell_of_heap g2]; rfl, d1⟩
    have KS : Hid (∀ w', Below w1.heap.size w1 w' → w'.cell? ⟨bx, 0, none⟩ = some (.slice P.ao P.al.length P.ac) ∧ w'.cell? ⟨bx, 1, none⟩ = some (.slice (some ⟨sb, off, none⟩) P.sl.length P.sc) ∧ w'.cell? ⟨bx, 2, none⟩ = some P.ro ∧ w'.cell? ⟨bx, 3, none⟩ = some (.slice P.oo P.ol.length P.oc) ∧ w'.cell? ⟨bx, 4, none⟩ = some P.gr ∧ w'.cell? ⟨bx, 5, none⟩ = some (.slice P.m.1 P.m.2.2.length P.m.2.1) ∧ w'.cell? ⟨bx, 6, none⟩ = some (.slice P.i.1 P.i.2.2.length P.i.2.1) ∧ w'.cell? ⟨bx, 7, none⟩ = some (.slice P.p.1 P.p.2.2.length P.p.2.1) ∧ w'.cell? ⟨bx, 8, none⟩ = some (.slice P.w.1 P.w.2.2.length P.w.2.1) ∧ w'.cell? ⟨bx, 9, none⟩ = some P.ru ∧ w'.cell? ⟨bx, 10, none⟩ = some P.ex ∧ w'.cell? ⟨nb, 0, none⟩ = some (.string z) ∧ w'.cell? ⟨sb, off + j * 2 + 1, none⟩ = some (.float .f64 k.2)) := fun w' b => ⟨(b.cell (p := ⟨bx, 0, none⟩) hls.1).trans K1.1, (b.cell (p := ⟨bx, 1, none⟩) hls.1).trans K1.2.1, (b.cell (p := ⟨bx, 2, none⟩) hls.1).trans K1.2.2.1, (b.cell (p := ⟨bx, 3, none⟩) hls.1).trans K1.2.2.2.1, (b.cell (p := ⟨bx, 4, none⟩) hls.1).trans K1.2.2.2.2.1, (b.cell (p := ⟨bx, 5, none⟩) hls.1).trans K1.2.2.2.2.2.1, (b.cell (p := ⟨bx, 6, none⟩) hls.1).trans K1.2.2.2.2.2.2.1, (b.cell (p := ⟨bx, 7, none⟩) hls.1).trans K1.2.2.2.2.2.2.2.1, (b.cell (p := ⟨bx, 8, none⟩) hls.1).trans K1.2.2.2.2.2.2.2.2.1, (b.cell (p := ⟨bx, 9, none⟩) hls.1).trans K1.2.2.2.2.2.2.2.2.2.1, (b.cell (p := ⟨bx, 10, none⟩) hls.1).trans K1.2.2.2.2.2.2.2.2.2.2.1, (b.cell (p := ⟨nb, 0, none⟩) hls.2.1).trans K1.2.2.2.2.2.2.2.2.2.2.2.1, (b.cell (p := ⟨sb, off + j * 2 + 1, none⟩) hls.2.2.1).trans K1.2.2.2.2.2.2.2.2.2.2.2.2⟩
    have KT : Hid (∀ w', Turn (fun q => q = rb) w1 w' → w'.cell? ⟨bx, 0, none⟩ = some (.slice P.ao P.al.length P.ac) ∧ w'.cell? ⟨bx, 1, none⟩ = some (.slice (some ⟨sb, off, none⟩) P.sl.length P.sc) ∧ w'.cell? ⟨bx, 2, none⟩ = some P.ro ∧ w'.cell? ⟨bx, 3, none⟩ = some (.slice P.oo P.ol.length P.oc) ∧ w'.cell? ⟨bx, 4, none⟩ = some P.gr ∧ w'.cell? ⟨bx, 5, none⟩ = some (.slice P.m.1 P.m.2.2.length P.m.2.1) ∧ w'.cell? ⟨bx, 6, none⟩ = some (.slice P.i.1 P.i.2.2.length P.i.2.1) ∧ w'.cell? ⟨bx, 7, none⟩ = some (.slice P.p.1 P.p.2.2.length P.p.2.1) ∧ w'.cell? ⟨bx, 8, none⟩ = some (.slice P.w.1 P.w.2.2.length P.w.2.1) ∧ w'.cell? ⟨bx, 9, none⟩ = some P.ru ∧ w'.cell? ⟨bx, 10, none⟩ = some P.ex ∧ w'.cell? ⟨nb, 0, none⟩ = some (.string z) ∧ w'.cell? ⟨sb, off + j * 2 + 1, none⟩ = some (.float .f64 k.2)) := fun w' b => ⟨(b.cell (p := ⟨bx, 0, none⟩) hls.1 hls.2.2.2.2.1).trans K1.1, (b.cell (p := ⟨bx, 1, none⟩) hls.1 hls.2.2.2.2.1).trans K1.2.1, (b.cell (p := ⟨bx, 2, none⟩) hls.1 hls.2.2.2.2.1).trans K1.2.2.1, (b.cell (p := ⟨bx, 3, none⟩) hls.1 hls.2.2.2.2.1).trans K1.2.2.2.1, (b.cell (p := ⟨bx, 4, none⟩) hls.1 hls.2.2.2.2.1).trans K1.2.2.2.2.1, (b.cell (p := ⟨bx, 5, none⟩) hls.1 hls.2.2.2.2.1).trans K1.2.2.2.2.2.1, (b.cell (p := ⟨bx, 6, none⟩) hls.1 hls.2.2.2.2.1).trans K1.2.2.2.2.2.2.1, (b.cell (p := ⟨bx, 7, none⟩) hls.1 hls.2.2.2.2.1).trans K1.2.2.2.2.2.2.2.1, (b.cell (p := ⟨bx, 8, none⟩) hls.1 hls.2.2.2.2.1).trans K1.2.2.2.2.2.2.2.2.1, (b.cell (p := ⟨bx, 9, none⟩) hls.1 hls.2.2.2.2.1).trans K1.2.2.2.2.2.2.2.2.2.1, (b.cell (p := ⟨bx, 10, none⟩) hls.1 hls.2.2.2.2.1).trans K1.2.2.2.2.2.2.2.2.2.2.1, (b.cell (p := ⟨nb, 0, none⟩) hls.2.1 hls.2.2.2.2.2.1).trans K1.2.2.2.2.2.2.2.2.2.2.2.1, (b.cell (p := ⟨sb, off + j * 2 + 1, none⟩) hls.2.2.1 hls.2.2.2.2.2.2).trans K1.2.2.2.2.2.2.2.2.2.2.2.2⟩
    have HW := hide' (fun V (b : Below w1.heap.size w1 V) => whoLines_any P V (HI.out.below b) Hs.out)
    have hokk : Hid (∀ y ∈ N.uni (P.m.2.2 ++ P.i.2.2) z, S.okk y) := fun y hy => by
      unfold N.uni at hy
      rcases List.mem_cons.1 hy with e | e
      · rw [e]; exact okk_of hz
      · obtain ⟨q, hq, rfl⟩ := List.mem_map.1 e
        exact okk_of (Hs.out.tm q hq).2
    have hqlen : Hid ((P.m.2.2 ++ P.i.2.2).length ≤ 1048576) := by show _ ≤ _; rw [List.length_append]; exact Hs.out.mi
    have G3 := hide' g3
    have hb0 : Below w1.heap.size w1 w1.drew := ⟨rfl, rfl, rfl, Nat.le_refl _, fun _ _ => rfl⟩
    have C1 := hide' (HW.out w1.drew hb0)
    rw [HPv.out] at C1
    have Hlow := hide' hls
    have HT := hide' (And.intro ht hkz)
    have hrbw : w.heap.size ≤ rb := by omega
    have K1H := hide' K1
    clear g1 g2 g3 H ht hkz hj hsb d1 hrb hnb hsbn hs1 hls hbx
    obtain ⟨e0, e1, e2, e3, e4, e5, e6, e7, e8, e9, e10, e11, e12⟩ := K1
    go_wp2_with fail
    go_region_held3 (fun w' => w'.cell? ⟨bx, 0, none⟩ = some (.slice P.ao P.al.length P.ac) ∧ w'.cell? ⟨bx, 1, none⟩ = some (.slice (some ⟨sb, off, none⟩) P.sl.length P.sc) ∧ w'.cell? ⟨bx, 2, none⟩ = some P.ro ∧ w'.cell? ⟨bx, 3, none⟩ = some (.slice P.oo P.ol.length P.oc) ∧ w'.cell? ⟨bx, 4, none⟩ = some P.gr ∧ w'.cell? ⟨bx, 5, none⟩ = some (.slice P.m.1 P.m.2.2.length P.m.2.1) ∧ w'.cell? ⟨bx, 6, none⟩ = some (.slice P.i.1 P.i.2.2.length P.i.2.1) ∧ w'.cell? ⟨bx, 7, none⟩ = some (.slice P.p.1 P.p.2.2.length P.p.2.1) ∧ w'.cell? ⟨bx, 8, none⟩ = some (.slice P.w.1 P.w.2.2.length P.w.2.1) ∧ w'.cell? ⟨bx, 9, none⟩ = some P.ru ∧ w'.cell? ⟨bx, 10, none⟩ = some P.ex ∧ w'.cell? ⟨nb, 0, none⟩ = some (.string z) ∧ w'.cell? ⟨sb, off + j * 2 + 1, none⟩ = some (.float .f64 k.2)) (first | exact KS.out _ hb0 | exact KT.out _ tF | exact KS.out _ b13 | exact KS.out _ b12 | go_keep) (first
      | (go_at_call 44; refine C1.out.mono ?_; rintro e w2 ⟨bm, f, rfl, hL, b2⟩; have b12 : Below w1.heap.size w1 w2 := ⟨b2.os, b2.tape, b2.output, b2.size, b2.block⟩; have C2 := hide' (party_any bm _ (P.m.2.2 ++ P.i.2.2) f z k.2 w2 hL hokk.out hz hqlen.out); clear hL b2)
      | (go_at_call 47; refine C2.out.mono ?_; rintro e w3 ⟨nbm, ms, rfl, hq1, hq2, hq3, b3⟩; have b13 : Below w1.heap.size w1 w3 := b12.trans (b3.mono b12.size); have Q3 := hide' (And.intro hq1 (And.intro hq2 hq3)); have SS := hide' (st66 ((b13.block rb Hlow.out.2.2.2.1).trans G3.out)); obtain ⟨a0, c0⟩ := SS.out.c0; have f0 := SS.out.f0; obtain ⟨a1, c1⟩ := SS.out.c1 (.string z); have f1 := SS.out.f1 (.string z); obtain ⟨a2, c2⟩ := SS.out.c2 (.string z) (.float .f64 k.2); have f2 := SS.out.f2 (.string z) (.float .f64 k.2); have tF : Turn (fun q => q = rb) w1 (((w3.setCell ⟨rb, 0, none⟩ (.string z)).setCell ⟨rb, 1, none⟩ (.float .f64 k.2)).setCell ⟨rb, 2, none⟩ (.map (some nbm))) := (turn_below (S := fun q => q = rb) b13).then (SS.out.tt (.string z) (.float .f64 k.2) (.map (some nbm))) (fun _ _ q => q); clear hq1 hq2 hq3 b3))
    have tH := SS.out.fin (.string z) (.float .f64 k.2) (.map (some nbm))
    have hfin : Hid (SubjIs P z w (.returned (.agg #[.string z, .float .f64 k.2, .map (some nbm)])) (((w3.setCell ⟨rb, 0, none⟩ (.string z)).setCell ⟨rb, 1, none⟩ (.float .f64 k.2)).setCell ⟨rb, 2, none⟩ (.map (some nbm)))) := by
      have hb := hw1.out.trans (b13.mono hw1.out.size)
      have hsz := b12.size
      have hnr : nbm ≠ rb := fun e => by have := Q3.out.1; have := Hlow.out.2.2.2.1; omega
      exact .inl ⟨k.2, HT.out.1, nbm, ms, rfl, Nat.le_trans hw1.out.size (Nat.le_trans hsz Q3.out.1), Q3.out.2.1.turn (SS.out.tt _ _ _) hnr, Q3.out.2.2, hb.trans (below_own (SS.out.tt _ _ _) (fun q e => by rw [e]; exact hrbw) hb.size)⟩
    clear KS KT C1 C2 SS Q3
    go_wp2_with fail
    (try simp only [Exit.inBlock, Exit.then])
    refine bodyPost_ret (results_cell_row rfl _ _ rb 97 #[.string z, .float .f64 k.2, .map (some nbm)] (0, 0) _ rfl tH Try.underlying97 rfl (by kernel_rfl)) rfl ?_
    exact hfin.out
  · have SS := hide' (st66 g3)
    obtain ⟨a0, c0⟩ := SS.out.c0
    have f0 := SS.out.f0
    obtain ⟨a1, c1⟩ := SS.out.c1 (.string ⟨#[]⟩)
    have f1 := SS.out.f1 (.string ⟨#[]⟩)
    obtain ⟨a2, c2⟩ := SS.out.c2 (.string ⟨#[]⟩) (.float .f64 0)
    have f2 := SS.out.f2 (.string ⟨#[]⟩) (.float .f64 0)
    have tH := SS.out.fin (.string ⟨#[]⟩) (.float .f64 0) (.map none)
    have hfin : Hid (SubjIs P z w (.returned (.agg #[.string ⟨#[]⟩, .float .f64 0, .map none])) (((w1.setCell ⟨w.heap.size + 1 + 1, 0, none⟩ (.string ⟨#[]⟩)).setCell ⟨w.heap.size + 1 + 1, 1, none⟩ (.float .f64 0)).setCell ⟨w.heap.size + 1 + 1, 2, none⟩ (.map none))) := .inr ⟨ht, rfl, hw1.out.trans (below_own (SS.out.tt _ _ _) (fun j q => by omega) hw1.out.size)⟩
    clear g1 g2 g3 SS H ht
    go_wp2_with fail
    (try simp only [Exit.inBlock, Exit.then])
    refine bodyPost_ret (results_cell_row rfl _ _ (w.heap.size + 1 + 1) 97 #[.string ⟨#[]⟩, .float .f64 0, .map none] (0, 0) _ rfl tH Try.underlying97 rfl (by kernel_rfl)) rfl ?_
    exact hfin.out
end U
end Go.Proofs.Ytollaamlnddhcaa
