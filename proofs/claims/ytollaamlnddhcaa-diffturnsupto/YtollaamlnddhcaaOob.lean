import Derived.Test.YtollaamlnddhcaaSob
set_option linter.unusedVariables false
set_option linter.unusedSimpArgs false
namespace Go.Proofs.Ytollaamlnddhcaa
open Go.RowKit Go.Maps
namespace U
/-- what objectOf tells -/
def ObjIs (P : Po) (z : ByteArray) (w : World) (e : Ending) (w' : World) : Prop := (isIn P.ol z = true ∧ PartyIs (P.p.2.2 ++ P.w.2.2) z 0 w e w') ∨ (isIn P.ol z = false ∧ e = .returned (.agg #[.string ⟨#[]⟩, .float .f64 0, .map none]) ∧ Below w.heap.size w w')
set_option maxRecDepth 100000 in
set_option maxHeartbeats 4000000 in
theorem objectOf_any (P : Po) (z : ByteArray) (w : World) (h : P.In w) (hs : P.Small) (hz : z.size ≤ 1048576) : Calls Try.prog 74 #[P.val, .string z] w fun e w' => ObjIs P z w e w' := by
  have H := hide' h
  have Hs := hide' hs
  have hoc := h.oc
  clear h hs
  have hsf : ∀ (a : Addr) (k : FloatKind) (b : Nat) (m : Mode) (w : World), (store a (.float k b) m).run Try.prog w = stored Try.prog w a (.float k b) m := fun a k b m w => run_store Try.prog w a _ m rfl
  have hPv : Hid (P.val = .agg #[.slice P.ao P.al.length P.ac, .slice P.so P.sl.length P.sc, P.ro, .slice P.oo P.ol.length P.oc, P.gr, .slice P.m.1 P.m.2.2.length P.m.2.1, .slice P.i.1 P.i.2.2.length P.i.2.1, .slice P.p.1 P.p.2.2.length P.p.2.1, .slice P.w.1 P.w.2.2.length P.w.2.1, P.ru, P.ex]) := rfl
  rw [hPv.out]
  go_enter Try.func74, Try.ntmps74
  go_wp2_with fail
  obtain ⟨V, hV⟩ : ∃ V, V = ((w.alloc (.cells #[.slice P.ao P.al.length P.ac, .slice P.so P.sl.length P.sc, P.ro, .slice P.oo P.ol.length P.oc, P.gr, .slice P.m.1 P.m.2.2.length P.m.2.1, .slice P.i.1 P.i.2.2.length P.i.2.1, .slice P.p.1 P.p.2.2.length P.p.2.1, .slice P.w.1 P.w.2.2.length P.w.2.1, P.ru, P.ex] 28)).alloc (.cells #[.string ⟨#[]⟩, .float .f64 0, .map none] 97)) := ⟨_, rfl⟩
  rw [← hV]
  have F : Hid (V.heap.size = w.heap.size + 2 ∧ Below w.heap.size w V ∧ V.heap[w.heap.size]? = some (.cells #[.slice P.ao P.al.length P.ac, .slice P.so P.sl.length P.sc, P.ro, .slice P.oo P.ol.length P.oc, P.gr, .slice P.m.1 P.m.2.2.length P.m.2.1, .slice P.i.1 P.i.2.2.length P.i.2.1, .slice P.p.1 P.p.2.2.length P.p.2.1, .slice P.w.1 P.w.2.2.length P.w.2.1, P.ru, P.ex] 28 (0, 0)) ∧ V.heap[w.heap.size + 1]? = some (.cells #[.string ⟨#[]⟩, .float .f64 0, .map none] 97 (0, 0))) := by
    generalize (.cells #[.slice P.ao P.al.length P.ac, .slice P.so P.sl.length P.sc, P.ro, .slice P.oo P.ol.length P.oc, P.gr, .slice P.m.1 P.m.2.2.length P.m.2.1, .slice P.i.1 P.i.2.2.length P.i.2.1, .slice P.p.1 P.p.2.2.length P.p.2.1, .slice P.w.1 P.w.2.2.length P.w.2.1, P.ru, P.ex] 28 : Obj) = o1 at *
    have a1 := heap_alloc_new w o1
    have a2 := heap_alloc_new (w.alloc o1) (.cells #[.string ⟨#[]⟩, .float .f64 0, .map none] 97)
    have z1 : (w.alloc o1).heap.size = w.heap.size + 1 := by simp
    rw [z1] at a2
    rw [hV]
    exact ⟨by simp, ((Below.refl _ _).alloc (Nat.le_refl _) _).alloc (by simp) _, (Below.heap_alloc _ _ _ (by omega)).trans a1, a2⟩
  clear hV
  obtain ⟨sV, bV, f1, f2⟩ := F.out
  have hIV := H.out.below bV
  refine (S.contains_any P.oo P.oc P.ol z V hIV.o hIV.oc (by show _ < _; have := Hs.out.o; omega)).mono ?_
  rintro e w1 ⟨rfl, rfl⟩
  have HI := hide' hIV
  have HbV := hide' bV
  obtain ⟨bx, hbx⟩ : ∃ bx, bx = w.heap.size := ⟨_, rfl⟩
  generalize hrb : w.heap.size + 1 = rb at *
  rw [← hbx]
  rw [← hbx] at f1
  have hrw : w.heap.size ≤ rb := by omega
  have hbl : bx < w1.heap.size ∧ rb < w1.heap.size ∧ bx ≠ rb := ⟨by omega, by omega, by omega⟩
  have F2 := hide' f2
  cases hin : isIn P.ol z with
  | false =>
    have SS := hide' (st66 f2)
    obtain ⟨a0, c0⟩ := SS.out.c0
    have g0 := SS.out.f0
    obtain ⟨a1, c1⟩ := SS.out.c1 (.string ⟨#[]⟩)
    have g1 := SS.out.f1 (.string ⟨#[]⟩)
    obtain ⟨a2, c2⟩ := SS.out.c2 (.string ⟨#[]⟩) (.float .f64 0)
    have g2 := SS.out.f2 (.string ⟨#[]⟩) (.float .f64 0)
    have tH := SS.out.fin (.string ⟨#[]⟩) (.float .f64 0) (.map none)
    have hfin : Hid (ObjIs P z w (.returned (.agg #[.string ⟨#[]⟩, .float .f64 0, .map none])) (((w1.setCell ⟨rb, 0, none⟩ (.string ⟨#[]⟩)).setCell ⟨rb, 1, none⟩ (.float .f64 0)).setCell ⟨rb, 2, none⟩ (.map none))) := .inr ⟨hin, rfl, HbV.out.trans (below_own (SS.out.tt _ _ _) (fun j q => by omega) HbV.out.size)⟩
    clear F sV bV f1 f2 hIV hbx SS hin H
    go_wp2_with fail
    (try simp only [Exit.inBlock, Exit.then])
    refine bodyPost_ret (results_cell_row rfl _ _ rb 97 #[.string ⟨#[]⟩, .float .f64 0, .map none] (0, 0) _ rfl tH Try.underlying97 rfl (by kernel_rfl)) rfl ?_
    exact hfin.out
  | true =>
    have C1 := hide' (whatLines_any P w1 HI.out Hs.out)
    rw [hPv.out] at C1
    have hokk : Hid (∀ y ∈ N.uni (P.p.2.2 ++ P.w.2.2) z, S.okk y) := fun y hy => by
      unfold N.uni at hy
      rcases List.mem_cons.1 hy with e | e
      · rw [e]; exact okk_of hz
      · obtain ⟨q, hq, rfl⟩ := List.mem_map.1 e
        exact okk_of (Hs.out.tp q hq).2
    have hqlen : Hid ((P.p.2.2 ++ P.w.2.2).length ≤ 1048576) := by show _ ≤ _; rw [List.length_append]; exact Hs.out.pw
    have e0 : w1.cell? ⟨bx, 0, none⟩ = some (.slice P.ao P.al.length P.ac) := by rw [Lib.cell_of_heap f1]; rfl
    have e1 : w1.cell? ⟨bx, 1, none⟩ = some (.slice P.so P.sl.length P.sc) := by rw [Lib.cell_of_heap f1]; rfl
    have e2 : w1.cell? ⟨bx, 2, none⟩ = some P.ro := by rw [Lib.cell_of_heap f1]; rfl
    have e3 : w1.cell? ⟨bx, 3, none⟩ = some (.slice P.oo P.ol.length P.oc) := by rw [Lib.cell_of_heap f1]; rfl
    have e4 : w1.cell? ⟨bx, 4, none⟩ = some P.gr := by rw [Lib.cell_of_heap f1]; rfl
    have e5 : w1.cell? ⟨bx, 5, none⟩ = some (.slice P.m.1 P.m.2.2.length P.m.2.1) := by rw [Lib.cell_of_heap f1]; rfl
    have e6 : w1.cell? ⟨bx, 6, none⟩ = some (.slice P.i.1 P.i.2.2.length P.i.2.1) := by rw [Lib.cell_of_heap f1]; rfl
    have e7 : w1.cell? ⟨bx, 7, none⟩ = some (.slice P.p.1 P.p.2.2.length P.p.2.1) := by rw [Lib.cell_of_heap f1]; rfl
    have e8 : w1.cell? ⟨bx, 8, none⟩ = some (.slice P.w.1 P.w.2.2.length P.w.2.1) := by rw [Lib.cell_of_heap f1]; rfl
    have e9 : w1.cell? ⟨bx, 9, none⟩ = some P.ru := by rw [Lib.cell_of_heap f1]; rfl
    have e10 : w1.cell? ⟨bx, 10, none⟩ = some P.ex := by rw [Lib.cell_of_heap f1]; rfl
    have Hin := hide' hin
    have Hbl := hide' hbl
    clear F sV bV f1 f2 hIV hbx hin H hbl
    go_wp2_with fail
    refine C1.out.mono ?_
    rintro e w2 ⟨bm, f, rfl, hL, b2⟩
    have C2 := hide' (party_any bm _ (P.p.2.2 ++ P.w.2.2) f z 0 w2 hL hokk.out hz hqlen.out)
    have B2 := hide' b2
    clear hL b2 C1
    go_wp2_with fail
    refine C2.out.mono ?_
    rintro e w3 ⟨nbm, ms, rfl, hq1, hq2, hq3, b3⟩
    have B3 : Hid (Below w1.heap.size w1 w3) := B2.out.trans (b3.mono B2.out.size)
    have Q3 := hide' (And.intro hq1 (And.intro hq2 hq3))
    have SS := hide' (st66 ((B3.out.block rb Hbl.out.2.1).trans F2.out))
    obtain ⟨a0, c0⟩ := SS.out.c0
    have g0 := SS.out.f0
    obtain ⟨a1, c1⟩ := SS.out.c1 (.string z)
    have g1 := SS.out.f1 (.string z)
    obtain ⟨a2, c2⟩ := SS.out.c2 (.string z) (.float .f64 0)
    have g2 := SS.out.f2 (.string z) (.float .f64 0)
    have tH := SS.out.fin (.string z) (.float .f64 0) (.map (some nbm))
    have hfin : Hid (ObjIs P z w (.returned (.agg #[.string z, .float .f64 0, .map (some nbm)])) (((w3.setCell ⟨rb, 0, none⟩ (.string z)).setCell ⟨rb, 1, none⟩ (.float .f64 0)).setCell ⟨rb, 2, none⟩ (.map (some nbm)))) := by
      have hb := HbV.out.trans (B3.out.mono HbV.out.size)
      have hsz := B2.out.size
      have hnr : nbm ≠ rb := fun e => by have := Q3.out.1; have := Hbl.out.2.1; omega
      exact .inl ⟨Hin.out, nbm, ms, rfl, Nat.le_trans HbV.out.size (Nat.le_trans hsz Q3.out.1), Q3.out.2.1.turn (SS.out.tt _ _ _) hnr, Q3.out.2.2, hb.trans (below_own (SS.out.tt _ _ _) (fun q e => by rw [e]; exact hrw) hb.size)⟩
    clear hq1 hq2 hq3 b3 SS Q3 C2
    go_wp2_with fail
    (try simp only [Exit.inBlock, Exit.then])
    refine bodyPost_ret (results_cell_row rfl _ _ rb 97 #[.string z, .float .f64 0, .map (some nbm)] (0, 0) _ rfl tH Try.underlying97 rfl (by kernel_rfl)) rfl ?_
    exact hfin.out
end U
end Go.Proofs.Ytollaamlnddhcaa
