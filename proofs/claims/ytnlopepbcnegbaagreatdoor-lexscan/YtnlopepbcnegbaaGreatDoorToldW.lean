import Derived.Test.YtnlopepbcnegbaaGreatDoorAsHit
import Derived.Test.YtnlopepbcnegbaaGreatDoorQuoP
set_option linter.unusedVariables false
set_option linter.unusedSimpArgs false
namespace Go.Proofs.YtnlopepbcnegbaaGreatDoor
open Go.RowKit
theorem loadF (w : World) (g : Nat) (a b c d : Value) (h : Tk g a b c d w) : (loadVar 25 ⟨g, 0, none⟩).run Tryz.prog w = .ok (.agg #[a, b, c, d]) w := by
  have hu := Tryz.underlying25
  have hl : (loadCells ⟨g, 0, none⟩ [a, b, c, d].length).run Tryz.prog w = .ok [a, b, c, d].toArray w :=
    run_loadCells_list (P := Tryz.prog) w ⟨g, 0, none⟩ [a, b, c, d] (fun j v hv => by
      have hadd : (⟨g, 0, none⟩ : Addr).add j = ⟨g, j, none⟩ := by unfold Addr.add; split <;> simp_all
      rw [hadd]
      match j, hv with
      | 0, hv => simp at hv; subst hv; exact h.c0
      | 1, hv => simp at hv; subst hv; exact h.c1
      | 2, hv => simp at hv; subst hv; exact h.c2
      | 3, hv => simp at hv; subst hv; exact h.c3
      | _ + 4, hv => simp at hv)
  have hi : (Tryz.prog.info? 25).map (·.size) = some 4 := by kernel_rfl
  cases hq : Tryz.prog.info? 25 with
  | none => simp [hq] at hi
  | some i =>
    have hs : i.size = 4 := by simpa [hq] using hi
    have hagg : (isAgg 25).run Tryz.prog w = .ok true w := by
      unfold isAgg
      rw [Sem.run_bind, run_underlying hu w]
      rfl
    simp only [List.length_cons, List.length_nil] at hl
    simp [loadVar, Sem.run_bind, hagg, sizeOf, typeInfo, hq, hs, hl]
theorem resultsF {fn : Func} {p u : Tmp} (h : fn.results = #[.cell p 25, .tmp u]) (tmps : Array Value) (w : World) (g : Nat) (a b c d : Value) (hp : tmps.getD p undef = .pointer (some ⟨g, 0, none⟩)) (t : Tk g a b c d w) :
    (results fn tmps).run Tryz.prog w = .ok (.tuple #[.agg #[a, b, c, d], tmps.getD u undef]) w := by
  rw [results_cell_tmp h tmps, hp]
  simp [asAddr, Result.andThen, loadF w g a b c d t]
def zfault : Value := .agg #[.int .i64 0, .int .i64 0, .int .i64 0, .string ⟨#[]⟩]
theorem as_turn (e t : Addr) (old : Value) (w : World) (hg : w.cell? ⟨0, 0, none⟩ = some (ty 29)) (ht : w.cell? t = some old) (hf : w.frozen? t = false) :
    Calls Tryz.prog 21 #[.iface 58 (.pointer (some e)), .iface 60 (.pointer (some t))] w fun ev w' => ev = .returned (.bool true) ∧ w'.cell? t = some (.pointer (some e)) ∧ Turn (fun k => k = t.block) w w' := by
  have htl := lt_of_cell ht
  have hz : 0 < w.heap.size := by omega
  refine (as_hit e t old w hg ht hf hz htl).mono ?_
  rintro ev w' ⟨rfl, rfl⟩
  refine ⟨rfl, by first | exact World.cell?_setCell_same _ _ _ ((asW_old e t t w htl).1.trans ht) | exact World.cell?_setCell_same _ _ ((asW_old e t t w htl).1.trans ht), ?_⟩
  unfold asW asW3 asW2
  exact (((((Turn.refl (fun k => k = t.block) w).alloc _).alloc _).alloc _).alloc _).setCell (p := t) (fun _ => rfl) _
theorem told_after {w w1 : World} {o1 o2 : Obj} (t : Turn (fun k => k = w.heap.size + 1) ((w.alloc o1).alloc o2) w1) :
    w1.heap[w.heap.size]? = some o1 ∧ w.heap.size + 2 ≤ w1.heap.size ∧ Turn (fun _ => False) w w1 := by
  refine ⟨?_, ?_, (((Turn.refl (fun _ => False) w).alloc _).alloc _).then t (fun i hi h => absurd (show i = w.heap.size + 1 from h) (by omega))⟩
  · rw [t.block w.heap.size (by simp; omega) (fun h => absurd (show w.heap.size = w.heap.size + 1 from h) (by omega))]
    exact (Below.heap_alloc _ _ _ (by simp)).trans (heap_alloc_new _ _)
  · have := t.size; simpa using this
theorem told_nil (w : World) : Calls Tryz.prog 10 #[.nilIface] w fun e w' => e = .returned (.tuple #[zfault, .bool true]) ∧ Below w.heap.size w w' := by
  have K : Tk w.heap.size (.int .i64 0) (.int .i64 0) (.int .i64 0) (.string ⟨#[]⟩) (w.alloc (.cells #[.int .i64 0, .int .i64 0, .int .i64 0, .string ⟨#[]⟩] 25)) := Tk.of_cells (heap_alloc_new _ _)
  go_enter Tryz.func10, Tryz.ntmps10
  go_wp2
  refine bodyPost_ret_by (resultsF rfl _ _ w.heap.size _ _ _ _ rfl K) rfl ?_
  exact ⟨rfl, (Below.refl _ _).alloc (Nat.le_refl _) _⟩
set_option maxHeartbeats 4000000 in
theorem told_flt (fb : Nat) (k l c : Int) (word : ByteArray) (w : World) (hF : Flt fb k l c word w) (hg : w.cell? ⟨0, 0, none⟩ = some (ty 29)) :
    Calls Tryz.prog 10 #[.iface 58 (.pointer (some ⟨fb, 0, none⟩))] w fun e w' => e = .returned (.tuple #[.agg #[.int .i64 k, .int .i64 l, .int .i64 c, .string word], .bool true]) ∧ Below w.heap.size w w' := by
  have hfl : fb < w.heap.size := lt_of_cell (Tk.of_cells hF).c0
  have AH := hide' fun e t old w a b c => as_turn e t old w a b c
  have HG := hide' hg
  have HF := hide' hF
  clear hg hF
  go_enter Tryz.func10, Tryz.ntmps10
  go_wp2_with (go_at_call 21; go_loud (refine (AH.out _ _ (.pointer none) _ ((World.cell?_alloc_lt _ _ _ (Nat.lt_of_lt_of_le (lt_of_cell HG.out) (by simp))).trans ((World.cell?_alloc_lt _ _ _ (lt_of_cell HG.out)).trans HG.out)) (by simp) (by simp)).mono ?_; rintro e w1 ⟨rfl, ct, t1⟩; obtain ⟨h0, hz, tw⟩ := told_after t1; have k1 := (Tk.of_cells HF.out).turn tw (fun q => q); have kc0 := k1.c0; have kc1 := k1.c1; have kc2 := k1.c2; have kc3 := k1.c3; have K := hide' (And.intro (Tk.of_cells h0) tw); obtain ⟨z0, z1, z2, z3⟩ := K.out.1.frz; have g0 := K.out.1.c0; have g1 := K.out.1.c1; have g2 := K.out.1.c2; have g3 := K.out.1.c3; clear h0 k1 tw t1))
  refine bodyPost_ret_by (resultsF rfl _ _ w.heap.size _ _ _ _ rfl (K.out.1.set _ _ _ _)) rfl ?_
  exact ⟨rfl, (K.out.2.set4 (Nat.le_refl _) _ _ _ _).below (fun _ h => h.elim) (Nat.le_refl _)⟩
end Go.Proofs.YtnlopepbcnegbaaGreatDoor
