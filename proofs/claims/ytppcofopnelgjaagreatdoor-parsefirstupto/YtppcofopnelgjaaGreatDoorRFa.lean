import Derived.Test.YtppcofopnelgjaaGreatDoorRPs
import Derived.Test.YtppcofopnelgjaaGreatDoorGrB
import Derived.Recover
import Derived.Defers
set_option linter.unusedVariables false
set_option linter.unusedSimpArgs false
namespace Go.Proofs.YtppcofopnelgjaaGreatDoor
open Go.RowKit
set_option maxRecDepth 100000 in
set_option maxHeartbeats 4000000 in
theorem fault_any (t : R.Tok) (code : Int) (w : World) (ht : t.2.1.size ≤ 281474976710656) :
    Calls Tryz.prog 36 #[.agg #[.int .i8 t.1, .string t.2.1, .int .i64 t.2.2.1, .int .i64 t.2.2.2, .int .i64 code]] w fun e w' => ∃ fb, e = .returned (.pointer (some ⟨fb, 0, none⟩)) ∧ w.heap.size ≤ fb ∧ Flt fb code t.2.2.1 t.2.2.2 t.2.1 w' ∧ Below w.heap.size w w' := by
  have HW := hide' fun w => wordOf_any t w ht
  obtain ⟨tk, tt, tl, tc⟩ := t
  unfold tv wv R.wdOf at HW
  simp only at HW ⊢
  clear ht
  go_enter Tryz.func36, Tryz.ntmps36
  go_wp2_with (go_at_call 57; refine (HW.out _).mono ?_; rintro e w1 ⟨rfl, b1⟩; have g0 := new_kept b1; have z1 : w.heap.size < w1.heap.size := (by have := b1.size; simp at this; omega); have n1 : ¬ w.heap.size = w1.heap.size := (by omega); have c4 : w1.cell? ⟨w.heap.size, 4, none⟩ = some (.int .i64 code) := (by rw [Lib.cell_of_heap g0]; rfl); have B1 := hide' (old_kept b1); clear b1 g0)
  go_ret
  refine ⟨_, rfl, by omega, ?_, (B1.out.alloc B1.out.size _).alloc (by have := B1.out.size; simp; omega) _⟩
  unfold Flt
  have := heap_alloc_new (w1.alloc (.cells #[.string tt, .int .i64 tl, .int .i64 tc] 55)) (.cells #[.int .i64 code, .int .i64 tl, .int .i64 tc, .string tt] 26)
  simpa using this
set_option maxRecDepth 100000 in
set_option maxHeartbeats 4000000 in
theorem catch_idle (p : Addr) (w : World) :
    CallsD Tryz.prog 35 #[.pointer (some p)] .returning w fun e u' w' => e = .returned (.tuple #[]) ∧ u' = .returning ∧ w' = w := by
  refine callsD_of_wpS Tryz.func35 rfl fun c₀ cs hu => ?_
  apply wpS_seq
  apply wpS_region
  simp [wpOpsS, go_sem, recoverD, hu, Tryz.ntmps35, Exit.thenS]
  refine wpS_of_wp ?_
  rw [show (#[Value.pointer (some p)] ++ ((Array.replicate 17 undef).setIfInBounds 3 .nilIface).setIfInBounds 0 .nilIface : Array Value) = #[.pointer (some p), .nilIface, undef, undef, .nilIface, undef, undef, undef, undef, undef, undef, undef, undef, undef, undef, undef, undef, undef] from rfl]
  go_wp2
  cases c₀
  simp_all [bodyPostS, results, Tryz.results35]
theorem ta82 (v : Value) (w : World) : (Instr.typeAssert (.iface 82 v) 20 82 true).run Tryz.prog w = .ok (.tuple #[v, .bool true]) w := by kernel_rfl
set_option maxRecDepth 100000 in
set_option maxHeartbeats 4000000 in
theorem catch_panicking (p : Addr) (t : R.Tok) (code : Int) (ht : t.2.1.size ≤ 281474976710656) (older : List PanicEntry) (w : World) (x : Value) (hc : w.cell? p = some x) (hz : w.frozen? p = false) :
    CallsD Tryz.prog 35 #[.pointer (some p)] (.panicking ({ v := mf t code, recovered := false } :: older)) w fun e u' w' =>
      e = .returned (.tuple #[]) ∧ u' = .panicking ({ v := mf t code, recovered := true } :: older) ∧ ∃ fb, w.heap.size ≤ fb ∧ Flt fb code t.2.2.1 t.2.2.2 t.2.1 w' ∧ w'.cell? p = some (.iface 72 (.pointer (some ⟨fb, 0, none⟩))) ∧ Turn (fun k => k = p.block) w w' := by
  have HF := hide' fun w => fault_any t code w ht
  unfold mf
  obtain ⟨tk, tt, tl, tc⟩ := t
  simp only at HF ⊢
  clear ht
  have hl := lt_of_cell hc
  have hta := ta82
  refine callsD_of_wpS Tryz.func35 rfl fun c₀ cs hu => ?_
  apply wpS_seq
  apply wpS_region
  simp [wpOpsS, go_sem, recoverD, hu, Tryz.ntmps35, Exit.thenS]
  refine wpS_of_wp ?_
  rw [show (#[Value.pointer (some p)] ++ ((Array.replicate 17 undef).setIfInBounds 3 (.iface 82 (.agg #[.int .i8 tk, .string tt, .int .i64 tl, .int .i64 tc, .int .i64 code]))).setIfInBounds 0 (.iface 82 (.agg #[.int .i8 tk, .string tt, .int .i64 tl, .int .i64 tc, .int .i64 code])) : Array Value) = #[.pointer (some p), .iface 82 (.agg #[.int .i8 tk, .string tt, .int .i64 tl, .int .i64 tc, .int .i64 code]), undef, undef, .iface 82 (.agg #[.int .i8 tk, .string tt, .int .i64 tl, .int .i64 tc, .int .i64 code]), undef, undef, undef, undef, undef, undef, undef, undef, undef, undef, undef, undef, undef] from rfl]
  go_wp2_with (go_at_call 36; refine (HF.out _).mono ?_; rintro e w1 ⟨fb, rfl, hfb, hflt, b1⟩; have bb := old_kept b1; have c1 := (bb.cell (p := p) hl).trans hc; have f1 := (bb.frozen (p := p) hl).trans hz; have K := hide' (And.intro hflt (And.intro hfb bb)); clear b1 bb hflt hfb)
  obtain ⟨hflt, hfb, bb⟩ := K.out
  simp at hfb
  have t2 : Turn (fun k => k = p.block) w (w1.setCell p (.iface 72 (.pointer (some ⟨fb, 0, none⟩)))) := (turn_below (S := fun k => k = p.block) bb).setCell (p := p) (fun _ => rfl) _
  have fin : ∃ fb', w.heap.size ≤ fb' ∧ Flt fb' code tl tc tt (w1.setCell p (.iface 72 (.pointer (some ⟨fb, 0, none⟩)))) ∧ (w1.setCell p (.iface 72 (.pointer (some ⟨fb, 0, none⟩)))).cell? p = some (.iface 72 (.pointer (some ⟨fb', 0, none⟩))) ∧ Turn (fun k => k = p.block) w (w1.setCell p (.iface 72 (.pointer (some ⟨fb, 0, none⟩)))) :=
    ⟨fb, by omega, (Below.heap_setCell _ _ _ _ (by omega)).trans hflt, World.cell?_setCell_same' _ _ _ (by rw [c1]; rfl), t2⟩
  clear t2
  generalize w1.setCell p (.iface 72 (.pointer (some ⟨fb, 0, none⟩))) = W at *
  simp only [bodyPostS, results, Tryz.results35]
  simp
  exact fin
end Go.Proofs.YtppcofopnelgjaaGreatDoor
