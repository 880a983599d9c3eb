import Derived.Test.YtnlopepbcnegbaaGreatDoorTold2
set_option linter.unusedVariables false
set_option linter.unusedSimpArgs false
namespace Go.Proofs.YtnlopepbcnegbaaGreatDoor
open Go.RowKit Go.Extern.Stop Go.Stop Go.Extern
theorem rf_m (h : Value) (w : World) : (Go.method 306 107 (.agg #[h]) "Kind").run Tryz.prog w = .ok (133, h) w ∧ (Go.method 306 107 (.agg #[h]) "Elem").run Tryz.prog w = .ok (145, .agg #[h]) w
    ∧ (Go.method 306 107 (.agg #[h]) "Implements").run Tryz.prog w = .ok (146, .agg #[h]) w ∧ (Go.method 306 107 (.agg #[h]) "AssignableTo").run Tryz.prog w = .ok (143, .agg #[h]) w :=
  ⟨by kernel_rfl, by kernel_rfl, by kernel_rfl, by kernel_rfl⟩
theorem rf_fuel : Tryz.prog.types.size + Made.depth = 306 := by kernel_rfl
/-- The world behind the four copies that errors.As makes: the target, its value twice, the fault's pointer. -/
def asW2 (t : Addr) (w : World) : World := (w.alloc (.cells #[.pointer (some t)] 60)).alloc (.cells #[hd 60, .pointer (some ⟨w.heap.size, 0, none⟩), .int .u64 150] 83)
def asW3 (t : Addr) (w : World) : World := (asW2 t w).alloc (.cells #[hd 60, .pointer (some ⟨w.heap.size, 0, none⟩), .int .u64 150] 83)
def asW (e t : Addr) (w : World) : World := (asW3 t w).alloc (.cells #[.pointer (some e)] 58)
theorem asW2_size (t : Addr) (w : World) : (asW2 t w).heap.size = w.heap.size + 2 := by simp [asW2]
theorem asW3_size (t : Addr) (w : World) : (asW3 t w).heap.size = w.heap.size + 3 := by simp [asW3, asW2_size]
theorem asW2_old (t a : Addr) (w : World) (h : a.block < w.heap.size) : (asW2 t w).cell? a = w.cell? a ∧ (asW2 t w).frozen? a = w.frozen? a := by
  unfold asW2
  exact ⟨by rw [World.cell?_alloc_lt _ _ a (by simp; omega), World.cell?_alloc_lt _ _ a h], by rw [World.frozen?_alloc_old _ _ a (by simp; omega), World.frozen?_alloc_old _ _ a (Nat.ne_of_lt h)]⟩
theorem asW3_old (t a : Addr) (w : World) (h : a.block < w.heap.size + 2) : (asW3 t w).cell? a = (asW2 t w).cell? a ∧ (asW3 t w).frozen? a = (asW2 t w).frozen? a := by
  unfold asW3
  exact ⟨World.cell?_alloc_lt _ _ a (by rw [asW2_size]; exact h), World.frozen?_alloc_old _ _ a (by rw [asW2_size]; omega)⟩
theorem asW_old (e t a : Addr) (w : World) (h : a.block < w.heap.size) : (asW e t w).cell? a = w.cell? a ∧ (asW e t w).frozen? a = w.frozen? a := by
  unfold asW
  have h3 := asW3_old t a w (by omega)
  have h2 := asW2_old t a w h
  exact ⟨by rw [World.cell?_alloc_lt _ _ a (by rw [asW3_size]; omega), h3.1, h2.1], by rw [World.frozen?_alloc_old _ _ a (by rw [asW3_size]; omega), h3.2, h2.2]⟩
theorem asW2_at (t : Addr) (w : World) : (asW2 t w).cell? ⟨w.heap.size, 0, none⟩ = some (.pointer (some t)) := by simp [asW2]
theorem asW3_at (t : Addr) (w : World) : (asW3 t w).cell? ⟨w.heap.size, 0, none⟩ = some (.pointer (some t)) := by
  rw [(asW3_old t ⟨w.heap.size, 0, none⟩ w (by simp)).1, asW2_at]
theorem asW_at (e t : Addr) (w : World) : (asW e t w).cell? ⟨w.heap.size + 3, 0, none⟩ = some (.pointer (some e)) := by
  unfold asW
  rw [World.cell?_alloc_at _ _ _ _ (by simp [asW3_size])]; rfl
set_option maxHeartbeats 4000000 in
theorem as_hit (e t : Addr) (old : Value) (w : World) (hg : w.cell? ⟨0, 0, none⟩ = some (ty 29)) (ht : w.cell? t = some old) (hf : w.frozen? t = false) (hz : 0 < w.heap.size) (htl : t.block < w.heap.size) :
    Calls Tryz.prog 21 #[.iface 58 (.pointer (some e)), .iface 60 (.pointer (some t))] w fun ev w' => ev = .returned (.bool true) ∧ w' = (asW e t w).setCell t (.pointer (some e)) := by
  have n33 := @run_callFunc_extern Tryz.prog 33 _ (fun args => ReflectliteValue.unpack (args.getD 0 (.tuple #[]))) Tryz.func33 (by kernel_rfl) (by kernel_rfl) (by kernel_rfl) (by kernel_rfl)
  have n34 := @run_callFunc_extern Tryz.prog 34 _ (ReflectliteValue.methodAny (ReflectliteValue.valueError "reflectlite.Value.Type" 0) (fun t _ _ _ => ReflectliteType.toType t)) Tryz.func34 (by kernel_rfl) (by kernel_rfl) (by kernel_rfl) (by kernel_rfl)
  have n35 := @run_callFunc_extern Tryz.prog 35 _ (ReflectliteValue.method (ReflectliteValue.valueError "reflectlite.Value.IsNil" 0) ReflectliteValue.isNil) Tryz.func35 (by kernel_rfl) (by kernel_rfl) (by kernel_rfl) (by kernel_rfl)
  have n59 := @run_callFunc_extern Tryz.prog 59 _ ReflectliteType.typeOf Tryz.func59 (by kernel_rfl) (by kernel_rfl) (by kernel_rfl) (by kernel_rfl)
  have n60 := @run_callFunc_extern Tryz.prog 60 _ (ReflectliteValue.method (ReflectliteValue.valueError "reflectlite.Value.Elem" 0) ReflectliteValue.elem) Tryz.func60 (by kernel_rfl) (by kernel_rfl) (by kernel_rfl) (by kernel_rfl)
  have n61 := @run_callFunc_extern Tryz.prog 61 _ ReflectliteValue.set Tryz.func61 (by kernel_rfl) (by kernel_rfl) (by kernel_rfl) (by kernel_rfl)
  have n133 := @run_callFunc_extern Tryz.prog 133 _ (ReflectliteType.abiMethod fun t => do pure (.int .u8 (← Rtype.kind t))) Tryz.func133 (by kernel_rfl) (by kernel_rfl) (by kernel_rfl) (by kernel_rfl)
  have n143 := @run_callFunc_extern Tryz.prog 143 _ (ReflectliteType.relation "AssignableTo" ReflectliteType.assignableTo) Tryz.func143 (by kernel_rfl) (by kernel_rfl) (by kernel_rfl) (by kernel_rfl)
  have n145 := @run_callFunc_extern Tryz.prog 145 _ (ReflectliteType.method ReflectliteType.elem) Tryz.func145 (by kernel_rfl) (by kernel_rfl) (by kernel_rfl) (by kernel_rfl)
  have n146 := @run_callFunc_extern Tryz.prog 146 _ (ReflectliteType.relation "Implements" ReflectliteType.implements_) Tryz.func146 (by kernel_rfl) (by kernel_rfl) (by kernel_rfl) (by kernel_rfl)
  have mK := fun h w => (rf_m h w).1
  have mE := fun h w => (rf_m h w).2.1
  have mI := fun h w => (rf_m h w).2.2.1
  have mA := fun h w => (rf_m h w).2.2.2
  have v60 := rf_valueOf 60 (Or.inl rfl)
  have v58 := rf_valueOf 58 (Or.inr rfl)
  have k60 := rf_kind 60 (Or.inl rfl)
  have k58 := rf_kind 58 (Or.inr rfl)
  have f1 := rf_type
  have f2 := rf_elem
  have f3 := rf_impl
  have f4 := rf_typeOf
  have f5 := rf_assign
  have g2 : (asW2 t w).cell? ⟨0, 0, none⟩ = some (ty 29) := by rw [(asW2_old t ⟨0, 0, none⟩ w hz).1]; exact hg
  have iN := rf_isNil ⟨w.heap.size, 0, none⟩ t _ (asW2_at t w)
  have eV := rf_elemV ⟨w.heap.size, 0, none⟩ t _ (asW3_at t w)
  have sT := rf_set t ⟨w.heap.size + 3, 0, none⟩ e old (asW e t w) (asW_at e t w) (by rw [(asW_old e t t w htl).1]; exact ht) (by rw [(asW_old e t t w htl).2]; exact hf)
  simp only [ty, rv, hd, asW, asW3, asW2] at *
  go_enter Tryz.func21, Tryz.ntmps21
  go_wp2
  refine wp_loop_rounds 1 ?_
  rw [rounds_succ]
  go_wp2
  go_ret
  exact ⟨rfl, rfl⟩
end Go.Proofs.YtnlopepbcnegbaaGreatDoor
