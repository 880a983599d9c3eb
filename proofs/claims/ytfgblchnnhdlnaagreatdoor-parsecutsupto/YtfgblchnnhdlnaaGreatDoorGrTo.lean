import Derived.Test.YtfgblchnnhdlnaaGreatDoorGrSa
import Derived.LaidEql
import Derived.Stop.Asserts
import Derived.RowKitTokens
import Derived.Test.YtfgblchnnhdlnaaGreatDoorGrY
import Derived.Test.YtfgblchnnhdlnaaGreatDoorGrT
import Derived.Test.YtfgblchnnhdlnaaGreatDoorGrK
set_option linter.unusedVariables false
set_option linter.unusedSimpArgs false
namespace Go.Proofs.YtfgblchnnhdlnaaGreatDoor
open Go.RowKit Go.Extern.Stop Go.Stop Go.Extern
/-! errors.As with a fault, and with a variable of the fault's pointer for its target: what each entry of internal/reflectlite tells at these types (72: the pointer to a fault, 74: the pointer to such a pointer, 33: error, 142: reflectlite's type, 102: its value; a type's handle lies behind the six variables) -/
def hd (t : Nat) : Value := .pointer (some ⟨14, t, none⟩)
def ty (t : Nat) : Value := .iface 142 (.agg #[hd t])
def rv (t : Nat) (a : Addr) (fl : Int) : Value := .agg #[hd t, .pointer (some a), .int .u64 fl]
theorem rf_valueOf (t : Nat) (ht : t = 74 ∨ t = 72) (a : Addr) (w : World) : (ReflectliteValue.unpack (.iface t (.pointer (some a)))).run Tryz.prog w = .ok (rv t ⟨w.heap.size, 0, none⟩ 150) (w.alloc (.cells #[.pointer (some a)] t)) := by
  rcases ht with rfl | rfl <;> kernel_rfl
theorem rf_type (a : Addr) (w : World) : (ReflectliteValue.methodAny (ReflectliteValue.valueError "reflectlite.Value.Type" 0) (fun t _ _ _ => ReflectliteType.toType t) #[rv 74 a 150]).run Tryz.prog w = .ok (ty 74) w := by kernel_rfl
theorem rf_kind (t : Nat) (ht : t = 74 ∨ t = 72) (w : World) : ((ReflectliteType.abiMethod fun t => (fun a : Nat => Value.int IntKind.u8 (a : Int)) <$> Rtype.kind t) #[hd t]).run Tryz.prog w = .ok (.int .u8 22) w := by
  rcases ht with rfl | rfl <;> kernel_rfl
theorem rf_elem (w : World) : (ReflectliteType.method ReflectliteType.elem #[.agg #[hd 74]]).run Tryz.prog w = .ok (ty 72) w := by kernel_rfl
theorem rf_impl (w : World) : (ReflectliteType.relation "Implements" ReflectliteType.implements_ #[.agg #[hd 72], ty 33]).run Tryz.prog w = .ok (.bool true) w := by kernel_rfl
theorem rf_typeOf (v : Value) (w : World) : (ReflectliteType.typeOf #[.iface 72 v]).run Tryz.prog w = .ok (ty 72) w := by kernel_rfl
theorem rf_assign (w : World) : (ReflectliteType.relation "AssignableTo" ReflectliteType.assignableTo #[.agg #[hd 72], ty 72]).run Tryz.prog w = .ok (.bool true) w := by kernel_rfl
theorem rf_parts (t : Nat) (ht : t = 74 ∨ t = 72) (a : Addr) (w : World) : (ReflectliteValue.parts (rv t a 150)).run Tryz.prog w = .ok (some (t, a, 150)) w := by
  rcases ht with rfl | rfl <;> kernel_rfl
theorem rf_partsA (a : Addr) (w : World) : (ReflectliteValue.parts (rv 72 a 406)).run Tryz.prog w = .ok (some (72, a, 406)) w := by kernel_rfl
theorem rf_isNil (a p : Addr) (W : World) (ha : W.cell? a = some (.pointer (some p))) :
    (ReflectliteValue.method (ReflectliteValue.valueError "reflectlite.Value.IsNil" 0) ReflectliteValue.isNil #[rv 74 a 150]).run Tryz.prog W = .ok (.bool false) W := by
  show (do match ← ReflectliteValue.parts (rv 74 a 150) with | none => _ | some (t, a, fl) => ReflectliteValue.isNil t a fl (fl % 32)).run Tryz.prog W = _
  simp only [Sem.run_bind, rf_parts 74 (Or.inl rfl), Result.andThen]
  simp [ReflectliteValue.isNil, loadVar, isAgg, underlying, Tryz.underlying74, ha, Result.andThen]
theorem rf_elemOf (w : World) : (Rtype.elem? 74).run Tryz.prog w = .ok (some 72) w := by kernel_rfl
theorem rf_mk (p : Addr) (w : World) : (ReflectliteValue.mk 72 p ReflectliteValue.flagAddr).run Tryz.prog w = .ok (rv 72 p 406) w := by kernel_rfl
theorem rf_elemV (a p : Addr) (W : World) (ha : W.cell? a = some (.pointer (some p))) :
    (ReflectliteValue.method (ReflectliteValue.valueError "reflectlite.Value.Elem" 0) ReflectliteValue.elem #[rv 74 a 150]).run Tryz.prog W = .ok (rv 72 p 406) W := by
  show (do match ← ReflectliteValue.parts (rv 74 a 150) with | none => _ | some (t, a, fl) => ReflectliteValue.elem t a fl (fl % 32)).run Tryz.prog W = _
  simp only [Sem.run_bind, rf_parts 74 (Or.inl rfl), Result.andThen]
  simp [ReflectliteValue.elem, loadVar, isAgg, underlying, Tryz.underlying74, ha, Result.andThen, rf_elemOf, rf_mk]
theorem rf_direct (w : World) : (Rtype.directlyAssignable 72 72).run Tryz.prog w = .ok true w := by kernel_rfl
theorem rf_size (w : World) : (sizeOf 72).run Tryz.prog w = .ok 1 w := by kernel_rfl
end Go.Proofs.YtfgblchnnhdlnaaGreatDoor
set_option linter.unusedVariables false
set_option linter.unusedSimpArgs false
namespace Go.Proofs.YtfgblchnnhdlnaaGreatDoor
open Go.RowKit Go.Extern.Stop Go.Stop Go.Extern
theorem rf_set (ta b e : Addr) (old : Value) (W : World) (hb : W.cell? b = some (.pointer (some e))) (ht : W.cell? ta = some old) (hf : W.frozen? ta = false) :
    (ReflectliteValue.set #[rv 72 ta 406, rv 72 b 150]).run Tryz.prog W = .ok (.tuple #[]) (W.setCell ta (.pointer (some e))) := by
  show (ReflectliteValue.parts (rv 72 ta 406) >>= _).run Tryz.prog W = _
  rw [Sem.run_bind, rf_partsA]
  dsimp only [Result.andThen]
  show (ReflectliteValue.parts (rv 72 b 150) >>= _).run Tryz.prog W = _
  rw [Sem.run_bind, rf_parts 72 (Or.inr rfl)]
  dsimp only [Result.andThen]
  show (loadVar 72 b >>= _).run Tryz.prog W = _
  have h0 : (loadVar 72 b).run Tryz.prog W = .ok (.pointer (some e)) W := by simp [loadVar, isAgg, underlying, Tryz.underlying72, hb, Result.andThen]
  rw [Sem.run_bind, h0]
  dsimp only [Result.andThen]
  show (Rtype.directlyAssignable 72 72 >>= _).run Tryz.prog W = _
  rw [Sem.run_bind, rf_direct]
  dsimp only [Result.andThen]
  show (storeVar 72 ta (.pointer (some e)) >>= _).run Tryz.prog W = _
  simp [isAgg, underlying, Tryz.underlying72, Result.andThen, storeVar, Value.cells, storeCells, Addr.add]
  rw [run_store Tryz.prog W ta _ _ (by rfl)]
  simp [ht, hf]
end Go.Proofs.YtfgblchnnhdlnaaGreatDoor
set_option linter.unusedVariables false
set_option linter.unusedSimpArgs false
namespace Go.Proofs.YtfgblchnnhdlnaaGreatDoor
open Go.RowKit Go.Extern.Stop Go.Stop Go.Extern
theorem rf_m (h : Value) (w : World) : (Go.method 438 142 (.agg #[h]) "Kind").run Tryz.prog w = .ok (228, h) w ∧ (Go.method 438 142 (.agg #[h]) "Elem").run Tryz.prog w = .ok (240, .agg #[h]) w
    ∧ (Go.method 438 142 (.agg #[h]) "Implements").run Tryz.prog w = .ok (241, .agg #[h]) w ∧ (Go.method 438 142 (.agg #[h]) "AssignableTo").run Tryz.prog w = .ok (238, .agg #[h]) w :=
  ⟨by kernel_rfl, by kernel_rfl, by kernel_rfl, by kernel_rfl⟩
theorem rf_fuel : Tryz.prog.types.size + Made.depth = 438 := by kernel_rfl
/-- The world behind the four copies that errors.As makes: the target, its value twice, the fault's pointer. -/
def asW2 (t : Addr) (w : World) : World := (w.alloc (.cells #[.pointer (some t)] 74)).alloc (.cells #[hd 74, .pointer (some ⟨w.heap.size, 0, none⟩), .int .u64 150] 102)
def asW3 (t : Addr) (w : World) : World := (asW2 t w).alloc (.cells #[hd 74, .pointer (some ⟨w.heap.size, 0, none⟩), .int .u64 150] 102)
def asW (e t : Addr) (w : World) : World := (asW3 t w).alloc (.cells #[.pointer (some e)] 72)
theorem asW2_size (t : Addr) (w : World) : (asW2 t w).heap.size = w.heap.size + 2 := by simp [asW2]
theorem asW3_size (t : Addr) (w : World) : (asW3 t w).heap.size = w.heap.size + 3 := by simp [asW3, asW2_size]
theorem asW2_old (t a : Addr) (w : World) (h : a.block < w.heap.size) : (asW2 t w).cell? a = w.cell? a ∧ (asW2 t w).frozen? a = w.frozen? a := by
  unfold asW2
  exact ⟨by rw [World.cell?_alloc_lt _ _ a (by simp; omega), World.cell?_alloc_lt _ _ a h], by rw [World.frozen?_alloc_old _ _ a (by simp; omega), World.frozen?_alloc_old _ _ a (Nat.ne_of_lt h)]⟩
theorem asW3_old (t a : Addr) (w : World) (h : a.block < w.heap.size + 2) : (asW3 t w).cell? a = (asW2 t w).cell? a ∧ (asW3 t w).frozen? a = (asW2 t w).frozen? a := by
  unfold asW3
  exact ⟨World.cell?_alloc_lt _ _ a (by rw [asW2_size]; exact h), World.frozen?_alloc_old _ _ a (by rw [asW2_size]; omega)⟩
theorem asW_old (e t a : Addr) (w : World) (h : a.block < w.heap.size) : (asW e t w).cell? a = w.cell? a ∧ (asW e t w).frozen? a = w.frozen? a := by
  unfold asW
  have h3 := asW3_old t a w (by omega)
  have h2 := asW2_old t a w h
  exact ⟨by rw [World.cell?_alloc_lt _ _ a (by rw [asW3_size]; omega), h3.1, h2.1], by rw [World.frozen?_alloc_old _ _ a (by rw [asW3_size]; omega), h3.2, h2.2]⟩
theorem asW2_at (t : Addr) (w : World) : (asW2 t w).cell? ⟨w.heap.size, 0, none⟩ = some (.pointer (some t)) := by simp [asW2]
theorem asW3_at (t : Addr) (w : World) : (asW3 t w).cell? ⟨w.heap.size, 0, none⟩ = some (.pointer (some t)) := by
  rw [(asW3_old t ⟨w.heap.size, 0, none⟩ w (by simp)).1, asW2_at]
theorem asW_at (e t : Addr) (w : World) : (asW e t w).cell? ⟨w.heap.size + 3, 0, none⟩ = some (.pointer (some e)) := by
  unfold asW
  rw [World.cell?_alloc_at _ _ _ _ (by simp [asW3_size])]; rfl
set_option maxHeartbeats 4000000 in
theorem as_hit (e t : Addr) (old : Value) (w : World) (hg : w.cell? ⟨0, 0, none⟩ = some (ty 33)) (ht : w.cell? t = some old) (hf : w.frozen? t = false) (hz : 0 < w.heap.size) (htl : t.block < w.heap.size) :
    Calls Tryz.prog 27 #[.iface 72 (.pointer (some e)), .iface 74 (.pointer (some t))] w fun ev w' => ev = .returned (.bool true) ∧ w' = (asW e t w).setCell t (.pointer (some e)) := by
  have n33 := @run_callFunc_extern Tryz.prog 46 _ (fun args => ReflectliteValue.unpack (args.getD 0 (.tuple #[]))) Tryz.func46 (by kernel_rfl) (by kernel_rfl) (by kernel_rfl) (by kernel_rfl)
  have n34 := @run_callFunc_extern Tryz.prog 47 _ (ReflectliteValue.methodAny (ReflectliteValue.valueError "reflectlite.Value.Type" 0) (fun t _ _ _ => ReflectliteType.toType t)) Tryz.func47 (by kernel_rfl) (by kernel_rfl) (by kernel_rfl) (by kernel_rfl)
  have n35 := @run_callFunc_extern Tryz.prog 48 _ (ReflectliteValue.method (ReflectliteValue.valueError "reflectlite.Value.IsNil" 0) ReflectliteValue.isNil) Tryz.func48 (by kernel_rfl) (by kernel_rfl) (by kernel_rfl) (by kernel_rfl)
  have n59 := @run_callFunc_extern Tryz.prog 70 _ ReflectliteType.typeOf Tryz.func70 (by kernel_rfl) (by kernel_rfl) (by kernel_rfl) (by kernel_rfl)
  have n60 := @run_callFunc_extern Tryz.prog 71 _ (ReflectliteValue.method (ReflectliteValue.valueError "reflectlite.Value.Elem" 0) ReflectliteValue.elem) Tryz.func71 (by kernel_rfl) (by kernel_rfl) (by kernel_rfl) (by kernel_rfl)
  have n61 := @run_callFunc_extern Tryz.prog 72 _ ReflectliteValue.set Tryz.func72 (by kernel_rfl) (by kernel_rfl) (by kernel_rfl) (by kernel_rfl)
  have n133 := @run_callFunc_extern Tryz.prog 228 _ (ReflectliteType.abiMethod fun t => do pure (.int .u8 (← Rtype.kind t))) Tryz.func228 (by kernel_rfl) (by kernel_rfl) (by kernel_rfl) (by kernel_rfl)
  have n143 := @run_callFunc_extern Tryz.prog 238 _ (ReflectliteType.relation "AssignableTo" ReflectliteType.assignableTo) Tryz.func238 (by kernel_rfl) (by kernel_rfl) (by kernel_rfl) (by kernel_rfl)
  have n145 := @run_callFunc_extern Tryz.prog 240 _ (ReflectliteType.method ReflectliteType.elem) Tryz.func240 (by kernel_rfl) (by kernel_rfl) (by kernel_rfl) (by kernel_rfl)
  have n146 := @run_callFunc_extern Tryz.prog 241 _ (ReflectliteType.relation "Implements" ReflectliteType.implements_) Tryz.func241 (by kernel_rfl) (by kernel_rfl) (by kernel_rfl) (by kernel_rfl)
  have mK := fun h w => (rf_m h w).1
  have mE := fun h w => (rf_m h w).2.1
  have mI := fun h w => (rf_m h w).2.2.1
  have mA := fun h w => (rf_m h w).2.2.2
  have v60 := rf_valueOf 74 (Or.inl rfl)
  have v58 := rf_valueOf 72 (Or.inr rfl)
  have k60 := rf_kind 74 (Or.inl rfl)
  have k58 := rf_kind 72 (Or.inr rfl)
  have f1 := rf_type
  have f2 := rf_elem
  have f3 := rf_impl
  have f4 := rf_typeOf
  have f5 := rf_assign
  have g2 : (asW2 t w).cell? ⟨0, 0, none⟩ = some (ty 33) := by rw [(asW2_old t ⟨0, 0, none⟩ w hz).1]; exact hg
  have iN := rf_isNil ⟨w.heap.size, 0, none⟩ t _ (asW2_at t w)
  have eV := rf_elemV ⟨w.heap.size, 0, none⟩ t _ (asW3_at t w)
  have sT := rf_set t ⟨w.heap.size + 3, 0, none⟩ e old (asW e t w) (asW_at e t w) (by rw [(asW_old e t t w htl).1]; exact ht) (by rw [(asW_old e t t w htl).2]; exact hf)
  simp only [ty, rv, hd, asW, asW3, asW2] at *
  go_enter Tryz.func27, Tryz.ntmps27
  go_wp2
  refine wp_loop_rounds 1 ?_
  rw [rounds_succ]
  go_wp2
  go_ret
  exact ⟨rfl, rfl⟩
end Go.Proofs.YtfgblchnnhdlnaaGreatDoor
set_option linter.unusedVariables false
set_option linter.unusedSimpArgs false
namespace Go.Proofs.YtfgblchnnhdlnaaGreatDoor
open Go.RowKit
theorem loadF (w : World) (g : Nat) (a b c d : Value) (h : Tk g a b c d w) : (loadVar 26 ⟨g, 0, none⟩).run Tryz.prog w = .ok (.agg #[a, b, c, d]) w := by
  have hu := Tryz.underlying26
  have hl : (loadCells ⟨g, 0, none⟩ [a, b, c, d].length).run Tryz.prog w = .ok [a, b, c, d].toArray w :=
    run_loadCells_list (P := Tryz.prog) w ⟨g, 0, none⟩ [a, b, c, d] (fun j v hv => by
      have hadd : (⟨g, 0, none⟩ : Addr).add j = ⟨g, j, none⟩ := by unfold Addr.add; split <;> simp_all
      rw [hadd]
      match j, hv with
      | 0, hv => simp at hv; subst hv; exact h.c0
      | 1, hv => simp at hv; subst hv; exact h.c1
      | 2, hv => simp at hv; subst hv; exact h.c2
      | 3, hv => simp at hv; subst hv; exact h.c3
      | _ + 4, hv => simp at hv)
  have hi : (Tryz.prog.info? 26).map (·.size) = some 4 := by kernel_rfl
  cases hq : Tryz.prog.info? 26 with
  | none => simp [hq] at hi
  | some i =>
    have hs : i.size = 4 := by simpa [hq] using hi
    have hagg : (isAgg 26).run Tryz.prog w = .ok true w := by
      unfold isAgg
      rw [Sem.run_bind, run_underlying hu w]
      rfl
    simp only [List.length_cons, List.length_nil] at hl
    simp [loadVar, Sem.run_bind, hagg, sizeOf, typeInfo, hq, hs, hl]
theorem resultsF {fn : Func} {p u : Tmp} (h : fn.results = #[.cell p 26, .tmp u]) (tmps : Array Value) (w : World) (g : Nat) (a b c d : Value) (hp : tmps.getD p undef = .pointer (some ⟨g, 0, none⟩)) (t : Tk g a b c d w) :
    (results fn tmps).run Tryz.prog w = .ok (.tuple #[.agg #[a, b, c, d], tmps.getD u undef]) w := by
  rw [results_cell_tmp h tmps, hp]
  simp [asAddr, Result.andThen, loadF w g a b c d t]
def zfault : Value := .agg #[.int .i64 0, .int .i64 0, .int .i64 0, .string ⟨#[]⟩]
theorem as_turn (e t : Addr) (old : Value) (w : World) (hg : w.cell? ⟨0, 0, none⟩ = some (ty 33)) (ht : w.cell? t = some old) (hf : w.frozen? t = false) :
    Calls Tryz.prog 27 #[.iface 72 (.pointer (some e)), .iface 74 (.pointer (some t))] w fun ev w' => ev = .returned (.bool true) ∧ w'.cell? t = some (.pointer (some e)) ∧ Turn (fun k => k = t.block) w w' := by
  have htl := lt_of_cell ht
  have hz : 0 < w.heap.size := by omega
  refine (as_hit e t old w hg ht hf hz htl).mono ?_
  rintro ev w' ⟨rfl, rfl⟩
  refine ⟨rfl, by first | exact World.cell?_setCell_same _ _ _ ((asW_old e t t w htl).1.trans ht) | exact World.cell?_setCell_same _ _ ((asW_old e t t w htl).1.trans ht), ?_⟩
  unfold asW asW3 asW2
  exact (((((Turn.refl (fun k => k = t.block) w).alloc _).alloc _).alloc _).alloc _).setCell (p := t) (fun _ => rfl) _
theorem told_after {w w1 : World} {o1 o2 : Obj} (t : Turn (fun k => k = w.heap.size + 1) ((w.alloc o1).alloc o2) w1) :
    w1.heap[w.heap.size]? = some o1 ∧ w.heap.size + 2 ≤ w1.heap.size ∧ Turn (fun _ => False) w w1 := by
  refine ⟨?_, ?_, (((Turn.refl (fun _ => False) w).alloc _).alloc _).then t (fun i hi h => absurd (show i = w.heap.size + 1 from h) (by omega))⟩
  · rw [t.block w.heap.size (by simp; omega) (fun h => absurd (show w.heap.size = w.heap.size + 1 from h) (by omega))]
    exact (Below.heap_alloc _ _ _ (by simp)).trans (heap_alloc_new _ _)
  · have := t.size; simpa using this
theorem told_nil (w : World) : Calls Tryz.prog 14 #[.nilIface] w fun e w' => e = .returned (.tuple #[zfault, .bool true]) ∧ Below w.heap.size w w' := by
  have K : Tk w.heap.size (.int .i64 0) (.int .i64 0) (.int .i64 0) (.string ⟨#[]⟩) (w.alloc (.cells #[.int .i64 0, .int .i64 0, .int .i64 0, .string ⟨#[]⟩] 26)) := Tk.of_cells (heap_alloc_new _ _)
  go_enter Tryz.func14, Tryz.ntmps14
  go_wp2
  refine bodyPost_ret_by (resultsF rfl _ _ w.heap.size _ _ _ _ rfl K) rfl ?_
  exact ⟨rfl, (Below.refl _ _).alloc (Nat.le_refl _) _⟩
set_option maxHeartbeats 4000000 in
theorem told_flt (fb : Nat) (k l c : Int) (hk : (k == 0) = false) (word : ByteArray) (w : World) (hF : Flt fb k l c word w) (hg : w.cell? ⟨0, 0, none⟩ = some (ty 33)) :
    Calls Tryz.prog 14 #[.iface 72 (.pointer (some ⟨fb, 0, none⟩))] w fun e w' => e = .returned (.tuple #[.agg #[.int .i64 k, .int .i64 l, .int .i64 c, .string word], .bool true]) ∧ Below w.heap.size w w' := by
  have hfl : fb < w.heap.size := lt_of_cell (Tk.of_cells hF).c0
  have AH := hide' fun e t old w a b c => as_turn e t old w a b c
  have HG := hide' hg
  have HF := hide' hF
  clear hg hF
  go_enter Tryz.func14, Tryz.ntmps14
  go_wp2_with (go_at_call 27; go_loud (refine (AH.out _ _ (.pointer none) _ ((World.cell?_alloc_lt _ _ _ (Nat.lt_of_lt_of_le (lt_of_cell HG.out) (by simp))).trans ((World.cell?_alloc_lt _ _ _ (lt_of_cell HG.out)).trans HG.out)) (by simp) (by simp)).mono ?_; rintro e w1 ⟨rfl, ct, t1⟩; obtain ⟨h0, hz, tw⟩ := told_after t1; have k1 := (Tk.of_cells HF.out).turn tw (fun q => q); have kc0 := k1.c0; have kc1 := k1.c1; have kc2 := k1.c2; have kc3 := k1.c3; have K := hide' (And.intro (Tk.of_cells h0) tw); obtain ⟨z0, z1, z2, z3⟩ := K.out.1.frz; have g0 := K.out.1.c0; have g1 := K.out.1.c1; have g2 := K.out.1.c2; have g3 := K.out.1.c3; clear h0 k1 tw t1))
  refine bodyPost_ret_by (resultsF rfl _ _ w.heap.size _ _ _ _ rfl (K.out.1.set _ _ _ _)) rfl ?_
  exact ⟨rfl, (K.out.2.set4 (Nat.le_refl _) _ _ _ _).below (fun _ h => h.elim) (Nat.le_refl _)⟩
end Go.Proofs.YtfgblchnnhdlnaaGreatDoor
set_option linter.unusedVariables false
set_option linter.unusedSimpArgs false
namespace Go.Proofs.YtfgblchnnhdlnaaGreatDoor
open Go.RowKit
namespace R
namespace Lay
theorem src_app : ∀ (a b : List Tok), (∀ x ∈ a, x.1 ≠ 5) → src (a ++ b) = ⟨a ++ (src b).l, (src b).e⟩ := by
  intro a
  induction a with
  | nil => intro b _; rfl
  | cons x a ih =>
    intro b h
    have hx : (x.1 == 5) = false := by simpa using h x (List.mem_cons_self ..)
    have := ih b (fun y hy => h y (List.mem_cons_of_mem _ hy))
    simp [src, hx, this]
theorem src_len : ∀ (a : List Tok), (src a).l.length ≤ a.length := by
  intro a
  induction a with
  | nil => simp [src]
  | cons x a ih =>
    unfold src
    split
    · simp
    · simp; exact ih
/-- laid tokens, cut off, with what is dead behind -/
theorem ag_of {TS : List Tok} {k : Nat} (hk : k ≤ TS.length) {L : List Tok} {e : Tok} (hd : Cut.Dead (Src.at ⟨TS.take k ++ L, e⟩ k)) : Cut.Ag ⟨TS, (5, ByteArray.empty, 0, 0)⟩ ⟨TS.take k ++ L, e⟩ k := by
  refine ⟨fun j hj => ?_, hd, rfl, ?_⟩
  · unfold Src.at
    simp only
    rw [List.getD_eq_getElem?_getD, List.getD_eq_getElem?_getD, List.getElem?_append_left (by rw [List.length_take]; omega), List.getElem?_take, if_pos hj, List.getElem?_eq_getElem (by omega)]
    rfl
  · simp only [List.length_append, List.length_take]; omega
theorem chain_laid (qs : List (List Tok × Dc)) (h : ∀ q ∈ qs, Reads q.1 q.2) : Cut.Chain ⟨qs.flatMap Prod.fst, (5, ByteArray.empty, 0, 0)⟩ 0 (ends 0 qs) := by
  refine chain_of qs 0 h (fun k t hk => ?_)
  rw [Nat.zero_add]; exact hk
/-- A TOKEN THAT NEVER STANDS ANYWHERE IS THE FAULT, WHATEVER STANDS BEHIND IT -/
theorem decls_dead (qs : List (List Tok × Dc)) (h : Lays qs) {k : Nat} (hk : k ≤ (qs.flatMap Prod.fst).length) (bad : Tok) (hb : bad.1 = 9) (more : List Tok) :
    decls ((qs.flatMap Prod.fst).take k ++ bad :: more) = .bad k 40 ∧ (src ((qs.flatMap Prod.fst).take k ++ bad :: more)).at k = bad := by
  have he := ends_end qs 0
  rw [Nat.zero_add] at he
  have hch := chain_laid qs h.reads
  have h5 := h.five
  obtain ⟨TS, hTS⟩ : ∃ TS, qs.flatMap Prod.fst = TS := ⟨_, rfl⟩
  rw [hTS] at hk he hch h5 ⊢
  have hs : src (TS.take k ++ bad :: more) = ⟨TS.take k ++ bad :: (src more).l, (src more).e⟩ := by
    have := src_app (TS.take k ++ [bad]) more (fun x hx => by
      rcases List.mem_append.1 hx with q | q
      · exact h5 x (List.mem_of_mem_take q)
      · simp at q; subst q; rw [hb]; decide)
    simpa using this
  have hat : Src.at ⟨TS.take k ++ bad :: (src more).l, (src more).e⟩ k = bad := by
    unfold Src.at
    simp only
    rw [List.getD_eq_getElem?_getD, List.getElem?_append_right (by rw [List.length_take]; omega), List.length_take, Nat.min_eq_left hk, Nat.sub_self]
    rfl
  refine ⟨?_, by rw [hs]; exact hat⟩
  unfold decls
  rw [hs]
  have A := ag_of hk (L := bad :: (src more).l) (e := (src more).e) (by
    rw [hat]; unfold Cut.Dead; rw [hb]; decide)
  have hl := src_len more
  refine (Cut.text_cut A (ends 0 qs) 0 [] _ hch (Nat.zero_le _) (by rw [he]; exact hk) ?_).2 ?_
  · simp only [List.length_append, List.length_take, List.length_cons]; omega
  · rintro ⟨e, _⟩
    simp only [List.length_append, List.length_take, List.length_cons] at e
    omega
end Lay
end R
theorem twin_at (l : List R.Tok) (k : Nat) (hk : l.length = k) (ao : Option Addr) (cap : Nat) (w : World) (few : l.length ≤ R.lim) (ht : Toks l ao (fun _ => False) w) :
    Calls Tryz.prog 17 #[.slice ao k cap] w fun e w' => ∃ v, e = .returned v ∧ w'.ownsRow w.heap.size 44 4 v l.length (l.flatMap cellsT) ∧ Below w.heap.size w w' := by
  subst hk
  exact twin_any l ao cap w few ht
theorem decls_at (l : List R.Tok) (k : Nat) (hk : l.length = k) (ao : Option Addr) (cap B : Nat) (w : World) (hc : l.length ≤ cap) (ok : TkOk l) (ht : Toks l ao (fun _ => False) w) (hT : TbB B w) :
    Calls Tryz.prog 19 #[.slice ao k cap] w fun e w' => DeclsIs l w e w' ∧ Below w.heap.size w w' := by
  subst hk
  exact decls_any l ao cap B w hc ok ht hT
theorem four_at (W : World) (n : Nat) (hn : W.heap.size = n) (x y z u : Value) (t : TypeId) : ∀ j q, [x, y, z, u][j]? = some q → (W.alloc (.cells #[x, y, z, u] t)).cell? ((⟨n, 0, none⟩ : Addr).add j) = some q := by
  subst hn
  intro j q hj
  exact World.news_of_block (heap_alloc_new W (.cells #[x, y, z, u] t)) j q (by simpa using hj)
end Go.Proofs.YtfgblchnnhdlnaaGreatDoor
set_option linter.unusedVariables false
set_option linter.unusedSimpArgs false
namespace Go.Proofs.YtfgblchnnhdlnaaGreatDoor
open Go.RowKit
set_option maxRecDepth 100000 in
set_option maxHeartbeats 16000000 in
theorem local_walk (shs : List Sh) (ao : Option Addr) (cap : Nat) (cut bk : Int) (bt : ByteArray) (bl bc : Int) (more : List R.Tok) (am : Option Addr) (cm : Nat) (w : World) (hc : shs.length ≤ cap) (hs : Shs w.heap.size shs ao w) (hsm : ∀ s ∈ shs, s.Small) (hwt : wt shs ≤ 1048576) (hT : TbB w.heap.size w)
    (hg : w.cell? ⟨0, 0, none⟩ = some (ty 33)) (hbt : bt.size ≤ 1048576) (hm : Toks more am (fun _ => False) w) (hmn : am = none → more.length = 0 ∧ cm = 0) (hml : more.length ≤ 1048576) (hms : ∀ t ∈ more, t.2.1.size ≤ 1048576) (hmc : more.length ≤ cm) :
    Calls Tryz.prog 9 #[.slice ao shs.length cap, .int .i64 cut, .agg #[.int .i8 bk, .string bt, .int .i64 bl, .int .i64 bc], .slice am more.length cm] w fun e w' => e = .returned (.bool true) ∧ Below w.heap.size w w' := by
  have hlw : shs.length ≤ wt shs := by
    unfold wt
    clear hc hs hsm hwt
    induction shs with
    | nil => simp
    | cons s l ih => simp; omega
  have hl : (shs.length : Int) < 1048577 := by omega
  have H := hide' (And.intro hs (And.intro hsm (And.intro hwt hT)))
  have M := hide' (And.intro hg (And.intro hbt (And.intro hm (And.intro hmn (And.intro hml (And.intro hms hmc))))))
  clear hs hsm hwt hT hlw hg hbt hm hmn hml hms hmc
  have hi44 := info29
  cases hq44 : Tryz.prog.info? 44 with
  | none => simp [hq44] at hi44
  | some i0 =>
  obtain ⟨hz0, hz1, hz2⟩ : i0.zero = some (.agg #[.int .i8 0, .string ByteArray.empty, .int .i64 0, .int .i64 0]) ∧ i0.size = 4 ∧ i0.bytes = 40 := by simpa [hq44] using hi44
  have Hz := hide' (And.intro hq44 (And.intro hz0 (And.intro hz1 hz2)))
  clear hi44 hq44 hz0 hz1 hz2
  go_enter Tryz.func9, Tryz.ntmps9
  go_wp2_with fail
  go_loopw [10] (fun vi wx => ∃ (k : Nat) (qs : List (List R.Tok × R.Dc)) (v : Value) (ln cl q : Int), vi = .int .i64 (k : Int) ∧ k ≤ shs.length ∧ Lays qs ∧ (qs.flatMap Prod.fst).length ≤ 10 * wt (shs.take k) ∧ Ld (w.heap.size + 1) (w.heap.size + 1) (qs.flatMap Prod.fst) v ln cl q wx ∧ Below (w.heap.size + 1) (w.alloc (.cells #[.int .i8 bk, .string bt, .int .i64 bl, .int .i64 bc] 44)) wx) (fun vi _ => shs.length - idxOf vi)
  case atStart =>
    refine ⟨0, [], .slice none 0 0, 0, 0, 0, rfl, Nat.zero_le _, Lays.nil, Nat.zero_le _, ⟨Nat.le_refl _, ?_, rfl, Or.inl ⟨rfl, rfl⟩⟩, (Below.refl _ _).alloc (by simp) _⟩
    have := heap_alloc_new (w.alloc (.cells #[.int .i8 bk, .string bt, .int .i64 bl, .int .i64 bc] 44)) (.cells #[.slice none 0 0, .int .i64 0, .int .i64 0, .int .i64 0] 50)
    rw [World.size_alloc] at this
    exact this
  case round =>
    obtain ⟨k, qs, v, ln, cl, q, rfl, hk, hL, hln, L, hb⟩ := hrel
    have hb0 : Below w.heap.size w wr := ((Below.refl _ _).alloc (Nat.le_refl _) _).trans (hb.mono (by omega))
    by_cases hkl : k < shs.length
    · obtain ⟨s, hsk⟩ : ∃ s, shs[k]? = some s := ⟨_, List.getElem?_eq_getElem hkl⟩
      obtain ⟨bb, o, rfl, hbb, hcell, hin⟩ := (H.out.1.old (w' := wr) (fun p hp => hb0.cell hp)) k s hsk
      have hki : (k : Int) < (shs.length : Int) := by omega
      have hk0 : (0 : Int) ≤ (k : Int) := by omega
      have hsmk := H.out.2.1 s (List.mem_of_getElem? hsk)
      have hwk := wt_take shs k s hsk
      have hwl := wt_le shs (k + 1)
      have hwt := H.out.2.2.1
      have fw : Hid ((qs.flatMap Prod.fst).length + 2 * s.names.length + 10 ≤ R.lim) := (show _ ≤ R.lim by unfold R.lim; omega)
      have in2 : s.In (w.heap.size + 1) wr := ⟨hin.1, fun i t ht => by obtain ⟨nb, no, e1, e2, e3⟩ := hin.2 i t ht; exact ⟨nb, no, e1, by omega, e3⟩⟩
      have KK := hide' (And.intro hL (And.intro hln (And.intro L (And.intro hb (And.intro hsmk (And.intro hwk in2))))))
      clear hL hln L hsmk hwk hin in2 hwl hwt hsk hb0 hb
      obtain ⟨kind, head, on, na, names, nc, all, cond, num, quo, line, col⟩ := s
      unfold Sh.cells at hcell
      simp only at hcell fw
      have s0 := hcell 0 _ rfl
      have s1 := hcell 1 _ rfl
      have s2 := hcell 2 _ rfl
      have s3 := hcell 3 _ rfl
      have s4 := hcell 4 _ rfl
      have s5 := hcell 5 _ rfl
      have s6 := hcell 6 _ rfl
      have s7 := hcell 7 _ rfl
      have s8 := hcell 8 _ rfl
      have s9 := hcell 9 _ rfl
      rw [Nat.add_zero] at s0
      clear hcell
      go_wp2_with fail
      obtain ⟨hL, hln, L, hb, hsmk, hwk, hin⟩ := KK.out
      refine (laid_any (sh := ⟨kind, head, on, na, names, nc, all, cond, num, quo, line, col⟩) L hin hsmk fw.out).mono ?_
      rintro e w3 ⟨T, d, sv, v3, l3, c3, q3, rfl, row, hR, h5, hTl, hTs, L3, S3⟩
      have b3 := hb.trans (Lst.below L S3)
      have K3 := hide' (And.intro hL (And.intro hln (And.intro hwk (And.intro hR (And.intro h5 (And.intro hTl (And.intro hTs (And.intro L3 b3))))))))
      clear hL hln L hsmk hwk hin row hR h5 hTl hTs L3 S3 b3 KK s0 s1 s2 s3 s4 s5 s6 s7 s8 s9 hb
      unfold dl
      go_wp2_with fail
      obtain ⟨hL, hln, hwk, hR, h5, hTl, hTs, L3, b3⟩ := K3.out
      refine ⟨⟨k + 1, qs ++ [(T, d)], v3, l3, c3, q3, by simp, by omega, hL.snoc hR h5 hTs, ?_, ?_, b3⟩, by simp [idxOf]; omega⟩
      · rw [flat_snoc, List.length_append, hwk]; (try simp only at hTl ⊢); omega
      · rw [flat_snoc]; exact L3
    · obtain rfl : k = shs.length := by omega
      rw [List.take_length] at hln
      obtain ⟨TS, hTS⟩ : ∃ TS, qs.flatMap Prod.fst = TS := ⟨_, rfl⟩
      have hsmall := hL.small
      have hdd := fun k hk bad hb more => R.Lay.decls_dead qs hL (k := k) hk bad hb more
      rw [hTS] at hsmall hln L hdd
      have HS := hide' (And.intro hsmall hdd)
      clear hsmall hdd hL hTS
      have hki : ¬ ((shs.length : Int) < (shs.length : Int)) := by omega
      have KK := hide' (And.intro hln (And.intro L (And.intro hb hb0)))
      clear hln L hb hb0
      go_wp2_with fail
      obtain ⟨hln, L, hb, hb0⟩ := KK.out
      refine (alive_any w.heap.size wr (H.out.2.2.2.below hb0)).mono ?_
      rintro e w1 ⟨rfl, b1⟩
      have L1 := L.quiet b1
      have hb1 := hb.trans (b1.mono (by have := hb.size; simp at this; omega))
      obtain ⟨x7, c7, rfl, hc7, t7⟩ := toks_row L1.row
      have e0 := L1.c0
      have hwt := H.out.2.2.1
      have hlen : (TS.length : Int) < 10485761 := by omega
      have hPK := pick_any cut ((TS.length : Int) + 1) w1 ⟨by omega, by omega⟩
      have hpk := pik_bd cut ((TS.length : Int) + 1) (by omega)
      obtain ⟨k, hk⟩ : ∃ k : Nat, pik cut ((TS.length : Int) + 1) = (k : Int) := ⟨(pik cut ((TS.length : Int) + 1)).toNat, by omega⟩
      rw [hk] at hPK hpk
      have HPK := hide' hPK
      have hwr : IntKind.i64.wrap ((TS.length : Int) + 1) = (TS.length : Int) + 1 := by rw [IntKind.wrap_i64]; omega
      have hkT : k ≤ TS.length := by omega
      have hkc : k ≤ c7 := by omega
      have K1 := hide' (And.intro L1 (And.intro hb1 t7))
      clear hln L hb hb0 L1 hb1 t7 b1 KK hPK hk
      go_wp2_with fail
      refine HPK.out.mono ?_
      rintro e w1' ⟨rfl, hw1⟩
      replace hw1 := hw1.symm
      subst hw1
      clear HPK hwr
      go_wp2_with fail
      obtain ⟨L1, hb1, t7⟩ := K1.out
      have hTk : (TS.take k).length = k := by rw [List.length_take]; omega
      refine (twin_at (TS.take k) k hTk x7 c7 w1 (by unfold R.lim; omega) (t7.take k)).mono ?_
      rintro e w2 ⟨v2, rfl, r2, b2⟩
      have z1 : w.heap.size + 1 < w1.heap.size := L1.lt
      have hbx : w2.heap[w.heap.size]? = some (.cells #[.int .i8 bk, .string bt, .int .i64 bl, .int .i64 bc] 44 (0, 0)) := (b2.block _ (by omega)).trans ((hb1.block _ (by omega)).trans (heap_alloc_new w _))
      have tk := Tk.of_cells hbx
      have p0 := tk.c0
      have p1 := tk.c1
      have p2 := tk.c2
      have p3 := tk.c3
      have f0 := tk.f 0 (by decide)
      have hb2 := hb1.trans (b2.mono (by omega))
      have tS : Turn (fun k => k = w.heap.size) w2 (w2.setCell ⟨w.heap.size, 0, none⟩ (.int .i8 9)) := (Turn.refl (fun k => k = w.heap.size) w2).setCell (p := ⟨w.heap.size, 0, none⟩) (fun _ => rfl) _
      have r2' := tS.row r2 (fun g hg e => by have := (r2.lt g hg).1; omega)
      have hbs : (w2.setCell ⟨w.heap.size, 0, none⟩ (.int .i8 9)).heap[w.heap.size]? = some (.cells #[.int .i8 9, .string bt, .int .i64 bl, .int .i64 bc] 44 (0, 0)) := by
        rw [setCell_eq_setRow w2 w.heap.size 0 _ 44 (0, 0) _ hbx]
        exact setRow_heap w2 w.heap.size _ _ 44 (0, 0) hbx
      have hbS : Below w.heap.size w (w2.setCell ⟨w.heap.size, 0, none⟩ (.int .i8 9)) := (((Below.refl _ _).alloc (Nat.le_refl _) _).trans (hb2.mono (by omega))).setCell (p := ⟨w.heap.size, 0, none⟩) (Nat.le_refl _) _
      have zS : (w2.setCell ⟨w.heap.size, 0, none⟩ (.int .i8 9)).heap.size = w2.heap.size := by simp [World.setCell]
      have z2 := b2.size
      obtain ⟨x2, c2, rfl⟩ := row_form r2
      rw [hTk] at r2'
      rw [hTk]
      have K2 := hide' (And.intro r2' (And.intro hbs (And.intro hbS (And.intro zS hTk))))
      have n1 : Hid (k + 1 ≤ maxLen) := (show k + 1 ≤ maxLen by unfold maxLen; omega)
      have n2 : Hid ((k + 1) * 40 ≤ 140737488355328) := (show (k + 1) * 40 ≤ 140737488355328 by omega)
      clear L1 hb1 t7 K1 r2 b2 hbx tk hb2 tS r2' hbs hbS zS hTk e0
      go_wp2_with (at_builtin; refine wpList_append_lies _ rfl _ _ 40 rfl w1.heap.size 44 i0 _ 4 40 Tryz.underlying40 Hz.out.1 Hz.out.2.1 Hz.out.2.2.1 Hz.out.2.2.2 rfl (by decide) _ _ _ rfl (K2.out.1.alloc _) ⟨w2.heap.size, 0, none⟩ 1 1 [.int .i8 9, .string bt, .int .i64 bl, .int .i64 bc] rfl rfl (four_at _ _ K2.out.2.2.2.1 _ _ _ _ _) (by simp [Value.oneCell']) (by decide) n1.out n2.out (by have := K2.out.2.2.2.1; simp; omega) _ rfl ?_; intro g cp w4 hrow4 hgrow4 hat4 hlt4)
      replace hgrow4 : ((w2.setCell ⟨w.heap.size, 0, none⟩ (.int .i8 9)).alloc (.cells #[.int .i8 9, .string bt, .int .i64 bl, .int .i64 bc] 44)).grownBy w4 (Value.slice x2 k c2).ownBlock := hgrow4
      clear hat4 hlt4 p0 p1 p2 p3 f0
      obtain ⟨r2, hbs, hbS, zS, hTk⟩ := K2.out
      have bx4 : w4.heap[w.heap.size]? = some (.cells #[.int .i8 9, .string bt, .int .i64 bl, .int .i64 bc] 44 (0, 0)) := (hgrow4.block w.heap.size (by simp [zS]; omega) (fun e => by have := (r2.lt _ e.symm).1; omega)).trans ((Below.heap_alloc _ _ _ (by rw [zS]; omega)).trans hbs)
      have b4 : Below w.heap.size w w4 := (hbS.alloc (by rw [zS]; omega) _).grown hgrow4 (by simp [zS]; omega) (fun j hj => by have := (r2.lt j hj).1; omega)
      obtain ⟨U, hU⟩ : ∃ U, TS.take k ++ [(9, bt, bl, bc)] = U := ⟨_, rfl⟩
      have hUl : U.length = k + 1 := by rw [← hU, List.length_append, hTk]; rfl
      have hUd : R.decls U = .bad k 40 ∧ (R.src U).at k = (9, bt, bl, bc) := by rw [← hU]; exact HS.out.2 k hkT (9, bt, bl, bc) rfl []
      have hUm : R.decls (U ++ more) = .bad k 40 ∧ (R.src (U ++ more)).at k = (9, bt, bl, bc) := by
        have := HS.out.2 k hkT (9, bt, bl, bc) rfl more
        rw [← hU, List.append_assoc]; exact this
      have hUs : ∀ t ∈ U, t.2.1.size ≤ 1048576 := by
        intro t ht
        rw [← hU] at ht
        rcases List.mem_append.1 ht with q | q
        · exact HS.out.1 t (List.mem_of_mem_take q)
        · simp at q; subst q; exact M.out.2.1
      have r4 : w4.ownsRow w1.heap.size 44 4 (.slice (some ⟨g, 0, none⟩) (k + 1) cp) U.length (U.flatMap cellsT) := by
        rw [hUl, ← hU, List.flatMap_append]; simpa [cellsT] using hrow4
      obtain ⟨sa4, sc4, e4, hc4, t4⟩ := toks_row r4
      rw [hUl] at e4
      cases e4
      refine (twin_at U (k + 1) hUl (some ⟨g, 0, none⟩) cp w4 (by unfold R.lim; omega) t4).mono ?_
      rintro e w5 ⟨v5, rfl, r5, b5⟩
      obtain ⟨x5, c5, rfl, hc5, t5⟩ := toks_row r5
      have K5 := hide' (And.intro hUd (And.intro hUm (And.intro hUs (And.intro r4 (And.intro bx4 (And.intro b4 (And.intro b5 (And.intro hc5 t5))))))))
      clear K2 r2 hbs hbS zS hTk hgrow4 hrow4 bx4 b4 hUd hUm hUs r4 hc4 t4 r5 b5 hc5 t5 hU
      go_wp2_with fail
      obtain ⟨hUd, hUm, hUs, r4, bx4, b4, b5, hc5, t5⟩ := K5.out
      have hb5 := b4.trans (b5.mono b4.size)
      refine (decls_at U (k + 1) hUl x5 c5 w.heap.size w5 hc5 ⟨by unfold R.lim; omega, fun t ht => by have := hUs t ht; unfold R.lim; omega⟩ t5 (H.out.2.2.2.below hb5)).mono ?_
      rintro e w6 ⟨d6, b6⟩
      unfold DeclsIs at d6
      simp only [hUd.1] at d6
      obtain ⟨fb, rfl, hfb, hF⟩ := d6
      rw [hUd.2] at hF
      simp only at hF
      have hb6 := hb5.trans (b6.mono hb5.size)
      have g6 := (hb6.cell (p := ⟨0, 0, none⟩) (lt_of_cell M.out.1)).trans M.out.1
      have b46 := b5.trans (b6.mono b5.size)
      have K6 := hide' (And.intro hUm (And.intro hUs (And.intro r4 (And.intro bx4 (And.intro b46 (And.intro hb6 (And.intro hF g6)))))))
      clear hUd hUm hUs r4 bx4 b4 b5 hc5 t5 hb5 b6 hfb hF hb6 g6 b46 K5
      go_wp2_with fail
      obtain ⟨hUm, hUs, r4, bx4, b46, hb6, hF, g6⟩ := K6.out
      refine (told_flt fb 40 bl bc rfl bt w6 hF g6).mono ?_
      rintro e w7 ⟨rfl, b7⟩
      have hb7 := hb6.trans (b7.mono hb6.size)
      have b47 := b46.trans (b7.mono b46.size)
      have K7 := hide' (And.intro hUm (And.intro hUs (And.intro r4 (And.intro bx4 (And.intro b47 hb7)))))
      clear hUm hUs r4 bx4 b46 hb6 hF g6 b7 hb7 b47 K6
      have r7 := hide' ((turn_below (S := fun _ => False) K7.out.2.2.2.2.1).row K7.out.2.2.1 (fun _ _ q => q))
      rw [hUl] at r7
      have hml := M.out.2.2.2.2.1
      have m1 : Hid (k + 1 + more.length ≤ maxLen) := (show k + 1 + more.length ≤ maxLen by unfold maxLen; omega)
      have m2 : Hid ((k + 1 + more.length) * 40 ≤ 140737488355328) := (show (k + 1 + more.length) * 40 ≤ 140737488355328 by omega)
      have z7 : Hid (w1.heap.size ≤ w7.heap.size + 1) := (show _ ≤ _ by have := K7.out.2.2.2.2.1.size; have := (K7.out.2.2.1.lt g rfl).2; have := (K7.out.2.2.1.lt g rfl).1; omega)
      go_wp2_with (at_builtin; refine wpList_append_src rfl _ _ 40 rfl w1.heap.size 44 i0 _ 4 40 Tryz.underlying40 Hz.out.1 Hz.out.2.1 Hz.out.2.2.1 Hz.out.2.2.2 rfl (by decide) (.slice (some ⟨g, 0, none⟩) (k + 1) cp) _ _ rfl (r7.out.alloc _) am more.length cm (more.flatMap cellsT) rfl M.out.2.2.2.1 (flat4_len more) (toks_cells (M.out.2.2.1.below (K7.out.2.2.2.2.2.alloc (K7.out.2.2.2.2.2.size) _))) (flat4_one more) m1.out m2.out (by have := z7.out; simp; omega) ?_; intro v9 w9 r9 g9 o9)
      obtain ⟨hUm, hUs, r4, bx4, b47, hb7⟩ := K7.out
      have gl := r7.out.lt g rfl
      have r9' : w9.ownsRow w1.heap.size 44 4 v9 (U ++ more).length ((U ++ more).flatMap cellsT) := by rw [List.length_append, hUl, List.flatMap_append]; exact r9
      obtain ⟨x9, c9, rfl, hc9, t9⟩ := toks_row r9'
      have z47 := b47.size
      have z4 : w.heap.size < w4.heap.size := (Array.getElem?_eq_some_iff.1 bx4).1
      have hb9 : Below w.heap.size w w9 := (hb7.alloc hb7.size _).grown g9 (by have := hb7.size; simp; omega) (fun j hj => by
        have : g = j := by simpa [Value.ownBlock] using hj
        omega)
      have k16 : w9.heap[w7.heap.size]? = some (.cells #[.int .i64 40, .int .i64 bl, .int .i64 bc, .string bt] 26 (0, 0)) := (g9.block w7.heap.size (by simp) (fun e => by
        have : w7.heap.size = g := by simpa [Value.ownBlock] using e
        omega)).trans (heap_alloc_new _ _)
      have k6 : w9.heap[w.heap.size]? = some (.cells #[.int .i8 9, .string bt, .int .i64 bl, .int .i64 bc] 44 (0, 0)) := (g9.block w.heap.size (by have := hb7.size; simp; omega) (fun e => by
        have : w.heap.size = g := by simpa [Value.ownBlock] using e
        omega)).trans ((Below.heap_alloc _ _ _ (by have := hb7.size; omega)).trans ((b47.block _ (by omega)).trans bx4))
      refine (decls_any (U ++ more) x9 c9 w.heap.size w9 hc9 ⟨by rw [List.length_append]; unfold R.lim; omega, fun t ht => by
        rcases List.mem_append.1 ht with q | q
        · have := hUs t q; unfold R.lim; omega
        · have := M.out.2.2.2.2.2.1 t q; unfold R.lim; omega⟩ t9 (H.out.2.2.2.below hb9)).mono ?_
      rintro e w10 ⟨d10, b10⟩
      unfold DeclsIs at d10
      simp only [hUm.1] at d10
      obtain ⟨fb2, rfl, _, hF⟩ := d10
      rw [hUm.2] at hF
      simp only at hF
      have hb10 := hb9.trans (b10.mono hb9.size)
      have g10 := (hb10.cell (p := ⟨0, 0, none⟩) (lt_of_cell M.out.1)).trans M.out.1
      have z9 : w7.heap.size < w9.heap.size := (Array.getElem?_eq_some_iff.1 k16).1
      have z9' : w.heap.size < w9.heap.size := (Array.getElem?_eq_some_iff.1 k6).1
      have K10 := hide' (And.intro k16 (And.intro k6 (And.intro b10 (And.intro hb10 (And.intro hF (And.intro g10 (And.intro z9 z9')))))))
      clear hUm hUs r4 bx4 b47 hb7 gl r9' hc9 t9 z47 z4 hb9 k16 k6 b10 hb10 hF g10 z9 z9' K7 r7 r9 g9 o9 m1 m2 z7
      go_wp2_with fail
      obtain ⟨k16, k6, b10, hb10, hF, g10, z9, z9'⟩ := K10.out
      refine (told_flt fb2 40 bl bc rfl bt w10 hF g10).mono ?_
      rintro e w11 ⟨rfl, b11⟩
      have b911 := b10.trans (b11.mono b10.size)
      have k16' := (b911.block _ z9).trans k16
      have k6' := (b911.block _ z9').trans k6
      have hb11 := hb10.trans (b11.mono hb10.size)
      have al : ∀ o j, j < w11.heap.size → (w11.alloc o).heap[j]? = w11.heap[j]? := fun o j hj => Below.heap_alloc _ _ _ hj
      have za : w7.heap.size < w11.heap.size := (Array.getElem?_eq_some_iff.1 k16').1
      have zb : w.heap.size < w11.heap.size := (Array.getElem?_eq_some_iff.1 k6').1
      have a0 : ∀ o, (w11.alloc o).cell? ⟨w7.heap.size, 0, none⟩ = some (.int .i64 40) := fun o => (Tk.of_cells ((al o _ za).trans k16')).c0
      have a1 : ∀ o, (w11.alloc o).cell? ⟨w7.heap.size, 1, none⟩ = some (.int .i64 bl) := fun o => (Tk.of_cells ((al o _ za).trans k16')).c1
      have a2 : ∀ o, (w11.alloc o).cell? ⟨w7.heap.size, 2, none⟩ = some (.int .i64 bc) := fun o => (Tk.of_cells ((al o _ za).trans k16')).c2
      have a3 : ∀ o, (w11.alloc o).cell? ⟨w7.heap.size, 3, none⟩ = some (.string bt) := fun o => (Tk.of_cells ((al o _ za).trans k16')).c3
      have c1 : ∀ o, (w11.alloc o).cell? ⟨w.heap.size, 1, none⟩ = some (.string bt) := fun o => (Tk.of_cells ((al o _ zb).trans k6')).c1
      have c2 : ∀ o, (w11.alloc o).cell? ⟨w.heap.size, 2, none⟩ = some (.int .i64 bl) := fun o => (Tk.of_cells ((al o _ zb).trans k6')).c2
      have c3 : ∀ o, (w11.alloc o).cell? ⟨w.heap.size, 3, none⟩ = some (.int .i64 bc) := fun o => (Tk.of_cells ((al o _ zb).trans k6')).c3
      have K11 := hide' hb11
      clear k16 k6 b10 hb10 hF g10 z9 z9' b11 b911 k16' k6' hb11 al za zb K10
      go_wp2
      go_ret
      exact ⟨rfl, K11.out.alloc K11.out.size _⟩
end Go.Proofs.YtfgblchnnhdlnaaGreatDoor
