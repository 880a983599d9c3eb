import Derived.Test.YtppcofopnelgjaaGreatDoorGrSa
import Derived.LaidEql
import Derived.Stop.Asserts
import Derived.RowKitTokens
import Derived.Test.YtppcofopnelgjaaGreatDoorGrY
set_option linter.unusedVariables false
set_option linter.unusedSimpArgs false
namespace Go.Proofs.YtppcofopnelgjaaGreatDoor
open Go.RowKit Go.Extern.Stop Go.Stop Go.Extern
/-! errors.As with a fault, and with a variable of the fault's pointer for its target: what each entry of internal/reflectlite tells at these types (72: the pointer to a fault, 74: the pointer to such a pointer, 33: error, 142: reflectlite's type, 102: its value; a type's handle lies behind the six variables) -/
def hd (t : Nat) : Value := .pointer (some ⟨14, t, none⟩)
def ty (t : Nat) : Value := .iface 142 (.agg #[hd t])
def rv (t : Nat) (a : Addr) (fl : Int) : Value := .agg #[hd t, .pointer (some a), .int .u64 fl]
theorem rf_valueOf (t : Nat) (ht : t = 74 ∨ t = 72) (a : Addr) (w : World) : (ReflectliteValue.unpack (.iface t (.pointer (some a)))).run Tryz.prog w = .ok (rv t ⟨w.heap.size, 0, none⟩ 150) (w.alloc (.cells #[.pointer (some a)] t)) := by
  rcases ht with rfl | rfl <;> kernel_rfl
theorem rf_type (a : Addr) (w : World) : (ReflectliteValue.methodAny (ReflectliteValue.valueError "reflectlite.Value.Type" 0) (fun t _ _ _ => ReflectliteType.toType t) #[rv 74 a 150]).run Tryz.prog w = .ok (ty 74) w := by kernel_rfl
theorem rf_kind (t : Nat) (ht : t = 74 ∨ t = 72) (w : World) : ((ReflectliteType.abiMethod fun t => (fun a : Nat => Value.int IntKind.u8 (a : Int)) <$> Rtype.kind t) #[hd t]).run Tryz.prog w = .ok (.int .u8 22) w := by
  rcases ht with rfl | rfl <;> kernel_rfl
theorem rf_elem (w : World) : (ReflectliteType.method ReflectliteType.elem #[.agg #[hd 74]]).run Tryz.prog w = .ok (ty 72) w := by kernel_rfl
theorem rf_impl (w : World) : (ReflectliteType.relation "Implements" ReflectliteType.implements_ #[.agg #[hd 72], ty 33]).run Tryz.prog w = .ok (.bool true) w := by kernel_rfl
theorem rf_typeOf (v : Value) (w : World) : (ReflectliteType.typeOf #[.iface 72 v]).run Tryz.prog w = .ok (ty 72) w := by kernel_rfl
theorem rf_assign (w : World) : (ReflectliteType.relation "AssignableTo" ReflectliteType.assignableTo #[.agg #[hd 72], ty 72]).run Tryz.prog w = .ok (.bool true) w := by kernel_rfl
theorem rf_parts (t : Nat) (ht : t = 74 ∨ t = 72) (a : Addr) (w : World) : (ReflectliteValue.parts (rv t a 150)).run Tryz.prog w = .ok (some (t, a, 150)) w := by
  rcases ht with rfl | rfl <;> kernel_rfl
theorem rf_partsA (a : Addr) (w : World) : (ReflectliteValue.parts (rv 72 a 406)).run Tryz.prog w = .ok (some (72, a, 406)) w := by kernel_rfl
theorem rf_isNil (a p : Addr) (W : World) (ha : W.cell? a = some (.pointer (some p))) :
    (ReflectliteValue.method (ReflectliteValue.valueError "reflectlite.Value.IsNil" 0) ReflectliteValue.isNil #[rv 74 a 150]).run Tryz.prog W = .ok (.bool false) W := by
  show (do match ← ReflectliteValue.parts (rv 74 a 150) with | none => _ | some (t, a, fl) => ReflectliteValue.isNil t a fl (fl % 32)).run Tryz.prog W = _
  simp only [Sem.run_bind, rf_parts 74 (Or.inl rfl), Result.andThen]
  simp [ReflectliteValue.isNil, loadVar, isAgg, underlying, Tryz.underlying74, ha, Result.andThen]
theorem rf_elemOf (w : World) : (Rtype.elem? 74).run Tryz.prog w = .ok (some 72) w := by kernel_rfl
theorem rf_mk (p : Addr) (w : World) : (ReflectliteValue.mk 72 p ReflectliteValue.flagAddr).run Tryz.prog w = .ok (rv 72 p 406) w := by kernel_rfl
theorem rf_elemV (a p : Addr) (W : World) (ha : W.cell? a = some (.pointer (some p))) :
    (ReflectliteValue.method (ReflectliteValue.valueError "reflectlite.Value.Elem" 0) ReflectliteValue.elem #[rv 74 a 150]).run Tryz.prog W = .ok (rv 72 p 406) W := by
  show (do match ← ReflectliteValue.parts (rv 74 a 150) with | none => _ | some (t, a, fl) => ReflectliteValue.elem t a fl (fl % 32)).run Tryz.prog W = _
  simp only [Sem.run_bind, rf_parts 74 (Or.inl rfl), Result.andThen]
  simp [ReflectliteValue.elem, loadVar, isAgg, underlying, Tryz.underlying74, ha, Result.andThen, rf_elemOf, rf_mk]
theorem rf_direct (w : World) : (Rtype.directlyAssignable 72 72).run Tryz.prog w = .ok true w := by kernel_rfl
theorem rf_size (w : World) : (sizeOf 72).run Tryz.prog w = .ok 1 w := by kernel_rfl
end Go.Proofs.YtppcofopnelgjaaGreatDoor
set_option linter.unusedVariables false
set_option linter.unusedSimpArgs false
namespace Go.Proofs.YtppcofopnelgjaaGreatDoor
open Go.RowKit Go.Extern.Stop Go.Stop Go.Extern
theorem rf_set (ta b e : Addr) (old : Value) (W : World) (hb : W.cell? b = some (.pointer (some e))) (ht : W.cell? ta = some old) (hf : W.frozen? ta = false) :
    (ReflectliteValue.set #[rv 72 ta 406, rv 72 b 150]).run Tryz.prog W = .ok (.tuple #[]) (W.setCell ta (.pointer (some e))) := by
  show (ReflectliteValue.parts (rv 72 ta 406) >>= _).run Tryz.prog W = _
  rw [Sem.run_bind, rf_partsA]
  dsimp only [Result.andThen]
  show (ReflectliteValue.parts (rv 72 b 150) >>= _).run Tryz.prog W = _
  rw [Sem.run_bind, rf_parts 72 (Or.inr rfl)]
  dsimp only [Result.andThen]
  show (loadVar 72 b >>= _).run Tryz.prog W = _
  have h0 : (loadVar 72 b).run Tryz.prog W = .ok (.pointer (some e)) W := by simp [loadVar, isAgg, underlying, Tryz.underlying72, hb, Result.andThen]
  rw [Sem.run_bind, h0]
  dsimp only [Result.andThen]
  show (Rtype.directlyAssignable 72 72 >>= _).run Tryz.prog W = _
  rw [Sem.run_bind, rf_direct]
  dsimp only [Result.andThen]
  show (storeVar 72 ta (.pointer (some e)) >>= _).run Tryz.prog W = _
  simp [isAgg, underlying, Tryz.underlying72, Result.andThen, storeVar, Value.cells, storeCells, Addr.add]
  rw [run_store Tryz.prog W ta _ _ (by rfl)]
  simp [ht, hf]
end Go.Proofs.YtppcofopnelgjaaGreatDoor
set_option linter.unusedVariables false
set_option linter.unusedSimpArgs false
namespace Go.Proofs.YtppcofopnelgjaaGreatDoor
open Go.RowKit Go.Extern.Stop Go.Stop Go.Extern
theorem rf_m (h : Value) (w : World) : (Go.method 438 142 (.agg #[h]) "Kind").run Tryz.prog w = .ok (228, h) w ∧ (Go.method 438 142 (.agg #[h]) "Elem").run Tryz.prog w = .ok (240, .agg #[h]) w
    ∧ (Go.method 438 142 (.agg #[h]) "Implements").run Tryz.prog w = .ok (241, .agg #[h]) w ∧ (Go.method 438 142 (.agg #[h]) "AssignableTo").run Tryz.prog w = .ok (238, .agg #[h]) w :=
  ⟨by kernel_rfl, by kernel_rfl, by kernel_rfl, by kernel_rfl⟩
theorem rf_fuel : Tryz.prog.types.size + Made.depth = 438 := by kernel_rfl
/-- The world behind the four copies that errors.As makes: the target, its value twice, the fault's pointer. -/
def asW2 (t : Addr) (w : World) : World := (w.alloc (.cells #[.pointer (some t)] 74)).alloc (.cells #[hd 74, .pointer (some ⟨w.heap.size, 0, none⟩), .int .u64 150] 102)
def asW3 (t : Addr) (w : World) : World := (asW2 t w).alloc (.cells #[hd 74, .pointer (some ⟨w.heap.size, 0, none⟩), .int .u64 150] 102)
def asW (e t : Addr) (w : World) : World := (asW3 t w).alloc (.cells #[.pointer (some e)] 72)
theorem asW2_size (t : Addr) (w : World) : (asW2 t w).heap.size = w.heap.size + 2 := by simp [asW2]
theorem asW3_size (t : Addr) (w : World) : (asW3 t w).heap.size = w.heap.size + 3 := by simp [asW3, asW2_size]
theorem asW2_old (t a : Addr) (w : World) (h : a.block < w.heap.size) : (asW2 t w).cell? a = w.cell? a ∧ (asW2 t w).frozen? a = w.frozen? a := by
  unfold asW2
  exact ⟨by rw [World.cell?_alloc_lt _ _ a (by simp; omega), World.cell?_alloc_lt _ _ a h], by rw [World.frozen?_alloc_old _ _ a (by simp; omega), World.frozen?_alloc_old _ _ a (Nat.ne_of_lt h)]⟩
theorem asW3_old (t a : Addr) (w : World) (h : a.block < w.heap.size + 2) : (asW3 t w).cell? a = (asW2 t w).cell? a ∧ (asW3 t w).frozen? a = (asW2 t w).frozen? a := by
  unfold asW3
  exact ⟨World.cell?_alloc_lt _ _ a (by rw [asW2_size]; exact h), World.frozen?_alloc_old _ _ a (by rw [asW2_size]; omega)⟩
theorem asW_old (e t a : Addr) (w : World) (h : a.block < w.heap.size) : (asW e t w).cell? a = w.cell? a ∧ (asW e t w).frozen? a = w.frozen? a := by
  unfold asW
  have h3 := asW3_old t a w (by omega)
  have h2 := asW2_old t a w h
  exact ⟨by rw [World.cell?_alloc_lt _ _ a (by rw [asW3_size]; omega), h3.1, h2.1], by rw [World.frozen?_alloc_old _ _ a (by rw [asW3_size]; omega), h3.2, h2.2]⟩
theorem asW2_at (t : Addr) (w : World) : (asW2 t w).cell? ⟨w.heap.size, 0, none⟩ = some (.pointer (some t)) := by simp [asW2]
theorem asW3_at (t : Addr) (w : World) : (asW3 t w).cell? ⟨w.heap.size, 0, none⟩ = some (.pointer (some t)) := by
  rw [(asW3_old t ⟨w.heap.size, 0, none⟩ w (by simp)).1, asW2_at]
theorem asW_at (e t : Addr) (w : World) : (asW e t w).cell? ⟨w.heap.size + 3, 0, none⟩ = some (.pointer (some e)) := by
  unfold asW
  rw [World.cell?_alloc_at _ _ _ _ (by simp [asW3_size])]; rfl
set_option maxHeartbeats 4000000 in
theorem as_hit (e t : Addr) (old : Value) (w : World) (hg : w.cell? ⟨0, 0, none⟩ = some (ty 33)) (ht : w.cell? t = some old) (hf : w.frozen? t = false) (hz : 0 < w.heap.size) (htl : t.block < w.heap.size) :
    Calls Tryz.prog 27 #[.iface 72 (.pointer (some e)), .iface 74 (.pointer (some t))] w fun ev w' => ev = .returned (.bool true) ∧ w' = (asW e t w).setCell t (.pointer (some e)) := by
  have n33 := @run_callFunc_extern Tryz.prog 46 _ (fun args => ReflectliteValue.unpack (args.getD 0 (.tuple #[]))) Tryz.func46 (by kernel_rfl) (by kernel_rfl) (by kernel_rfl) (by kernel_rfl)
  have n34 := @run_callFunc_extern Tryz.prog 47 _ (ReflectliteValue.methodAny (ReflectliteValue.valueError "reflectlite.Value.Type" 0) (fun t _ _ _ => ReflectliteType.toType t)) Tryz.func47 (by kernel_rfl) (by kernel_rfl) (by kernel_rfl) (by kernel_rfl)
  have n35 := @run_callFunc_extern Tryz.prog 48 _ (ReflectliteValue.method (ReflectliteValue.valueError "reflectlite.Value.IsNil" 0) ReflectliteValue.isNil) Tryz.func48 (by kernel_rfl) (by kernel_rfl) (by kernel_rfl) (by kernel_rfl)
  have n59 := @run_callFunc_extern Tryz.prog 70 _ ReflectliteType.typeOf Tryz.func70 (by kernel_rfl) (by kernel_rfl) (by kernel_rfl) (by kernel_rfl)
  have n60 := @run_callFunc_extern Tryz.prog 71 _ (ReflectliteValue.method (ReflectliteValue.valueError "reflectlite.Value.Elem" 0) ReflectliteValue.elem) Tryz.func71 (by kernel_rfl) (by kernel_rfl) (by kernel_rfl) (by kernel_rfl)
  have n61 := @run_callFunc_extern Tryz.prog 72 _ ReflectliteValue.set Tryz.func72 (by kernel_rfl) (by kernel_rfl) (by kernel_rfl) (by kernel_rfl)
  have n133 := @run_callFunc_extern Tryz.prog 228 _ (ReflectliteType.abiMethod fun t => do pure (.int .u8 (← Rtype.kind t))) Tryz.func228 (by kernel_rfl) (by kernel_rfl) (by kernel_rfl) (by kernel_rfl)
  have n143 := @run_callFunc_extern Tryz.prog 238 _ (ReflectliteType.relation "AssignableTo" ReflectliteType.assignableTo) Tryz.func238 (by kernel_rfl) (by kernel_rfl) (by kernel_rfl) (by kernel_rfl)
  have n145 := @run_callFunc_extern Tryz.prog 240 _ (ReflectliteType.method ReflectliteType.elem) Tryz.func240 (by kernel_rfl) (by kernel_rfl) (by kernel_rfl) (by kernel_rfl)
  have n146 := @run_callFunc_extern Tryz.prog 241 _ (ReflectliteType.relation "Implements" ReflectliteType.implements_) Tryz.func241 (by kernel_rfl) (by kernel_rfl) (by kernel_rfl) (by kernel_rfl)
  have mK := fun h w => (rf_m h w).1
  have mE := fun h w => (rf_m h w).2.1
  have mI := fun h w => (rf_m h w).2.2.1
  have mA := fun h w => (rf_m h w).2.2.2
  have v60 := rf_valueOf 74 (Or.inl rfl)
  have v58 := rf_valueOf 72 (Or.inr rfl)
  have k60 := rf_kind 74 (Or.inl rfl)
  have k58 := rf_kind 72 (Or.inr rfl)
  have f1 := rf_type
  have f2 := rf_elem
  have f3 := rf_impl
  have f4 := rf_typeOf
  have f5 := rf_assign
  have g2 : (asW2 t w).cell? ⟨0, 0, none⟩ = some (ty 33) := by rw [(asW2_old t ⟨0, 0, none⟩ w hz).1]; exact hg
  have iN := rf_isNil ⟨w.heap.size, 0, none⟩ t _ (asW2_at t w)
  have eV := rf_elemV ⟨w.heap.size, 0, none⟩ t _ (asW3_at t w)
  have sT := rf_set t ⟨w.heap.size + 3, 0, none⟩ e old (asW e t w) (asW_at e t w) (by rw [(asW_old e t t w htl).1]; exact ht) (by rw [(asW_old e t t w htl).2]; exact hf)
  simp only [ty, rv, hd, asW, asW3, asW2] at *
  go_enter Tryz.func27, Tryz.ntmps27
  go_wp2
  refine wp_loop_rounds 1 ?_
  rw [rounds_succ]
  go_wp2
  go_ret
  exact ⟨rfl, rfl⟩
end Go.Proofs.YtppcofopnelgjaaGreatDoor
set_option linter.unusedVariables false
set_option linter.unusedSimpArgs false
namespace Go.Proofs.YtppcofopnelgjaaGreatDoor
open Go.RowKit
theorem loadF (w : World) (g : Nat) (a b c d : Value) (h : Tk g a b c d w) : (loadVar 26 ⟨g, 0, none⟩).run Tryz.prog w = .ok (.agg #[a, b, c, d]) w := by
  have hu := Tryz.underlying26
  have hl : (loadCells ⟨g, 0, none⟩ [a, b, c, d].length).run Tryz.prog w = .ok [a, b, c, d].toArray w :=
    run_loadCells_list (P := Tryz.prog) w ⟨g, 0, none⟩ [a, b, c, d] (fun j v hv => by
      have hadd : (⟨g, 0, none⟩ : Addr).add j = ⟨g, j, none⟩ := by unfold Addr.add; split <;> simp_all
      rw [hadd]
      match j, hv with
      | 0, hv => simp at hv; subst hv; exact h.c0
      | 1, hv => simp at hv; subst hv; exact h.c1
      | 2, hv => simp at hv; subst hv; exact h.c2
      | 3, hv => simp at hv; subst hv; exact h.c3
      | _ + 4, hv => simp at hv)
  have hi : (Tryz.prog.info? 26).map (·.size) = some 4 := by kernel_rfl
  cases hq : Tryz.prog.info? 26 with
  | none => simp [hq] at hi
  | some i =>
    have hs : i.size = 4 := by simpa [hq] using hi
    have hagg : (isAgg 26).run Tryz.prog w = .ok true w := by
      unfold isAgg
      rw [Sem.run_bind, run_underlying hu w]
      rfl
    simp only [List.length_cons, List.length_nil] at hl
    simp [loadVar, Sem.run_bind, hagg, sizeOf, typeInfo, hq, hs, hl]
theorem resultsF {fn : Func} {p u : Tmp} (h : fn.results = #[.cell p 26, .tmp u]) (tmps : Array Value) (w : World) (g : Nat) (a b c d : Value) (hp : tmps.getD p undef = .pointer (some ⟨g, 0, none⟩)) (t : Tk g a b c d w) :
    (results fn tmps).run Tryz.prog w = .ok (.tuple #[.agg #[a, b, c, d], tmps.getD u undef]) w := by
  rw [results_cell_tmp h tmps, hp]
  simp [asAddr, Result.andThen, loadF w g a b c d t]
def zfault : Value := .agg #[.int .i64 0, .int .i64 0, .int .i64 0, .string ⟨#[]⟩]
theorem as_turn (e t : Addr) (old : Value) (w : World) (hg : w.cell? ⟨0, 0, none⟩ = some (ty 33)) (ht : w.cell? t = some old) (hf : w.frozen? t = false) :
    Calls Tryz.prog 27 #[.iface 72 (.pointer (some e)), .iface 74 (.pointer (some t))] w fun ev w' => ev = .returned (.bool true) ∧ w'.cell? t = some (.pointer (some e)) ∧ Turn (fun k => k = t.block) w w' := by
  have htl := lt_of_cell ht
  have hz : 0 < w.heap.size := by omega
  refine (as_hit e t old w hg ht hf hz htl).mono ?_
  rintro ev w' ⟨rfl, rfl⟩
  refine ⟨rfl, by first | exact World.cell?_setCell_same _ _ _ ((asW_old e t t w htl).1.trans ht) | exact World.cell?_setCell_same _ _ ((asW_old e t t w htl).1.trans ht), ?_⟩
  unfold asW asW3 asW2
  exact (((((Turn.refl (fun k => k = t.block) w).alloc _).alloc _).alloc _).alloc _).setCell (p := t) (fun _ => rfl) _
theorem told_after {w w1 : World} {o1 o2 : Obj} (t : Turn (fun k => k = w.heap.size + 1) ((w.alloc o1).alloc o2) w1) :
    w1.heap[w.heap.size]? = some o1 ∧ w.heap.size + 2 ≤ w1.heap.size ∧ Turn (fun _ => False) w w1 := by
  refine ⟨?_, ?_, (((Turn.refl (fun _ => False) w).alloc _).alloc _).then t (fun i hi h => absurd (show i = w.heap.size + 1 from h) (by omega))⟩
  · rw [t.block w.heap.size (by simp; omega) (fun h => absurd (show w.heap.size = w.heap.size + 1 from h) (by omega))]
    exact (Below.heap_alloc _ _ _ (by simp)).trans (heap_alloc_new _ _)
  · have := t.size; simpa using this
theorem told_nil (w : World) : Calls Tryz.prog 14 #[.nilIface] w fun e w' => e = .returned (.tuple #[zfault, .bool true]) ∧ Below w.heap.size w w' := by
  have K : Tk w.heap.size (.int .i64 0) (.int .i64 0) (.int .i64 0) (.string ⟨#[]⟩) (w.alloc (.cells #[.int .i64 0, .int .i64 0, .int .i64 0, .string ⟨#[]⟩] 26)) := Tk.of_cells (heap_alloc_new _ _)
  go_enter Tryz.func14, Tryz.ntmps14
  go_wp2
  refine bodyPost_ret_by (resultsF rfl _ _ w.heap.size _ _ _ _ rfl K) rfl ?_
  exact ⟨rfl, (Below.refl _ _).alloc (Nat.le_refl _) _⟩
set_option maxHeartbeats 4000000 in
theorem told_flt (fb : Nat) (k l c : Int) (hk : (k == 0) = false) (word : ByteArray) (w : World) (hF : Flt fb k l c word w) (hg : w.cell? ⟨0, 0, none⟩ = some (ty 33)) :
    Calls Tryz.prog 14 #[.iface 72 (.pointer (some ⟨fb, 0, none⟩))] w fun e w' => e = .returned (.tuple #[.agg #[.int .i64 k, .int .i64 l, .int .i64 c, .string word], .bool true]) ∧ Below w.heap.size w w' := by
  have hfl : fb < w.heap.size := lt_of_cell (Tk.of_cells hF).c0
  have AH := hide' fun e t old w a b c => as_turn e t old w a b c
  have HG := hide' hg
  have HF := hide' hF
  clear hg hF
  go_enter Tryz.func14, Tryz.ntmps14
  go_wp2_with (go_at_call 27; go_loud (refine (AH.out _ _ (.pointer none) _ ((World.cell?_alloc_lt _ _ _ (Nat.lt_of_lt_of_le (lt_of_cell HG.out) (by simp))).trans ((World.cell?_alloc_lt _ _ _ (lt_of_cell HG.out)).trans HG.out)) (by simp) (by simp)).mono ?_; rintro e w1 ⟨rfl, ct, t1⟩; obtain ⟨h0, hz, tw⟩ := told_after t1; have k1 := (Tk.of_cells HF.out).turn tw (fun q => q); have kc0 := k1.c0; have kc1 := k1.c1; have kc2 := k1.c2; have kc3 := k1.c3; have K := hide' (And.intro (Tk.of_cells h0) tw); obtain ⟨z0, z1, z2, z3⟩ := K.out.1.frz; have g0 := K.out.1.c0; have g1 := K.out.1.c1; have g2 := K.out.1.c2; have g3 := K.out.1.c3; clear h0 k1 tw t1))
  refine bodyPost_ret_by (resultsF rfl _ _ w.heap.size _ _ _ _ rfl (K.out.1.set _ _ _ _)) rfl ?_
  exact ⟨rfl, (K.out.2.set4 (Nat.le_refl _) _ _ _ _).below (fun _ h => h.elim) (Nat.le_refl _)⟩
end Go.Proofs.YtppcofopnelgjaaGreatDoor
