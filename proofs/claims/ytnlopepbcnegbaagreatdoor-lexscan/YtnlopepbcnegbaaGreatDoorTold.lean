import Derived.Test.YtnlopepbcnegbaaGreatDoorScn
import Derived.LaidEql
import Derived.Stop.Asserts
import Derived.RowKitTokens
set_option linter.unusedVariables false
set_option linter.unusedSimpArgs false
namespace Go.Proofs.YtnlopepbcnegbaaGreatDoor
open Go.RowKit Go.Extern.Stop Go.Stop Go.Extern
/-! errors.As with a fault, and with a variable of the fault's pointer for its target: what each entry of internal/reflectlite tells at these types (58: the pointer to a fault, 60: the pointer to such a pointer, 29: error, 107: reflectlite's type, 83: its value; a type's handle lies behind the six variables) -/
def hd (t : Nat) : Value := .pointer (some ⟨6, t, none⟩)
def ty (t : Nat) : Value := .iface 107 (.agg #[hd t])
def rv (t : Nat) (a : Addr) (fl : Int) : Value := .agg #[hd t, .pointer (some a), .int .u64 fl]
theorem rf_valueOf (t : Nat) (ht : t = 60 ∨ t = 58) (a : Addr) (w : World) : (ReflectliteValue.unpack (.iface t (.pointer (some a)))).run Tryz.prog w = .ok (rv t ⟨w.heap.size, 0, none⟩ 150) (w.alloc (.cells #[.pointer (some a)] t)) := by
  rcases ht with rfl | rfl <;> kernel_rfl
theorem rf_type (a : Addr) (w : World) : (ReflectliteValue.methodAny (ReflectliteValue.valueError "reflectlite.Value.Type" 0) (fun t _ _ _ => ReflectliteType.toType t) #[rv 60 a 150]).run Tryz.prog w = .ok (ty 60) w := by kernel_rfl
theorem rf_kind (t : Nat) (ht : t = 60 ∨ t = 58) (w : World) : ((ReflectliteType.abiMethod fun t => (fun a : Nat => Value.int IntKind.u8 (a : Int)) <$> Rtype.kind t) #[hd t]).run Tryz.prog w = .ok (.int .u8 22) w := by
  rcases ht with rfl | rfl <;> kernel_rfl
theorem rf_elem (w : World) : (ReflectliteType.method ReflectliteType.elem #[.agg #[hd 60]]).run Tryz.prog w = .ok (ty 58) w := by kernel_rfl
theorem rf_impl (w : World) : (ReflectliteType.relation "Implements" ReflectliteType.implements_ #[.agg #[hd 58], ty 29]).run Tryz.prog w = .ok (.bool true) w := by kernel_rfl
theorem rf_typeOf (v : Value) (w : World) : (ReflectliteType.typeOf #[.iface 58 v]).run Tryz.prog w = .ok (ty 58) w := by kernel_rfl
theorem rf_assign (w : World) : (ReflectliteType.relation "AssignableTo" ReflectliteType.assignableTo #[.agg #[hd 58], ty 58]).run Tryz.prog w = .ok (.bool true) w := by kernel_rfl
theorem rf_parts (t : Nat) (ht : t = 60 ∨ t = 58) (a : Addr) (w : World) : (ReflectliteValue.parts (rv t a 150)).run Tryz.prog w = .ok (some (t, a, 150)) w := by
  rcases ht with rfl | rfl <;> kernel_rfl
theorem rf_partsA (a : Addr) (w : World) : (ReflectliteValue.parts (rv 58 a 406)).run Tryz.prog w = .ok (some (58, a, 406)) w := by kernel_rfl
theorem rf_isNil (a p : Addr) (W : World) (ha : W.cell? a = some (.pointer (some p))) :
    (ReflectliteValue.method (ReflectliteValue.valueError "reflectlite.Value.IsNil" 0) ReflectliteValue.isNil #[rv 60 a 150]).run Tryz.prog W = .ok (.bool false) W := by
  show (do match ← ReflectliteValue.parts (rv 60 a 150) with | none => _ | some (t, a, fl) => ReflectliteValue.isNil t a fl (fl % 32)).run Tryz.prog W = _
  simp only [Sem.run_bind, rf_parts 60 (Or.inl rfl), Result.andThen]
  simp [ReflectliteValue.isNil, loadVar, isAgg, underlying, Tryz.underlying60, ha, Result.andThen]
theorem rf_elemOf (w : World) : (Rtype.elem? 60).run Tryz.prog w = .ok (some 58) w := by kernel_rfl
theorem rf_mk (p : Addr) (w : World) : (ReflectliteValue.mk 58 p ReflectliteValue.flagAddr).run Tryz.prog w = .ok (rv 58 p 406) w := by kernel_rfl
theorem rf_elemV (a p : Addr) (W : World) (ha : W.cell? a = some (.pointer (some p))) :
    (ReflectliteValue.method (ReflectliteValue.valueError "reflectlite.Value.Elem" 0) ReflectliteValue.elem #[rv 60 a 150]).run Tryz.prog W = .ok (rv 58 p 406) W := by
  show (do match ← ReflectliteValue.parts (rv 60 a 150) with | none => _ | some (t, a, fl) => ReflectliteValue.elem t a fl (fl % 32)).run Tryz.prog W = _
  simp only [Sem.run_bind, rf_parts 60 (Or.inl rfl), Result.andThen]
  simp [ReflectliteValue.elem, loadVar, isAgg, underlying, Tryz.underlying60, ha, Result.andThen, rf_elemOf, rf_mk]
theorem rf_direct (w : World) : (Rtype.directlyAssignable 58 58).run Tryz.prog w = .ok true w := by kernel_rfl
theorem rf_size (w : World) : (sizeOf 58).run Tryz.prog w = .ok 1 w := by kernel_rfl
end Go.Proofs.YtnlopepbcnegbaaGreatDoor
