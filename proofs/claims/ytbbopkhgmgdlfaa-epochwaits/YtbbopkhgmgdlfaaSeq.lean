import Derived.Test.YtbbopkhgmgdlfaaMem
import Derived.Laws.StructEq
set_option linter.unusedVariables false
set_option linter.unusedSimpArgs false
namespace Go.Proofs.Ytbbopkhgmgdlfaa
open Go.RowKit
namespace M
theorem fof : Try.prog.underlying 75 = some (.struct (Try.prog.fieldsOf 75)) := by kernel_rfl
theorem hld : Try.prog.stoodInHeld 75 = false := by kernel_rfl
theorem grd : Try.prog.eqGuardType Try.prog.depth 75 = false := by kernel_rfl
set_option maxRecDepth 100000 in
theorem flds (d : Nat) (a b c e : Int) (g : Bool) (w : World) : (Op.eqFields (d + 1) #[.int .i8 a, .int .i64 b, .int .i64 c, .int .i64 e, .bool g] #[.int .i8 a, .int .i64 b, .int .i64 c, .int .i64 e, .bool g] (Try.prog.fieldsOf 75).toList).run Try.prog w = .ok true w := by
  have h1 : (Try.prog.fieldsOf 75) = (match Try.prog.underlying 75 with | some (.struct fs) => fs | _ => #[]) := rfl
  rw [h1, Try.underlying75]
  simp [Op.eqFields, go_sem, Try.underlying3, Try.underlying4, Try.underlying73]
theorem struct_eq (a b c d : Int) (e : Bool) (w : World) : (binOp .eql 75 (.agg #[.int .i8 a, .int .i64 b, .int .i64 c, .int .i64 d, .bool e]) (.agg #[.int .i8 a, .int .i64 b, .int .i64 c, .int .i64 d, .bool e])).run Try.prog w = .ok (.bool true) w := by
  rw [run_eql_struct]
  have := run_equalIn_agg (P := Try.prog) w 9999 75 #[.int .i8 a, .int .i64 b, .int .i64 c, .int .i64 d, .bool e] #[.int .i8 a, .int .i64 b, .int .i64 c, .int .i64 d, .bool e] fof hld
  rw [show (10000 : Nat) = 9999 + 1 from rfl, this, show (9999 : Nat) = 9998 + 1 from rfl, flds]
  rfl
theorem struct_ne (a b c d : Int) (e : Bool) (w : World) : (binOp .neq 75 (.agg #[.int .i8 a, .int .i64 b, .int .i64 c, .int .i64 d, .bool e]) (.agg #[.int .i8 a, .int .i64 b, .int .i64 c, .int .i64 d, .bool e])).run Try.prog w = .ok (.bool false) w := by
  rw [run_neq_struct]
  have := run_equalIn_agg (P := Try.prog) w 9999 75 #[.int .i8 a, .int .i64 b, .int .i64 c, .int .i64 d, .bool e] #[.int .i8 a, .int .i64 b, .int .i64 c, .int .i64 d, .bool e] fof hld
  rw [show (10000 : Nat) = 9999 + 1 from rfl, this, show (9999 : Nat) = 9998 + 1 from rfl, flds]
  rfl
end M
end Go.Proofs.Ytbbopkhgmgdlfaa
