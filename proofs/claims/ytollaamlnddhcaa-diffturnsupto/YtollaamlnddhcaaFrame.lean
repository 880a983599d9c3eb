import Derived.Test.YtollaamlnddhcaaRows
import Derived.Test.YtollaamlnddhcaaProg
import Derived.WalkKit
import Derived.ProofKit
import Derived.OpenShut
import Derived.ChangeOld
import Derived.ChangeSlices
import Derived.Below
set_option linter.unusedVariables false
namespace Go.Proofs.Ytollaamlnddhcaa
open Go.ChangeShapes Go.WideShapes Go.ChangeAt Go.RowKit
theorem own : ownKnob Try.prog.godebug = none := by kernel_rfl
theorem laidOut : laidOutB Try.prog = true := by kernel_rfl
theorem bulk_lits {H : Type} (k : IntKind) : ∀ zs : List Int, Rows.uptoBulkAll (lits (H := H) k zs) = zs.length := by
  intro zs
  induction zs with
  | nil => rfl
  | cons a r ih => simp [lits, Rows.uptoBulkAll, Rows.uptoBulk] at ih ⊢; omega
end Go.Proofs.Ytollaamlnddhcaa
