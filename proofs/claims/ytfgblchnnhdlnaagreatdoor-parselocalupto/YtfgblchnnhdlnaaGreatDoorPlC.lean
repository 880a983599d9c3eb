import Derived.Test.YtfgblchnnhdlnaaGreatDoorRows
import Derived.Test.YtfgblchnnhdlnaaGreatDoorTie
import Derived.Test.YtfgblchnnhdlnaaGreatDoorCards
import Derived.Test.YtfgblchnnhdlnaaGreatDoorGrU
import Derived.ProofKit
import Derived.LaidMore
import Derived.LaidHandle
import Derived.LaidLaws
import Derived.MakeChecks
import Derived.Lay
import Derived.OpenShut
import Derived.ChangeOld
import Derived.JoinedCond
import Derived.Deep.Slices
import Derived.Stop.Joined
import Derived.SevenTiedAt
set_option linter.unusedVariables false
set_option linter.unusedSimpArgs false
namespace Go.Proofs.YtfgblchnnhdlnaaGreatDoor
open Go.ChangeShapes Go.WideShapes Go.ChangeAt Go.WideMaps Go.WideElems Go.RowKit
namespace parseLocal
theorem a10 : (Rows.parseLocalUptoRow.inPlace == Tryz.prog.inPlace 9) = true := by kernel_rfl
theorem a11 : (Rows.parseLocalUptoRow.unfollowed == Tryz.prog.unfollowed 9) = true := by kernel_rfl
theorem a12 : (Rows.parseLocalUptoRow.recurses == Tryz.prog.recurses 9) = true := by kernel_rfl
theorem a13 : (Rows.parseLocalUptoRow.named == Tryz.prog.varsNamed 9) = true := by kernel_rfl
theorem closed : joinedFacts Tryz.prog 9 Tryz.f9 (Rows.OpenSpec.upto Rows.parseLocalSpec).bare Rows.parseLocalUptoRow = true := by
  unfold joinedFacts
  rw [a10, a11, a12, a13]
  kernel_rfl
end parseLocal
end Go.Proofs.YtfgblchnnhdlnaaGreatDoor
