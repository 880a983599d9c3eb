import Derived.Test.YtfgblchnnhdlnaaGreatDoorRows
import Derived.Test.YtfgblchnnhdlnaaGreatDoorTie
import Derived.Test.YtfgblchnnhdlnaaGreatDoorCards
import Derived.Test.YtfgblchnnhdlnaaGreatDoorGrU
import Derived.ProofKit
import Derived.LaidMore
import Derived.LaidHandle
import Derived.LaidLaws
import Derived.MakeChecks
import Derived.Lay
import Derived.OpenShut
import Derived.ChangeOld
import Derived.JoinedCond
import Derived.Deep.Slices
import Derived.Stop.Joined
import Derived.SevenTiedAt
set_option linter.unusedVariables false
set_option linter.unusedSimpArgs false
namespace Go.Proofs.YtfgblchnnhdlnaaGreatDoor
open Go.ChangeShapes Go.WideShapes Go.ChangeAt Go.WideMaps Go.WideElems Go.RowKit
namespace parseCuts
theorem a10 : (Rows.parseCutsUptoRow.inPlace == Tryz.prog.inPlace 7) = true := by kernel_rfl
theorem a11 : (Rows.parseCutsUptoRow.unfollowed == Tryz.prog.unfollowed 7) = true := by kernel_rfl
theorem a12 : (Rows.parseCutsUptoRow.recurses == Tryz.prog.recurses 7) = true := by kernel_rfl
theorem a13 : (Rows.parseCutsUptoRow.named == Tryz.prog.varsNamed 7) = true := by kernel_rfl
theorem closed : joinedFacts Tryz.prog 7 Tryz.f7 (Rows.OpenSpec.upto Rows.parseCutsSpec).bare Rows.parseCutsUptoRow = true := by
  unfold joinedFacts
  rw [a10, a11, a12, a13]
  kernel_rfl
end parseCuts
end Go.Proofs.YtfgblchnnhdlnaaGreatDoor
