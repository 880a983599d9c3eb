import Derived.Test.YtppcofopnelgjaaGreatDoorRows
import Derived.Test.YtppcofopnelgjaaGreatDoorTie
import Derived.Test.YtppcofopnelgjaaGreatDoorCards
import Derived.Test.YtppcofopnelgjaaGreatDoorGrU
import Derived.ProofKit
import Derived.LaidMore
import Derived.LaidHandle
import Derived.LaidLaws
import Derived.MakeChecks
import Derived.Lay
import Derived.OpenShut
import Derived.ChangeOld
import Derived.JoinedCond
import Derived.Deep.Slices
import Derived.Stop.Joined
import Derived.SevenTiedAt
set_option linter.unusedVariables false
set_option linter.unusedSimpArgs false
namespace Go.Proofs.YtppcofopnelgjaaGreatDoor
open Go.ChangeShapes Go.WideShapes Go.ChangeAt Go.WideMaps Go.WideElems Go.RowKit
namespace parseFirst
theorem a10 : (Rows.parseFirstUptoRow.inPlace == Tryz.prog.inPlace 8) = true := by kernel_rfl
theorem a11 : (Rows.parseFirstUptoRow.unfollowed == Tryz.prog.unfollowed 8) = true := by kernel_rfl
theorem a12 : (Rows.parseFirstUptoRow.recurses == Tryz.prog.recurses 8) = true := by kernel_rfl
theorem a13 : (Rows.parseFirstUptoRow.named == Tryz.prog.varsNamed 8) = true := by kernel_rfl
theorem closed : joinedFacts Tryz.prog 8 Tryz.f8 (Rows.OpenSpec.upto Rows.parseFirstSpec).bare Rows.parseFirstUptoRow = true := by
  unfold joinedFacts
  rw [a10, a11, a12, a13]
  kernel_rfl
end parseFirst
end Go.Proofs.YtppcofopnelgjaaGreatDoor
