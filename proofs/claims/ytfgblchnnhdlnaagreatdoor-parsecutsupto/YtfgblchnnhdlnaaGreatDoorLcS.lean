import Derived.Test.YtfgblchnnhdlnaaGreatDoorRows
import Derived.Test.YtfgblchnnhdlnaaGreatDoorLcM
import Derived.ProofKit
import Derived.Lay
set_option linter.unusedVariables false
namespace Go.Proofs.YtfgblchnnhdlnaaGreatDoor
open Go.RowKit
namespace Wit
theorem wit_shaped (os : Os) (args : Array Value) : ((wit os).forCall (fun _ _ => 0) ⟨#[], args, []⟩).Shaped Tryz.prog := World.shaped_of_ZipB (by kernel_rfl) (by kernel_rfl)
end Wit
end Go.Proofs.YtfgblchnnhdlnaaGreatDoor
