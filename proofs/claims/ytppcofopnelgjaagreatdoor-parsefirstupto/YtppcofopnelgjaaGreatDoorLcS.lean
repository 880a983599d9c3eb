import Derived.Test.YtppcofopnelgjaaGreatDoorRows
import Derived.Test.YtppcofopnelgjaaGreatDoorLcM
import Derived.ProofKit
import Derived.Lay
set_option linter.unusedVariables false
namespace Go.Proofs.YtppcofopnelgjaaGreatDoor
open Go.RowKit
namespace Wit
theorem wit_shaped (os : Os) (args : Array Value) : ((wit os).forCall (fun _ _ => 0) ⟨#[], args, []⟩).Shaped Tryz.prog := World.shaped_of_ZipB (by kernel_rfl) (by kernel_rfl)
end Wit
end Go.Proofs.YtppcofopnelgjaaGreatDoor
