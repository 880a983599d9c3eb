import Derived.Test.YtppcofopnelgjaaGreatDoorRows
import Derived.Test.YtppcofopnelgjaaGreatDoorTie
import Derived.Test.YtppcofopnelgjaaGreatDoorCards
import Derived.Test.YtppcofopnelgjaaGreatDoorFsN
import Derived.Test.YtppcofopnelgjaaGreatDoorFsO
import Derived.Test.YtppcofopnelgjaaGreatDoorGrU
import Derived.ProofKit
import Derived.LaidMore
import Derived.LaidHandle
import Derived.LaidLaws
import Derived.MakeChecks
import Derived.Lay
import Derived.OpenShut
import Derived.ChangeOld
import Derived.JoinedCond
import Derived.Deep.Slices
import Derived.Stop.Joined
import Derived.SevenTiedAt
set_option linter.unusedVariables false
set_option linter.unusedSimpArgs false
namespace Go.Proofs.YtppcofopnelgjaaGreatDoor
open Go.ChangeShapes Go.WideShapes Go.ChangeAt Go.WideMaps Go.WideElems Go.RowKit
namespace parseFirst
theorem row : Rows.ParseFirstUptoSaid :=
  OpenClaim.holds_of_cond 8 Tryz.f8 rfl rfl rfl rfl rfl rfl rfl ⟨rfl, rfl, rfl, rfl, rfl⟩ rfl rfl rfl rfl rfl (by kernel_rfl) Tryz.func8 closed
    (of_decide_eq_true (by kernel_rfl)) (by unfold Func.isWrapper; first | (rw [if_pos (by decide +kernel)]; kernel_rfl) | (rw [if_neg (by decide +kernel)]; exact ⟨rfl, rfl⟩))
    (fun os started H enc _ F => lifted os started H enc F)
end parseFirst

theorem parseFirst_holds : Rows.ParseFirstUptoCardSaid :=
  Claim7.holds_tied_plain_at .later [] _ _ _ _
    parseFirst.row (fun _ h => by cases h) (by kernel_rfl) (fun _ h => by cases h) parseFirstUpto_row_tie rfl ⟨rfl, rfl⟩ (by kernel_rfl) rfl
    (fun f fn hf hfn => by
      have hname : Tryz.prog.funcNamed Rows.parseFirstUptoRow.func = some 8 := by kernel_rfl
      obtain rfl : f = 8 := Option.some.inj (hname.symm.trans hf) |>.symm
      obtain rfl : fn = Tryz.f8 := (Option.some.inj (Tryz.func8.symm.trans hfn)).symm
      exact ⟨by kernel_rfl, fun j t ht => by
        rw [Tryz.params8] at ht
        have hm : t ∈ [40] := by simpa using Array.mem_of_getElem? ht
        have hall : ([40].all fun u => !Tryz.prog.wantsStandIn u) = true := by kernel_rfl
        exact (show Tryz.prog.wantsStandIn t = false by simpa using List.all_eq_true.1 hall t hm)⟩)
    (by kernel_rfl)
#print axioms parseFirst_holds
end Go.Proofs.YtppcofopnelgjaaGreatDoor
