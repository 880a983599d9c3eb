import Derived.Test.YtfgblchnnhdlnaaGreatDoorRows
import Derived.Test.YtfgblchnnhdlnaaGreatDoorTie
import Derived.Test.YtfgblchnnhdlnaaGreatDoorCards
import Derived.Test.YtfgblchnnhdlnaaGreatDoorPcB
import Derived.Test.YtfgblchnnhdlnaaGreatDoorPcC
import Derived.Test.YtfgblchnnhdlnaaGreatDoorGrU
import Derived.ProofKit
import Derived.LaidMore
import Derived.LaidHandle
import Derived.LaidLaws
import Derived.MakeChecks
import Derived.Lay
import Derived.OpenShut
import Derived.ChangeOld
import Derived.JoinedCond
import Derived.Deep.Slices
import Derived.Stop.Joined
import Derived.SevenTiedAt
set_option linter.unusedVariables false
set_option linter.unusedSimpArgs false
namespace Go.Proofs.YtfgblchnnhdlnaaGreatDoor
open Go.ChangeShapes Go.WideShapes Go.ChangeAt Go.WideMaps Go.WideElems Go.RowKit
namespace parseCuts
theorem row : Rows.ParseCutsUptoSaid :=
  OpenClaim.holds_of_cond 7 Tryz.f7 rfl rfl rfl rfl rfl rfl rfl ⟨rfl, rfl, rfl, rfl, rfl⟩ rfl rfl rfl rfl rfl (by kernel_rfl) Tryz.func7 closed
    (of_decide_eq_true (by kernel_rfl)) (by unfold Func.isWrapper; first | (rw [if_pos (by decide +kernel)]; kernel_rfl) | (rw [if_neg (by decide +kernel)]; exact ⟨rfl, rfl⟩))
    (fun os started H enc _ F => lifted os started H enc F)
end parseCuts

theorem parseCuts_holds : Rows.ParseCutsUptoCardSaid :=
  Claim7.holds_tied_plain_at .later [] _ _ _ _
    parseCuts.row (fun _ h => by cases h) (by kernel_rfl) (fun _ h => by cases h) parseCutsUpto_row_tie rfl ⟨rfl, rfl⟩ (by kernel_rfl) rfl
    (fun f fn hf hfn => by
      have hname : Tryz.prog.funcNamed Rows.parseCutsUptoRow.func = some 7 := by kernel_rfl
      obtain rfl : f = 7 := Option.some.inj (hname.symm.trans hf) |>.symm
      obtain rfl : fn = Tryz.f7 := (Option.some.inj (Tryz.func7.symm.trans hfn)).symm
      exact ⟨by kernel_rfl, fun j t ht => by
        rw [Tryz.params7] at ht
        have hm : t ∈ [48, 3, 4, 3, 3] := by simpa using Array.mem_of_getElem? ht
        have hall : ([48, 3, 4, 3, 3].all fun u => !Tryz.prog.wantsStandIn u) = true := by kernel_rfl
        exact (show Tryz.prog.wantsStandIn t = false by simpa using List.all_eq_true.1 hall t hm)⟩)
    (by kernel_rfl)
#print axioms parseCuts_holds
end Go.Proofs.YtfgblchnnhdlnaaGreatDoor
