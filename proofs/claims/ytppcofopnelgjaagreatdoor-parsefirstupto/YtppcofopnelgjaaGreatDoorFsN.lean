import Derived.Test.YtppcofopnelgjaaGreatDoorRows
import Derived.Test.YtppcofopnelgjaaGreatDoorTie
import Derived.Test.YtppcofopnelgjaaGreatDoorCards
import Derived.Test.YtppcofopnelgjaaGreatDoorLcS
import Derived.Test.YtppcofopnelgjaaGreatDoorFsM
import Derived.Test.YtppcofopnelgjaaGreatDoorGrU
import Derived.ProofKit
import Derived.LaidMore
import Derived.LaidHandle
import Derived.LaidLaws
import Derived.MakeChecks
import Derived.Lay
import Derived.OpenShut
import Derived.ChangeOld
import Derived.JoinedCond
import Derived.Deep.Slices
import Derived.Stop.Joined
import Derived.SevenTiedAt
set_option linter.unusedVariables false
set_option linter.unusedSimpArgs false
namespace Go.Proofs.YtppcofopnelgjaaGreatDoor
open Go.ChangeShapes Go.WideShapes Go.ChangeAt Go.WideMaps Go.WideElems Go.RowKit
namespace parseFirst
open Wit
theorem wit_met (os : Os) (args : Array Value) : laidMetH Tryz.prog Rows.parseFirstUptoRow.laid ((wit os).forCall (fun _ _ => 0) ⟨#[], args, []⟩).memory := by
  refine laidMetH_of_parts ?_ ?_
  · rw [plain_is]; exact (wit_plain os).of_heap (by simp [World.memory, World.forCall, Input.heap])
  · rw [hand_is]; kernel_rfl
set_option maxRecDepth 100000 in
theorem lifted (os : Os) (started : os.Started) (H : Type) (enc : TypeId × Value → H) (F : Stop.Interp) :
    ReturnsInHanded {} Tryz.checked os 8 .any ((Rows.OpenSpec.upto Rows.parseFirstSpec).preRow enc Tryz.prog Tryz.f8 [] false Rows.parseFirstUptoRow.laid) (((Rows.OpenSpec.upto Rows.parseFirstSpec).at F).post enc Tryz.prog Tryz.f8 false true false false) := by
  have hk : (Rows.OpenSpec.upto Rows.parseFirstSpec).cond = some Rows.uptoSmall := rfl
  have hok : Input.okWideB Tryz.prog ((wit os).forCall (fun _ _ => 0) ⟨#[], #[.slice none 0 0], []⟩) 8 ⟨#[], #[.slice none 0 0], []⟩ = true := by kernel_rfl
  refine returnsInHanded_of_calls own started (by kernel_rfl)
    ⟨wit os, fun _ _ => 0, ⟨#[], #[.slice none 0 0], []⟩, wit_os os, wit_shaped os _, (Input.okWide_of_okWideB (base := 0) hok).1, (Input.okWide_of_okWideB hok).2,
      OpenSpec.preRow_of_cond 8 (x := ([.nil], [], [])) (by kernel_rfl) rfl (fun k hk' => by rw [hk] at hk'; cases hk'; kernel_rfl) (by kernel_rfl)
        (wit_met os _),
      by simp only [Assume.holds]; exact ⟨by simp, by simp, fun _ => Modest.zero, by simp, by simp⟩⟩ ?_
  intro w tape i _ _ _ hok hpre hholds
  obtain ⟨_, _, _, fn', hfn', _, _, _, _, hval⟩ := hok
  have e : fn' = Tryz.f8 := Option.some.inj (hfn'.symm.trans Tryz.func8)
  subst e
  obtain ⟨⟨hp, hx⟩, hz⟩ := hpre
  obtain ⟨ds, gs, before, hw, hc, hkk⟩ := (OpenSpec.pre_some hk _ _ _ _).1 hp
  have hw' := DataW.Whole.of_heap (w' := w.forCall tape i) (by rfl) hw
  refine (contract H enc (w.forCall tape i) w.heap.size i.args ds gs before hval hw' hkk (hx.of_heap (by rfl))).mono fun e W' ⟨v, he, hp⟩ => ?_
  subst he
  exact ChangeSpec.post_blind hp

end parseFirst
end Go.Proofs.YtppcofopnelgjaaGreatDoor
