import Derived.Test.YtfgblchnnhdlnaaGreatDoorRows
import Derived.Test.YtfgblchnnhdlnaaGreatDoorTie
import Derived.Test.YtfgblchnnhdlnaaGreatDoorCards
import Derived.Test.YtfgblchnnhdlnaaGreatDoorPcA
import Derived.Test.YtfgblchnnhdlnaaGreatDoorLcS
import Derived.Test.YtfgblchnnhdlnaaGreatDoorGrU
import Derived.ProofKit
import Derived.LaidMore
import Derived.LaidHandle
import Derived.LaidLaws
import Derived.MakeChecks
import Derived.Lay
import Derived.OpenShut
import Derived.ChangeOld
import Derived.JoinedCond
import Derived.Deep.Slices
import Derived.Stop.Joined
import Derived.SevenTiedAt
set_option linter.unusedVariables false
set_option linter.unusedSimpArgs false
namespace Go.Proofs.YtfgblchnnhdlnaaGreatDoor
open Go.ChangeShapes Go.WideShapes Go.ChangeAt Go.WideMaps Go.WideElems Go.RowKit
namespace parseCuts
open Wit
theorem wit_met (os : Os) (args : Array Value) : laidMetH Tryz.prog Rows.parseCutsUptoRow.laid ((wit os).forCall (fun _ _ => 0) ⟨#[], args, []⟩).memory := by
  refine laidMetH_of_parts ?_ ?_
  · rw [plain_is]; exact (wit_plain os).of_heap (by simp [World.memory, World.forCall, Input.heap])
  · rw [hand_is]; kernel_rfl
set_option maxRecDepth 100000 in
theorem lifted (os : Os) (started : os.Started) (H : Type) (enc : TypeId × Value → H) (F : Stop.Interp) :
    ReturnsInHanded {} Tryz.checked os 7 .any ((Rows.OpenSpec.upto Rows.parseCutsSpec).preRow enc Tryz.prog Tryz.f7 [] false Rows.parseCutsUptoRow.laid) (((Rows.OpenSpec.upto Rows.parseCutsSpec).at F).post enc Tryz.prog Tryz.f7 false true false false) := by
  have hk : (Rows.OpenSpec.upto Rows.parseCutsSpec).cond = some Rows.uptoSmall := rfl
  have hok : Input.okWideB Tryz.prog ((wit os).forCall (fun _ _ => 0) ⟨#[], #[.slice none 0 0, .int .i64 0, .bool false, .int .i64 0, .int .i64 0], []⟩) 7 ⟨#[], #[.slice none 0 0, .int .i64 0, .bool false, .int .i64 0, .int .i64 0], []⟩ = true := by kernel_rfl
  refine returnsInHanded_of_calls own started (by kernel_rfl)
    ⟨wit os, fun _ _ => 0, ⟨#[], #[.slice none 0 0, .int .i64 0, .bool false, .int .i64 0, .int .i64 0], []⟩, wit_os os, wit_shaped os _, (Input.okWide_of_okWideB (base := 0) hok).1, (Input.okWide_of_okWideB hok).2,
      OpenSpec.preRow_of_cond 8 (x := ([.nil, .lit (.int .i64 0), .lit (.bool false), .lit (.int .i64 0), .lit (.int .i64 0)], [], [])) (by kernel_rfl) rfl (fun k hk' => by rw [hk] at hk'; cases hk'; kernel_rfl) (by kernel_rfl)
        (wit_met os _),
      by simp only [Assume.holds]; exact ⟨by simp, by simp, fun _ => Modest.zero, by simp, by simp⟩⟩ ?_
  intro w tape i _ _ _ hok hpre hholds
  obtain ⟨_, _, _, fn', hfn', _, _, _, _, hval⟩ := hok
  have e : fn' = Tryz.f7 := Option.some.inj (hfn'.symm.trans Tryz.func7)
  subst e
  obtain ⟨⟨hp, hx⟩, hz⟩ := hpre
  obtain ⟨ds, gs, before, hw, hc, hkk⟩ := (OpenSpec.pre_some hk _ _ _ _).1 hp
  have hw' := DataW.Whole.of_heap (w' := w.forCall tape i) (by rfl) hw
  refine (contract H enc (w.forCall tape i) w.heap.size i.args ds gs before hval hw' hkk (hx.of_heap (by rfl))).mono fun e W' ⟨v, he, hp⟩ => ?_
  subst he
  exact ChangeSpec.post_blind hp

end parseCuts
end Go.Proofs.YtfgblchnnhdlnaaGreatDoor
