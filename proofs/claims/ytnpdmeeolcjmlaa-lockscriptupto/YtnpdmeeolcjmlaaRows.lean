/-
  No cell of these rows narrows 'for every input' (looked for: loops, veiled, ifaces, maps, wideKeys, modest, calm, conditions, laid).
  DERIVED. THE GIVEN ROWS OF THIS SEAT. 5 by the template 'for every input the law returns true; each argument reads behind the call as it read before'; 0 by the template 'total and deterministic' (their statements: YtnpdmeeolcjmlaaTotals.lean).
  GIVEN WITH THE SEED: the statements are not yours to turn. If you find one false, say at which input.
  Laid BY PROGRAM, IN A SANDBOX (cutbox-rows.mjs): the forced cells as the released guide's own fill.sh prints them over the translation dc830edd71101c40… (all of the seat's roots in one cut). By AI agents, Wed Nov 11 2026. No macro, syntax, notation, axiom, sorry.
-/
import Derived.Test.YtnpdmeeolcjmlaaChecked
import GoSem.Claim
import GoSem.ClaimJoined
import GoSem.ClaimMapViews
import Derived.JoinedTies
import Derived.KernelRfl
namespace Go.Proofs.Ytnpdmeeolcjmlaa
/- THE CELL 'sum', in the pinned program and in every row, IS THE sha256 OF THE DUMP (.gsa) THAT YtnpdmeeolcjmlaaProg.lean LOADS. Nothing in Lean hashes anything: it is a label: what it is worth is what the hold of that sum in a sandbox is worth. -/
noncomputable def Try.pinned : Pinned := { name := "ytnpdmeeolcjmlaa", sum := "dc830edd71101c4058f0f23e09f4f2ef911e9b11d72925820248b45180b1c3d7", checked := Try.checked }
namespace Rows
def none {H : Type} : Left H := { results := [], args := [] }

/-- 'gatehouselaw17.LockNames': WHATEVER THE INPUT: true; the input reads as it did. -/
def lockNamesSpec : ChangeSpec := { name := "lockNames", fn := fun _ => fun
  | [] => { results := [.lit (.bool true)], args := [] }
  | _ => none }
def lockNamesRow : OpenClaim := { program := "ytnpdmeeolcjmlaa", sum := "dc830edd71101c4058f0f23e09f4f2ef911e9b11d72925820248b45180b1c3d7", func := "gatehouse/gatehouselaw17.LockNames", spec := "lockNames", apart := false }
def LockNamesSaid : Prop := lockNamesRow.holds Try.pinned (OpenSpec.ofChange lockNamesSpec)

/-- ITS FALSE NEIGHBOUR: 'it returns false'. Refute it at one input. -/
def lockNamesWrong : ChangeSpec := { name := "lockNames", fn := fun _ => fun
  | [] => { results := [.lit (.bool false)], args := [] }
  | _ => none }
def LockNamesWrongFalsely : Prop := lockNamesRow.holds Try.pinned (OpenSpec.ofChange lockNamesWrong)

/-- 'gatehouselaw17.LockNew': WHATEVER THE INPUT: true; the input reads as it did. -/
def lockNewSpec : ChangeSpec := { name := "lockNew", fn := fun _ => fun
  | [d1, d2, d3] => { results := [.lit (.bool true)], args := [d1, d2, d3] }
  | _ => none }
def lockNewRow : OpenClaim := { program := "ytnpdmeeolcjmlaa", sum := "dc830edd71101c4058f0f23e09f4f2ef911e9b11d72925820248b45180b1c3d7", func := "gatehouse/gatehouselaw17.LockNew", spec := "lockNew", apart := false }
def LockNewSaid : Prop := lockNewRow.holds Try.pinned (OpenSpec.ofChange lockNewSpec)

/-- ITS FALSE NEIGHBOUR: 'it returns false'. Refute it at one input. -/
def lockNewWrong : ChangeSpec := { name := "lockNew", fn := fun _ => fun
  | [d1, d2, d3] => { results := [.lit (.bool false)], args := [d1, d2, d3] }
  | _ => none }
def LockNewWrongFalsely : Prop := lockNewRow.holds Try.pinned (OpenSpec.ofChange lockNewWrong)

/-- 'gatehouselaw17.LockScript': WHATEVER THE INPUT: true; the input reads as it did. -/
def lockScriptSpec : ChangeSpec := { name := "lockScript", fn := fun _ => fun
  | [d1, d2, d3, d4] => { results := [.lit (.bool true)], args := [d1, d2, d3, d4] }
  | _ => none }
def lockScriptRow : OpenClaim := { program := "ytnpdmeeolcjmlaa", sum := "dc830edd71101c4058f0f23e09f4f2ef911e9b11d72925820248b45180b1c3d7", func := "gatehouse/gatehouselaw17.LockScript", spec := "lockScript", unfollowed := true, recurses := true, apart := false }
def LockScriptSaid : Prop := lockScriptRow.holds Try.pinned (OpenSpec.ofChange lockScriptSpec)

/-- ITS FALSE NEIGHBOUR: 'it returns false'. Refute it at one input. -/
def lockScriptWrong : ChangeSpec := { name := "lockScript", fn := fun _ => fun
  | [d1, d2, d3, d4] => { results := [.lit (.bool false)], args := [d1, d2, d3, d4] }
  | _ => none }
def LockScriptWrongFalsely : Prop := lockScriptRow.holds Try.pinned (OpenSpec.ofChange lockScriptWrong)

/-- 'gatehouselaw17.LockTurns': WHATEVER THE INPUT: true; the input reads as it did. -/
def lockTurnsSpec : ChangeSpec := { name := "lockTurns", fn := fun _ => fun
  | [d1, d2, d3, d4] => { results := [.lit (.bool true)], args := [d1, d2, d3, d4] }
  | _ => none }
def lockTurnsRow : OpenClaim := { program := "ytnpdmeeolcjmlaa", sum := "dc830edd71101c4058f0f23e09f4f2ef911e9b11d72925820248b45180b1c3d7", func := "gatehouse/gatehouselaw17.LockTurns", spec := "lockTurns", unfollowed := true, recurses := true, apart := false }
def LockTurnsSaid : Prop := lockTurnsRow.holds Try.pinned (OpenSpec.ofChange lockTurnsSpec)

/-- ITS FALSE NEIGHBOUR: 'it returns false'. Refute it at one input. -/
def lockTurnsWrong : ChangeSpec := { name := "lockTurns", fn := fun _ => fun
  | [d1, d2, d3, d4] => { results := [.lit (.bool false)], args := [d1, d2, d3, d4] }
  | _ => none }
def LockTurnsWrongFalsely : Prop := lockTurnsRow.holds Try.pinned (OpenSpec.ofChange lockTurnsWrong)

/-- 'gatehouselaw17.LockSteps': WHATEVER THE INPUT: true; the input reads as it did. -/
def lockStepsSpec : ChangeSpec := { name := "lockSteps", fn := fun _ => fun
  | [d1, d2, d3] => { results := [.lit (.bool true)], args := [d1, d2, d3] }
  | _ => none }
def lockStepsRow : OpenClaim := { program := "ytnpdmeeolcjmlaa", sum := "dc830edd71101c4058f0f23e09f4f2ef911e9b11d72925820248b45180b1c3d7", func := "gatehouse/gatehouselaw17.LockSteps", spec := "lockSteps", unfollowed := true, recurses := true, apart := false }
def LockStepsSaid : Prop := lockStepsRow.holds Try.pinned (OpenSpec.ofChange lockStepsSpec)

/-- ITS FALSE NEIGHBOUR: 'it returns false'. Refute it at one input. -/
def lockStepsWrong : ChangeSpec := { name := "lockSteps", fn := fun _ => fun
  | [d1, d2, d3] => { results := [.lit (.bool false)], args := [d1, d2, d3] }
  | _ => none }
def LockStepsWrongFalsely : Prop := lockStepsRow.holds Try.pinned (OpenSpec.ofChange lockStepsWrong)

/- THE SECOND FORM. 'bulk': how many values and letters a reading holds, each counted each time it is reached (what is shared counts as often as it is met; a slice's spare places count too). A statement '..UptoSaid' is the law's where the arguments, and the package variables that the reading takes, are together of bulk at most 1048576: NARROWER than '..Said'. Prove '..Said' where nothing that the law and all that it calls make is longer than what came in: it says more and counts as full. Else prove '..UptoSaid'. A law counts once. -/
mutual
def uptoBulk {H : Type} : DataW H → Nat
  | .lit (.string bytes) => bytes.length + 1
  | .lit _ => 1
  | .nil => 1
  | .ptr d => uptoBulk d + 1
  | .slice elems spare => uptoBulkAll elems + uptoBulkAll spare + 1
  | .agg parts => uptoBulkAll parts + 1
  | .iface _ d => uptoBulk d + 1
  | .map entries => uptoBulkEntries entries + 1
  | .held _ => 1
def uptoBulkAll {H : Type} : List (DataW H) → Nat
  | [] => 0
  | d :: r => uptoBulk d + uptoBulkAll r
def uptoBulkEntries {H : Type} : List (Lit × DataW H) → Nat
  | [] => 0
  | x :: r => uptoBulkEntry x + uptoBulkEntries r
def uptoBulkEntry {H : Type} : Lit × DataW H → Nat
  | (.string bytes, d) => bytes.length + uptoBulk d + 1
  | (_, d) => uptoBulk d + 1
 end
def uptoSmall : (H : Type) → List (DataW H) → Bool := fun _ ds => decide (uptoBulkAll ds ≤ 1048576)
def OpenSpec.upto (s : _root_.Go.ChangeSpec) : _root_.Go.OpenSpec := { _root_.Go.OpenSpec.ofChange s with cond := some uptoSmall }

/-- 'gatehouselaw17.LockNames', WHERE WHAT IT READS IS OF BULK AT MOST 1048576: true; the input reads as it did. -/
def lockNamesUptoRow : OpenClaim := { program := "ytnpdmeeolcjmlaa", sum := "dc830edd71101c4058f0f23e09f4f2ef911e9b11d72925820248b45180b1c3d7", func := "gatehouse/gatehouselaw17.LockNames", spec := "lockNames", apart := false, narrowed := true }
def LockNamesUptoSaid : Prop := lockNamesUptoRow.holds Try.pinned (OpenSpec.upto lockNamesSpec)

/-- 'gatehouselaw17.LockNew', WHERE WHAT IT READS IS OF BULK AT MOST 1048576: true; the input reads as it did. -/
def lockNewUptoRow : OpenClaim := { program := "ytnpdmeeolcjmlaa", sum := "dc830edd71101c4058f0f23e09f4f2ef911e9b11d72925820248b45180b1c3d7", func := "gatehouse/gatehouselaw17.LockNew", spec := "lockNew", apart := false, narrowed := true }
def LockNewUptoSaid : Prop := lockNewUptoRow.holds Try.pinned (OpenSpec.upto lockNewSpec)

/-- 'gatehouselaw17.LockScript', WHERE WHAT IT READS IS OF BULK AT MOST 1048576: true; the input reads as it did. -/
def lockScriptUptoRow : OpenClaim := { program := "ytnpdmeeolcjmlaa", sum := "dc830edd71101c4058f0f23e09f4f2ef911e9b11d72925820248b45180b1c3d7", func := "gatehouse/gatehouselaw17.LockScript", spec := "lockScript", unfollowed := true, recurses := true, apart := false, narrowed := true }
def LockScriptUptoSaid : Prop := lockScriptUptoRow.holds Try.pinned (OpenSpec.upto lockScriptSpec)

/-- 'gatehouselaw17.LockTurns', WHERE WHAT IT READS IS OF BULK AT MOST 1048576: true; the input reads as it did. -/
def lockTurnsUptoRow : OpenClaim := { program := "ytnpdmeeolcjmlaa", sum := "dc830edd71101c4058f0f23e09f4f2ef911e9b11d72925820248b45180b1c3d7", func := "gatehouse/gatehouselaw17.LockTurns", spec := "lockTurns", unfollowed := true, recurses := true, apart := false, narrowed := true }
def LockTurnsUptoSaid : Prop := lockTurnsUptoRow.holds Try.pinned (OpenSpec.upto lockTurnsSpec)

/-- 'gatehouselaw17.LockSteps', WHERE WHAT IT READS IS OF BULK AT MOST 1048576: true; the input reads as it did. -/
def lockStepsUptoRow : OpenClaim := { program := "ytnpdmeeolcjmlaa", sum := "dc830edd71101c4058f0f23e09f4f2ef911e9b11d72925820248b45180b1c3d7", func := "gatehouse/gatehouselaw17.LockSteps", spec := "lockSteps", unfollowed := true, recurses := true, apart := false, narrowed := true }
def LockStepsUptoSaid : Prop := lockStepsUptoRow.holds Try.pinned (OpenSpec.upto lockStepsSpec)

end Rows
end Go.Proofs.Ytnpdmeeolcjmlaa
