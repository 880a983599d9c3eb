/-
  No cell of these rows narrows 'for every input' (looked for: loops, veiled, ifaces, maps, wideKeys, modest, calm, conditions, laid).
  DERIVED. THE GIVEN ROWS OF THIS SEAT. 6 by the template 'for every input the law returns true; each argument reads behind the call as it read before'; 0 by the template 'total and deterministic' (their statements: YtgjdpgmffhihnaaTotals.lean).
  GIVEN WITH THE SEED: the statements are not yours to turn. If you find one false, say at which input.
  Laid BY PROGRAM, IN A SANDBOX (cutbox-rows.mjs): the forced cells as the released guide's own fill.sh prints them over the translation 065ec026cbc62d7f… (all of the seat's roots in one cut). By AI agents, Wed Nov 11 2026. No macro, syntax, notation, axiom, sorry.
-/
import Derived.Test.YtgjdpgmffhihnaaChecked
import GoSem.Claim
import GoSem.ClaimJoined
import GoSem.ClaimMapViews
import Derived.JoinedTies
import Derived.KernelRfl
namespace Go.Proofs.Ytgjdpgmffhihnaa
/- THE CELL 'sum', in the pinned program and in every row, IS THE sha256 OF THE DUMP (.gsa) THAT YtgjdpgmffhihnaaProg.lean LOADS. Nothing in Lean hashes anything: it is a label: what it is worth is what the hold of that sum in a sandbox is worth. -/
noncomputable def Try.pinned : Pinned := { name := "ytgjdpgmffhihnaa", sum := "065ec026cbc62d7f35d769fe2addfc3213d999ce44b9aa3bf5831f7757c5febe", checked := Try.checked }
namespace Rows
def none {H : Type} : Left H := { results := [], args := [] }

/-- 'gatehouselaw01.NamesNames': WHATEVER THE INPUT: true; the input reads as it did. -/
def namesNamesSpec : ChangeSpec := { name := "namesNames", fn := fun _ => fun
  | [] => { results := [.lit (.bool true)], args := [] }
  | _ => none }
def namesNamesRow : OpenClaim := { program := "ytgjdpgmffhihnaa", sum := "065ec026cbc62d7f35d769fe2addfc3213d999ce44b9aa3bf5831f7757c5febe", func := "gatehouse/gatehouselaw01.NamesNames", spec := "namesNames", inPlace := ["internal/abi.NoEscape"], apart := false }
def NamesNamesSaid : Prop := namesNamesRow.holds Try.pinned (OpenSpec.ofChange namesNamesSpec)

/-- ITS FALSE NEIGHBOUR: 'it returns false'. Refute it at one input. -/
def namesNamesWrong : ChangeSpec := { name := "namesNames", fn := fun _ => fun
  | [] => { results := [.lit (.bool false)], args := [] }
  | _ => none }
def NamesNamesWrongFalsely : Prop := namesNamesRow.holds Try.pinned (OpenSpec.ofChange namesNamesWrong)

/-- 'gatehouselaw01.NamesTells': WHATEVER THE INPUT: true; the input reads as it did. -/
def namesTellsSpec : ChangeSpec := { name := "namesTells", fn := fun _ => fun
  | [d] => { results := [.lit (.bool true)], args := [d] }
  | _ => none }
def namesTellsRow : OpenClaim := { program := "ytgjdpgmffhihnaa", sum := "065ec026cbc62d7f35d769fe2addfc3213d999ce44b9aa3bf5831f7757c5febe", func := "gatehouse/gatehouselaw01.NamesTells", spec := "namesTells", inPlace := ["internal/abi.NoEscape"], apart := false }
def NamesTellsSaid : Prop := namesTellsRow.holds Try.pinned (OpenSpec.ofChange namesTellsSpec)

/-- ITS FALSE NEIGHBOUR: 'it returns false'. Refute it at one input. -/
def namesTellsWrong : ChangeSpec := { name := "namesTells", fn := fun _ => fun
  | [d] => { results := [.lit (.bool false)], args := [d] }
  | _ => none }
def NamesTellsWrongFalsely : Prop := namesTellsRow.holds Try.pinned (OpenSpec.ofChange namesTellsWrong)

/-- 'gatehouselaw01.NamesBack': WHATEVER THE INPUT: true; the input reads as it did. -/
def namesBackSpec : ChangeSpec := { name := "namesBack", fn := fun _ => fun
  | [d] => { results := [.lit (.bool true)], args := [d] }
  | _ => none }
def namesBackRow : OpenClaim := { program := "ytgjdpgmffhihnaa", sum := "065ec026cbc62d7f35d769fe2addfc3213d999ce44b9aa3bf5831f7757c5febe", func := "gatehouse/gatehouselaw01.NamesBack", spec := "namesBack", inPlace := ["internal/abi.NoEscape"], apart := false }
def NamesBackSaid : Prop := namesBackRow.holds Try.pinned (OpenSpec.ofChange namesBackSpec)

/-- ITS FALSE NEIGHBOUR: 'it returns false'. Refute it at one input. -/
def namesBackWrong : ChangeSpec := { name := "namesBack", fn := fun _ => fun
  | [d] => { results := [.lit (.bool false)], args := [d] }
  | _ => none }
def NamesBackWrongFalsely : Prop := namesBackRow.holds Try.pinned (OpenSpec.ofChange namesBackWrong)

/-- 'gatehouselaw01.NamesApart': WHATEVER THE INPUT: true; the input reads as it did. -/
def namesApartSpec : ChangeSpec := { name := "namesApart", fn := fun _ => fun
  | [d1, d2] => { results := [.lit (.bool true)], args := [d1, d2] }
  | _ => none }
def namesApartRow : OpenClaim := { program := "ytgjdpgmffhihnaa", sum := "065ec026cbc62d7f35d769fe2addfc3213d999ce44b9aa3bf5831f7757c5febe", func := "gatehouse/gatehouselaw01.NamesApart", spec := "namesApart", inPlace := ["internal/abi.NoEscape"], apart := false }
def NamesApartSaid : Prop := namesApartRow.holds Try.pinned (OpenSpec.ofChange namesApartSpec)

/-- ITS FALSE NEIGHBOUR: 'it returns false'. Refute it at one input. -/
def namesApartWrong : ChangeSpec := { name := "namesApart", fn := fun _ => fun
  | [d1, d2] => { results := [.lit (.bool false)], args := [d1, d2] }
  | _ => none }
def NamesApartWrongFalsely : Prop := namesApartRow.holds Try.pinned (OpenSpec.ofChange namesApartWrong)

/-- 'gatehouselaw01.NamesTexts': WHATEVER THE INPUT: true; the input reads as it did. -/
def namesTextsSpec : ChangeSpec := { name := "namesTexts", fn := fun _ => fun
  | [d1, d2] => { results := [.lit (.bool true)], args := [d1, d2] }
  | _ => none }
def namesTextsRow : OpenClaim := { program := "ytgjdpgmffhihnaa", sum := "065ec026cbc62d7f35d769fe2addfc3213d999ce44b9aa3bf5831f7757c5febe", func := "gatehouse/gatehouselaw01.NamesTexts", spec := "namesTexts", unfollowed := true, recurses := true, apart := false }
def NamesTextsSaid : Prop := namesTextsRow.holds Try.pinned (OpenSpec.ofChange namesTextsSpec)

/-- ITS FALSE NEIGHBOUR: 'it returns false'. Refute it at one input. -/
def namesTextsWrong : ChangeSpec := { name := "namesTexts", fn := fun _ => fun
  | [d1, d2] => { results := [.lit (.bool false)], args := [d1, d2] }
  | _ => none }
def NamesTextsWrongFalsely : Prop := namesTextsRow.holds Try.pinned (OpenSpec.ofChange namesTextsWrong)

/-- 'gatehouselaw01.NamesFloats': WHATEVER THE INPUT: true; the input reads as it did. -/
def namesFloatsSpec : ChangeSpec := { name := "namesFloats", fn := fun _ => fun
  | [d] => { results := [.lit (.bool true)], args := [d] }
  | _ => none }
def namesFloatsRow : OpenClaim := { program := "ytgjdpgmffhihnaa", sum := "065ec026cbc62d7f35d769fe2addfc3213d999ce44b9aa3bf5831f7757c5febe", func := "gatehouse/gatehouselaw01.NamesFloats", spec := "namesFloats", unfollowed := true, recurses := true, apart := false }
def NamesFloatsSaid : Prop := namesFloatsRow.holds Try.pinned (OpenSpec.ofChange namesFloatsSpec)

/-- ITS FALSE NEIGHBOUR: 'it returns false'. Refute it at one input. -/
def namesFloatsWrong : ChangeSpec := { name := "namesFloats", fn := fun _ => fun
  | [d] => { results := [.lit (.bool false)], args := [d] }
  | _ => none }
def NamesFloatsWrongFalsely : Prop := namesFloatsRow.holds Try.pinned (OpenSpec.ofChange namesFloatsWrong)

/- THE SECOND FORM. 'bulk': how many values and letters a reading holds, each counted each time it is reached (what is shared counts as often as it is met; a slice's spare places count too). A statement '..UptoSaid' is the law's where the arguments, and the package variables that the reading takes, are together of bulk at most 1048576: NARROWER than '..Said'. Prove '..Said' where nothing that the law and all that it calls make is longer than what came in: it says more and counts as full. Else prove '..UptoSaid'. A law counts once. -/
mutual
def uptoBulk {H : Type} : DataW H → Nat
  | .lit (.string bytes) => bytes.length + 1
  | .lit _ => 1
  | .nil => 1
  | .ptr d => uptoBulk d + 1
  | .slice elems spare => uptoBulkAll elems + uptoBulkAll spare + 1
  | .agg parts => uptoBulkAll parts + 1
  | .iface _ d => uptoBulk d + 1
  | .map entries => uptoBulkEntries entries + 1
  | .held _ => 1
def uptoBulkAll {H : Type} : List (DataW H) → Nat
  | [] => 0
  | d :: r => uptoBulk d + uptoBulkAll r
def uptoBulkEntries {H : Type} : List (Lit × DataW H) → Nat
  | [] => 0
  | x :: r => uptoBulkEntry x + uptoBulkEntries r
def uptoBulkEntry {H : Type} : Lit × DataW H → Nat
  | (.string bytes, d) => bytes.length + uptoBulk d + 1
  | (_, d) => uptoBulk d + 1
 end
def uptoSmall : (H : Type) → List (DataW H) → Bool := fun _ ds => decide (uptoBulkAll ds ≤ 1048576)
def OpenSpec.upto (s : _root_.Go.ChangeSpec) : _root_.Go.OpenSpec := { _root_.Go.OpenSpec.ofChange s with cond := some uptoSmall }

/-- 'gatehouselaw01.NamesNames', WHERE WHAT IT READS IS OF BULK AT MOST 1048576: true; the input reads as it did. -/
def namesNamesUptoRow : OpenClaim := { program := "ytgjdpgmffhihnaa", sum := "065ec026cbc62d7f35d769fe2addfc3213d999ce44b9aa3bf5831f7757c5febe", func := "gatehouse/gatehouselaw01.NamesNames", spec := "namesNames", inPlace := ["internal/abi.NoEscape"], apart := false, narrowed := true }
def NamesNamesUptoSaid : Prop := namesNamesUptoRow.holds Try.pinned (OpenSpec.upto namesNamesSpec)

/-- 'gatehouselaw01.NamesTells', WHERE WHAT IT READS IS OF BULK AT MOST 1048576: true; the input reads as it did. -/
def namesTellsUptoRow : OpenClaim := { program := "ytgjdpgmffhihnaa", sum := "065ec026cbc62d7f35d769fe2addfc3213d999ce44b9aa3bf5831f7757c5febe", func := "gatehouse/gatehouselaw01.NamesTells", spec := "namesTells", inPlace := ["internal/abi.NoEscape"], apart := false, narrowed := true }
def NamesTellsUptoSaid : Prop := namesTellsUptoRow.holds Try.pinned (OpenSpec.upto namesTellsSpec)

/-- 'gatehouselaw01.NamesBack', WHERE WHAT IT READS IS OF BULK AT MOST 1048576: true; the input reads as it did. -/
def namesBackUptoRow : OpenClaim := { program := "ytgjdpgmffhihnaa", sum := "065ec026cbc62d7f35d769fe2addfc3213d999ce44b9aa3bf5831f7757c5febe", func := "gatehouse/gatehouselaw01.NamesBack", spec := "namesBack", inPlace := ["internal/abi.NoEscape"], apart := false, narrowed := true }
def NamesBackUptoSaid : Prop := namesBackUptoRow.holds Try.pinned (OpenSpec.upto namesBackSpec)

/-- 'gatehouselaw01.NamesApart', WHERE WHAT IT READS IS OF BULK AT MOST 1048576: true; the input reads as it did. -/
def namesApartUptoRow : OpenClaim := { program := "ytgjdpgmffhihnaa", sum := "065ec026cbc62d7f35d769fe2addfc3213d999ce44b9aa3bf5831f7757c5febe", func := "gatehouse/gatehouselaw01.NamesApart", spec := "namesApart", inPlace := ["internal/abi.NoEscape"], apart := false, narrowed := true }
def NamesApartUptoSaid : Prop := namesApartUptoRow.holds Try.pinned (OpenSpec.upto namesApartSpec)

/-- 'gatehouselaw01.NamesTexts', WHERE WHAT IT READS IS OF BULK AT MOST 1048576: true; the input reads as it did. -/
def namesTextsUptoRow : OpenClaim := { program := "ytgjdpgmffhihnaa", sum := "065ec026cbc62d7f35d769fe2addfc3213d999ce44b9aa3bf5831f7757c5febe", func := "gatehouse/gatehouselaw01.NamesTexts", spec := "namesTexts", unfollowed := true, recurses := true, apart := false, narrowed := true }
def NamesTextsUptoSaid : Prop := namesTextsUptoRow.holds Try.pinned (OpenSpec.upto namesTextsSpec)

/-- 'gatehouselaw01.NamesFloats', WHERE WHAT IT READS IS OF BULK AT MOST 1048576: true; the input reads as it did. -/
def namesFloatsUptoRow : OpenClaim := { program := "ytgjdpgmffhihnaa", sum := "065ec026cbc62d7f35d769fe2addfc3213d999ce44b9aa3bf5831f7757c5febe", func := "gatehouse/gatehouselaw01.NamesFloats", spec := "namesFloats", unfollowed := true, recurses := true, apart := false, narrowed := true }
def NamesFloatsUptoSaid : Prop := namesFloatsUptoRow.holds Try.pinned (OpenSpec.upto namesFloatsSpec)

end Rows
end Go.Proofs.Ytgjdpgmffhihnaa
