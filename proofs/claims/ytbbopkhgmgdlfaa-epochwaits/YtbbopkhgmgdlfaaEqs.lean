import Derived.Test.YtbbopkhgmgdlfaaWinP
set_option linter.unusedVariables false
set_option linter.unusedSimpArgs false
namespace Go.Proofs.Ytbbopkhgmgdlfaa
open Go.RowKit
namespace M
theorem wrap_in' (k : Nat) (h : k < 1000000) : wrap64 ((k : Int) + 1) = (k : Int) + 1 := by unfold wrap64; omega
theorem Ints.drewN {w : World} {a : Option Addr} {ns : List Int} (h : Ints w a ns) (n : Nat) : Ints (w.drewN n) a ns := h
end M
end Go.Proofs.Ytbbopkhgmgdlfaa
