import Derived.Test.YtdhdcpppilacmaaKeW
set_option linter.unusedVariables false
namespace Go.Proofs.Ytdhdcpppilacmaa
open Go.RowKit
namespace K
open M
theorem keeps_any (room : Int) (f : Bool) (t : List UInt8) (pa : Option Addr) (pc : Nat) (os : List O4) (w : World) (hI : Rw 4 O4.arr w pa os) (hP : ∀ q ∈ os, I64 q.d ∧ I64 q.n) (hs : os.length ≤ 17592186043904) :
    Calls Try.prog 4 #[.agg #[.int .i64 room, .bool f, .string (sb t)], .slice pa os.length pc] w fun e w' => e = .returned (.bool true) ∧ Below w.heap.size w w' := by
  by_cases h : room < 0 ∨ 1048576 < room
  · exact keeps_range room f t _ w h
  · by_cases h2 : room < (t.length : Int)
    · exact keeps_full room f t _ w ⟨by omega, by omega, h2⟩
    · exact keeps_ok room f t pa pc os w (by omega) (by omega) hI hP hs
end K
end Go.Proofs.Ytdhdcpppilacmaa
