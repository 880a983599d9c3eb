import Derived.Test.YtoejcpfodbegeaaOne0
import Derived.Test.YtoejcpfodbegeaaOne1
import Derived.Test.YtoejcpfodbegeaaOne2
import Derived.Test.YtoejcpfodbegeaaOne3
set_option linter.unusedVariables false
namespace Go.Proofs.Ytoejcpfodbegeaa
open Go.RowKit
namespace M
theorem one_walk (wd : Int) (a : Option Addr) (cap : Nat) (ss : List St) (s : St) (w : World) (hI : Sts w a ss) (hok : ∀ s ∈ ss, s.ok) (hl : ss.length ≤ 1954687338268) :
    Calls Try.prog 6 #[.int .i64 wd, .slice a ss.length cap, .agg s.arr] w fun e w' => e = .returned (.bool true) ∧ Below w.heap.size w w' := by
  have h1 := Int.emod_nonneg s.do_ (b := 4) (by omega)
  have h2 := Int.emod_lt_of_pos s.do_ (b := 4) (by omega)
  have : s.do_ % 4 = 0 ∨ s.do_ % 4 = 1 ∨ s.do_ % 4 = 2 ∨ s.do_ % 4 = 3 := by omega
  rcases this with h | h | h | h
  · exact one_lo wd a cap ss s w hI hok hl h
  · exact one_st wd a cap ss s w hI hok hl h
  · exact one_sw wd a cap ss s w hI hok hl h
  · exact one_ad wd a cap ss s w hI hok hl h
end M
end Go.Proofs.Ytoejcpfodbegeaa
