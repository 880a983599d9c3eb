import Derived.Test.YtoejcpfodbegeaaScF
set_option linter.unusedVariables false
namespace Go.Proofs.Ytoejcpfodbegeaa
open Go.RowKit
namespace F
open M
theorem script_walk (wd : Int) (a a2 : Option Addr) (c c2 : Nat) (ss ss2 : List St) (w : World) (hI : Sts w a ss) (hok : ∀ s ∈ ss, s.ok) (hl : ss.length ≤ 1954687338268) (hI2 : Sts w a2 ss2) (hok2 : ∀ s ∈ ss2, s.ok) (hl2 : ss2.length ≤ 1954687338268) :
    Calls Try.prog 4 #[.int .i64 wd, .slice a ss.length c, .slice a2 ss2.length c2] w fun e w' => e = .returned (.bool true) ∧ Below w.heap.size w w' := by
  by_cases h : wd < 1 ∨ 65536 < wd
  · exact script_no wd a a2 _ c _ c2 w h
  · obtain ⟨n, rfl⟩ : ∃ n : Nat, wd = (n : Int) := ⟨wd.toNat, by omega⟩
    exact script_yes n (by omega) a a2 c c2 ss ss2 w hI hok hl hI2 hok2 hl2
end F
end Go.Proofs.Ytoejcpfodbegeaa
