import Derived.Test.YtoejcpfodbegeaaPc1
import Derived.Test.YtoejcpfodbegeaaPc2
import Derived.Test.YtoejcpfodbegeaaPc3
import Derived.Test.YtoejcpfodbegeaaPc4
import Derived.Test.YtoejcpfodbegeaaPc5
set_option linter.unusedVariables false
namespace Go.Proofs.Ytoejcpfodbegeaa
open Go.RowKit
namespace M
theorem pieces_walk (words addr many : Int) (w : World) (hm2 : many ≤ 9223372036854775807) :
    Calls Try.prog 10 #[.int .i64 words, .int .i64 addr, .int .i64 many] w fun e w' => e = .returned (.bool true) ∧ Below w.heap.size w w' := by
  by_cases h1 : addr < 0
  · exact pieces_no1 words addr many w _ rfl hm2 h1
  by_cases h2 : many < 0
  · exact pieces_no2 words addr many w _ rfl hm2 (by omega) h2
  by_cases h3 : (nof words : Int) < many
  · exact pieces_no3 words addr many w _ rfl hm2 (by omega) (by omega) h3
  by_cases h4 : (nof words : Int) - many < addr
  · exact pieces_no4 words addr many w _ rfl hm2 (by omega) (by omega) (by omega) h4
  obtain ⟨A, rfl⟩ : ∃ k : Nat, addr = (k : Int) := ⟨addr.toNat, by omega⟩
  obtain ⟨m, rfl⟩ : ∃ k : Nat, many = (k : Int) := ⟨many.toNat, by omega⟩
  exact pieces_in words A m w _ rfl hm2 (by omega)
theorem wf_le {n : Int} (h : (Lit.int .i64 n).wf = true) : -9223372036854775808 ≤ n ∧ n ≤ 9223372036854775807 := by
  simp [Lit.wf, IntKind.min, IntKind.max, IntKind.bits, IntKind.signed] at h
  omega
end M
end Go.Proofs.Ytoejcpfodbegeaa
