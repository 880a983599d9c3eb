import Derived.Test.YtbbopkhgmgdlfaaMem
set_option linter.unusedVariables false
set_option linter.unusedSimpArgs false
namespace Go.Proofs.Ytbbopkhgmgdlfaa
open Go.RowKit
namespace M
/-- a step, as it lies -/
structure St where
  do_ : Int
  a : Int
  b : Int
  c : Int
  x : Ac
def St.arr (s : St) : Array Value := #[.int .i64 s.do_, .int .i64 s.a, .int .i64 s.b, .int .i64 s.c, .int .i8 s.x.kind, .int .i64 s.x.addr, .int .i64 s.x.value, .int .i64 s.x.old, .bool s.x.good]
/-- its numbers are numbers of 64 bits -/
def St.ok (s : St) : Prop := (-9223372036854775808 ≤ s.a ∧ s.a ≤ 9223372036854775807) ∧ (-9223372036854775808 ≤ s.b ∧ s.b ≤ 9223372036854775807)
/-- a slice of steps that came in -/
def Sts (w : World) (a : Option Addr) (ss : List St) : Prop := ss = [] ∨ ∃ b off, a = some ⟨b, off, none⟩ ∧ b < w.heap.size ∧ ∀ j (h : j < ss.length), ∀ r (hr : r < 9), w.cell? ⟨b, off + j * 9 + r, none⟩ = ss[j].arr[r]?
theorem wf_le {n : Int} (h : (Lit.int .i64 n).wf = true) : -9223372036854775808 ≤ n ∧ n ≤ 9223372036854775807 := by
  simp [Lit.wf, IntKind.min, IntKind.max, IntKind.bits, IntKind.signed] at h
  omega
end M
end Go.Proofs.Ytbbopkhgmgdlfaa
