import Derived.Test.YtclmnkilfijeaaaDoorRnD
set_option linter.unusedVariables false
set_option linter.unusedSimpArgs false
namespace Go.Proofs.YtclmnkilfijeaaaDoor
open Go.RowKit
set_option maxRecDepth 100000 in
theorem canonNumber_walk (r : Nat) (hr : r < 18446744073709551616) (w : World) (hT : Tb w) : Calls Tryd.prog 4 #[.float .f64 r] w fun e w' => e = .returned (.bool true) ∧ Below w.heap.size w w' := by
  have H1 := hide' (number_any r hr w hT)
  have H2 := hide' fun w => refnum_any r hr w
  clear hT
  go_enter Tryd.func4, Tryd.ntmps4
  go_wp2_with (fail)
  refine H1.out.mono ?_
  rintro e w1 ⟨⟨s, ok, rfl, hn⟩, b⟩
  have HN := hide' (And.intro hn b)
  clear hn b
  go_wp2_with (fail)
  refine (H2.out _).mono ?_
  rintro e w2 ⟨⟨s2, ok2, rfl, hn2⟩, rfl⟩
  obtain ⟨rfl, rfl⟩ := HN.out.1.one hn2
  clear hn2
  go_wp2_with (fail)
  go_ret
  exact ⟨by simp, HN.out.2⟩
end Go.Proofs.YtclmnkilfijeaaaDoor
