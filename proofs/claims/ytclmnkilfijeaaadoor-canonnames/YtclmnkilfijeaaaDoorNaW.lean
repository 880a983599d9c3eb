import Derived.Test.YtclmnkilfijeaaaDoorNuQ
set_option linter.unusedVariables false
set_option linter.unusedSimpArgs false
namespace Go.Proofs.YtclmnkilfijeaaaDoor
open Go.RowKit
theorem half_near : Fp.Near 4602678819172646912 5 10 := by
  unfold Fp.Near Fp.V Fp.unit
  decide +kernel
theorem half_num : NumIs 4602678819172646912 ⟨#[48, 46, 53]⟩ true := by
  refine .inr (.inr (.inr ⟨rfl, by omega, by decide, 1, 5, ⟨by omega, by omega, by omega, by omega, by omega, ?_⟩, ?_⟩))
  · exact half_near
  · rfl
set_option maxRecDepth 100000 in
theorem canonNames_walk (w : World) (hT : Tb w) : Calls Tryd.prog 3 #[] w fun e w' => e = .returned (.bool true) ∧ Below w.heap.size w w' := by
  have H := hide' (number_any 4602678819172646912 (by omega) w hT)
  clear hT
  go_enter Tryd.func3, Tryd.ntmps3
  go_wp2_with (fail)
  refine H.out.mono ?_
  rintro e w1 ⟨⟨s, ok, rfl, hn⟩, b⟩
  obtain ⟨rfl, rfl⟩ := hn.one half_num
  clear hn
  go_wp2_with (fail)
  go_ret
  exact ⟨rfl, b⟩
end Go.Proofs.YtclmnkilfijeaaaDoor
