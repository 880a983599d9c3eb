import Derived.Test.YtclmnkilfijeaaaDoorNuK
set_option linter.unusedVariables false
set_option linter.unusedSimpArgs false
namespace Go.Proofs.YtclmnkilfijeaaaDoor
open Go.RowKit
set_option maxRecDepth 100000 in
set_option maxHeartbeats 8000000 in
theorem ftoa_zero (B g cap : Nat) (w : World) (hBg : B ≤ g) (hrow : w.ownsRow B 5 1 (.slice (some ⟨g, 0, none⟩) 0 cap) 0 []) (hBw : B ≤ w.heap.size) :
    Calls Tryd.prog 16 #[.slice (some ⟨g, 0, none⟩) 0 cap, .float .f64 0, .int .u8 102, .int .i64 (-1)] w fun e w' =>
      ∃ g' cap' l, e = .returned (.slice (some ⟨g', 0, none⟩) l.length cap') ∧ l = [48] ∧ w'.ownsRow B 5 1 (.slice (some ⟨g', 0, none⟩) l.length cap') l.length (Lib.byteCells l) ∧ Below B w w' := by
  have hfb : ∀ W, (callFunc 18 #[.float .f64 0]).run Tryd.prog W = .ok (.value (.int .u64 0)) W := fun W => by rfl
  have f6 : bits .and .i64 0 2047 = 0 := by decide +kernel
  have f7 : bits .and .u64 0 4503599627370495 = 0 := by decide +kernel
  have HH := hide' hrow
  clear hrow
  go_enter Tryd.func16, Tryd.ntmps16
  go_wp2_with (fail)
  go_quiet (fail)
  go_wp2_with (fail)
  have hrow2 := (((Turn.refl (fun _ => False) w).drewN nq)).row HH.out (fun _ _ q => q)
  have hRB : RowB B g (w.drewN nq) [] g cap (w.drewN nq) := ⟨hrow2, Turn.refl _ _, .inl rfl, hBw, by simp⟩
  refine (fmt_zero B g g cap _ _ hRB).mono ?_
  rintro e W6 ⟨g6, c6, rfl, hR6⟩
  have HR6 := hide' hR6
  clear hrow2 hRB hR6
  go_wp2_with (fail)
  go_ret
  refine ⟨g6, c6, [48], rfl, rfl, HR6.out.row, ?_⟩
  have tot : Turn (fun k => k = g) w W6 := ((Turn.refl (fun k => k = g) w).drewN nq).trans HR6.out.oth
  exact tot.below (fun k q => by omega) hBw
end Go.Proofs.YtclmnkilfijeaaaDoor
