import Derived.Test.YtclmnkilfijeaaaDoorRnB
set_option linter.unusedVariables false
set_option linter.unusedSimpArgs false
namespace Go.Proofs.YtclmnkilfijeaaaDoor
open Go.RowKit
theorem run_fdiv (x y r : Nat) (w : World) (h : Ieee.double.div x y = some r) : (binOp .quo 24 (.float .f64 x) (.float .f64 y)).run Tryd.prog w = .ok (.float .f64 r) w := by
  have hu := Tryd.underlying24
  have h' : FloatKind.f64.format.div x y = some r := h
  simp [binOp, underlying, hu, Op.floatArith, h']
theorem run_fmul (x y r : Nat) (w : World) (h : Ieee.double.mul x y = some r) : (binOp .mul 24 (.float .f64 x) (.float .f64 y)).run Tryd.prog w = .ok (.float .f64 r) w := by
  have hu := Tryd.underlying24
  have h' : FloatKind.f64.format.mul x y = some r := h
  simp [binOp, underlying, hu, Op.floatArith, h']
theorem run_toInt (r N : Nat) (w : World) (h : (Ieee.double.read r).toInt .zero = some (N : Int)) (hN : N ≤ 1073741825) : (convert 24 3 (.float .f64 r)).run Tryd.prog w = .ok (.int .i64 N) w := by
  have h' : (FloatKind.f64.decode r).toInt .zero = some (N : Int) := h
  have hu := Tryd.underlying24
  have hv := Tryd.underlying3
  have hb : IntKind.i64.min ≤ (N : Int) ∧ (N : Int) ≤ IntKind.i64.max := by
    have e1 : IntKind.i64.min = -9223372036854775808 := by decide
    have e2 : IntKind.i64.max = 9223372036854775807 := by decide
    rw [e1, e2]; omega
  simp [convert, underlying, hu, hv, Conv.floatToInt, h', hb]
  intro q; omega
set_option maxRecDepth 100000 in
set_option maxHeartbeats 4000000 in
theorem refnum_no (r : Nat) (w : World) (h : (FloatKind.f64.format.order r 0 ≠ some .gt ∧ FloatKind.f64.format.order r 0 ≠ some .eq) ∨ (FloatKind.f64.format.order r 4607182418800017408 ≠ some .lt ∧ FloatKind.f64.format.order r 4607182418800017408 ≠ some .eq)) :
    Calls Tryd.prog 7 #[.float .f64 r] w fun e w' => e = .returned (.tuple #[.string ⟨#[]⟩, .bool false]) ∧ w' = w := by
  cases o1 : FloatKind.f64.format.order r 0 with
  | none =>
    clear h
    go_enter Tryd.func7, Tryd.ntmps7
    go_wp2
    go_ret2
    exact ⟨rfl, rfl⟩
  | some a =>
    cases o2 : FloatKind.f64.format.order r 4607182418800017408 with
    | none =>
      clear h
      cases a
      all_goals
        go_enter Tryd.func7, Tryd.ntmps7
        go_wp2
        go_ret2
        exact ⟨rfl, rfl⟩
    | some b =>
      rw [o1, o2] at h
      cases a <;> cases b <;> first | (exfalso; simp at h; done) | skip
      all_goals
        clear h
        go_enter Tryd.func7, Tryd.ntmps7
        go_wp2
        go_ret2
        exact ⟨rfl, rfl⟩
set_option maxRecDepth 100000 in
set_option maxHeartbeats 4000000 in
theorem refnum_minus (w : World) : Calls Tryd.prog 7 #[.float .f64 9223372036854775808] w fun e w' => e = .returned (.tuple #[.string ⟨#[]⟩, .bool false]) ∧ w' = w := by
  have hd := fun w => run_fdiv 4607182418800017408 9223372036854775808 18442240474082181120 w (by decide)
  have o1 : FloatKind.f64.format.order 9223372036854775808 0 = some .eq := by decide
  have o2 : FloatKind.f64.format.order 9223372036854775808 4607182418800017408 = some .lt := by decide
  have o3 : FloatKind.f64.format.order 18442240474082181120 0 = some .lt := by decide
  go_enter Tryd.func7, Tryd.ntmps7
  go_wp2
  go_ret2
  exact ⟨rfl, rfl⟩
set_option maxRecDepth 100000 in
set_option maxHeartbeats 4000000 in
theorem refnum_zero (w : World) : Calls Tryd.prog 7 #[.float .f64 0] w fun e w' => e = .returned (.tuple #[.string ⟨#[48]⟩, .bool true]) ∧ w' = w := by
  have hd := fun w => run_fdiv 4607182418800017408 0 9218868437227405312 w (by decide)
  have o1 : FloatKind.f64.format.order 0 0 = some .eq := by decide
  have o2 : FloatKind.f64.format.order 0 4607182418800017408 = some .lt := by decide
  have o3 : FloatKind.f64.format.order 9218868437227405312 0 = some .gt := by decide
  go_enter Tryd.func7, Tryd.ntmps7
  go_wp2
  go_ret2
  exact ⟨rfl, rfl⟩
set_option maxRecDepth 100000 in
set_option maxHeartbeats 4000000 in
theorem refnum_one (w : World) : Calls Tryd.prog 7 #[.float .f64 4607182418800017408] w fun e w' => e = .returned (.tuple #[.string ⟨#[49]⟩, .bool true]) ∧ w' = w := by
  have hd := fun w => run_fdiv 4607182418800017408 4607182418800017408 4607182418800017408 w (by decide)
  have o1 : FloatKind.f64.format.order 4607182418800017408 0 = some .gt := by decide
  have o2 : FloatKind.f64.format.order 4607182418800017408 4607182418800017408 = some .eq := by decide
  go_enter Tryd.func7, Tryd.ntmps7
  go_wp2
  go_ret2
  exact ⟨rfl, rfl⟩
end Go.Proofs.YtclmnkilfijeaaaDoor
