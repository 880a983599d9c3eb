import Derived.Test.YtjmkofdnlhfaiaaAvX
import Derived.Test.YtjmkofdnlhfaiaaFlt
set_option linter.unusedVariables false
set_option linter.unusedSimpArgs false
namespace Go.Proofs.Ytjmkofdnlhfaiaa
open Go.RowKit
namespace C
variable {B c g n v : Nat} {b : Nat → Nat} {s : St} {w w' : World}
theorem run_fdiv (x y r : Nat) (w : World) (h : Ieee.double.div x y = some r) : (binOp .quo 33 (.float .f64 x) (.float .f64 y)).run Try.prog w = .ok (.float .f64 r) w := by
  have hu := Try.underlying33
  have h' : FloatKind.f64.format.div x y = some r := h
  simp [binOp, underlying, hu, Op.floatArith, h']
theorem run_fadd (x y r : Nat) (w : World) (h : Ieee.double.add x y = some r) : (binOp .add 33 (.float .f64 x) (.float .f64 y)).run Try.prog w = .ok (.float .f64 r) w := by
  have hu := Try.underlying33
  have h' : FloatKind.f64.format.add x y = some r := h
  simp [binOp, underlying, hu, Op.floatArith, h']
/-- hits over all that was asked -/
def rat (a q : Nat) : Nat := if q = 0 then 0 else (Ieee.double.div (floatOfInt .f64 (a : Int)) (floatOfInt .f64 (q : Int))).getD 0
theorem rat_div {a q : Nat} (h0 : 0 < q) (hq : q < 9007199254740992) (ha : a ≤ q) : Ieee.double.div (floatOfInt .f64 (a : Int)) (floatOfInt .f64 (q : Int)) = some (rat a q) := by
  unfold rat
  rw [if_neg (by omega)]
  show Ieee.double.div (FloatKind.f64.nearest (a : Int)) (FloatKind.f64.nearest (q : Int)) = some ((Ieee.double.div (FloatKind.f64.nearest (a : Int)) (FloatKind.f64.nearest (q : Int))).getD 0)
  rcases Nat.eq_zero_or_pos a with e | e
  · subst e; rw [Fp.div_zero h0 hq]; rfl
  · rcases Nat.lt_or_ge a q with e2 | e2
    · obtain ⟨r, hr, _⟩ := Fp.div_mid e e2 hq; rw [hr]; rfl
    · obtain rfl : a = q := by omega
      rw [Fp.div_same e hq]; rfl
set_option maxRecDepth 100000 in
set_option maxHeartbeats 1000000 in
theorem ratio_any (h : Ca B c g n v b s w) (hl : s.hi + s.mi < 9007199254740992) : Calls Try.prog 14 #[.pointer (some ⟨c, 0, none⟩)] w fun e w' => e = .returned (.float .f64 (rat s.hi (s.hi + s.mi))) ∧ ∃ k, w' = w.drewN k := by
  have HX : Hid (∀ m, (w.drewN m).cell? ⟨c, 1, none⟩ = some (.int .i64 (s.hi : Nat)) ∧ (w.drewN m).cell? ⟨c, 2, none⟩ = some (.int .i64 (s.mi : Nat))) := hide' (fun m => ⟨h.c1, h.c2⟩)
  have c1 := h.c1
  have c2 := h.c2
  have Hw := hide' (wsum s.hi s.mi (by omega))
  by_cases h0 : s.hi + s.mi = 0
  · have hr : rat s.hi (s.hi + s.mi) = 0 := if_pos h0
    rw [hr]
    rw [h0] at Hw
    clear h hl h0 hr
    go_enter Try.func14, Try.ntmps14
    go_wp2_with fail
    go_quiet (fail)
    rw [Hw.out]
    clear HX
    go_wp2
    go_ret
    exact ⟨rfl, _, rfl⟩
  · have HR := hide' (fun w => run_fdiv _ _ _ w (rat_div (a := s.hi) (q := s.hi + s.mi) (by omega) hl (by omega)))
    have hne : ¬ (((s.hi + s.mi : Nat) : Int) = 0) := by omega
    clear h hl h0
    generalize s.hi + s.mi = A at *
    generalize rat s.hi A = R at *
    go_enter Try.func14, Try.ntmps14
    go_wp2_with fail
    go_quiet (fail)
    obtain ⟨y1, y2⟩ := HX.out nq
    rw [Hw.out]
    have hr := HR.out
    clear HX c1 c2 HR Hw
    go_wp2
    go_ret
    exact ⟨rfl, _, rfl⟩
end C
end Go.Proofs.Ytjmkofdnlhfaiaa
