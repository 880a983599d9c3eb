import Derived.Test.YtollaamlnddhcaaTurn
import Derived.Test.YtollaamlnddhcaaProg
import Derived.WalkKit
import Derived.ProofKit
import Derived.Laws.Cover2
import Derived.WalkLawsBesides
import Derived.WalkSpells
import Derived.Outline
import Derived.BigQuiet
import Derived.OwnWalk
import Derived.Recover
import Derived.Defers
set_option linter.unusedVariables false
set_option linter.unusedSimpArgs false
namespace Go.Proofs.Ytollaamlnddhcaa
open Go.RowKit
namespace M
theorem hide' {p : Prop} (h : p) : Hid p := h
/-- 8.1: a rule's condition, of a trust -/
def pass (cd : Int) (lv tr : Nat) : Bool := cd == 0 || (cd == 1 && (FloatKind.f64.format.order tr lv == some .gt || FloatKind.f64.format.order tr lv == some .eq)) || (cd == 2 && FloatKind.f64.format.order tr lv == some .lt)
set_option maxRecDepth 100000 in
theorem passes_any (c0 c1 c2 c3 : Value) (cd : Int) (lv tr : Nat) (w : World) : Calls Try.prog 69 #[.agg #[c0, c1, c2, c3, .int .i8 cd, .float .f64 lv], .float .f64 tr] w fun e w' => e = .returned (.bool (pass cd lv tr)) ∧ Below w.heap.size w w' := by
  go_enter Try.func69, Try.ntmps69
  go_wp2_with (fail)
  all_goals go_ret
  all_goals refine ⟨congrArg (Ending.returned ∘ Value.bool) (?_ : _ = pass cd lv tr), (Below.refl _ _).alloc (Nat.le_refl _) _⟩
  all_goals simp_all [pass]
set_option maxRecDepth 100000 in
theorem rpasses_any (c0 c1 c2 c3 : Value) (cd : Int) (lv tr : Nat) (w : World) : Calls Try.prog 82 #[.agg #[c0, c1, c2, c3, .int .i8 cd, .float .f64 lv], .float .f64 tr] w fun e w' => e = .returned (.bool (pass cd lv tr)) ∧ Below w.heap.size w w' := by
  go_enter Try.func82, Try.ntmps82
  go_wp2_with (fail)
  case inr h => exact absurd (not_or.1 h) (by assumption)
  all_goals go_ret
  all_goals refine ⟨congrArg (Ending.returned ∘ Value.bool) (?_ : _ = pass _ lv tr), (Below.refl _ _).alloc (Nat.le_refl _) _⟩
  all_goals simp_all [pass, beq_eq_false_iff_ne]
  rename_i h0 h1 h2
  rw [beq_eq_false_iff_ne.2 h0, beq_eq_false_iff_ne.2 h1, beq_eq_false_iff_ne.2 h2]; rfl
end M
end Go.Proofs.Ytollaamlnddhcaa
