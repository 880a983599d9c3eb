import Derived.Test.YtbbopkhgmgdlfaaPoP
import Derived.Test.YtbbopkhgmgdlfaaStp
set_option linter.unusedVariables false
set_option linter.unusedSimpArgs false
namespace Go.Proofs.Ytbbopkhgmgdlfaa
open Go.RowKit
namespace M
variable {D : Nat → Prop} {B x : Nat} {ws : List Int} {tr : List Ac} {bad : Nat} {w w' : World}
/-- some memory of so many words, with at most so long a trace -/
def Some' (D : Nat → Prop) (B x n l : Nat) (w w' : World) : Prop := ∃ ws tr bad, ws.length = n ∧ tr.length ≤ l ∧ To D B x ws tr bad w w'
theorem put_len (ws : List Int) (a v : Int) : (put ws a v).length = ws.length := by unfold put; split <;> simp
theorem swp_len (ws : List Int) (a o v : Int) : (swp ws a o v).length = ws.length := by unfold swp; split <;> simp
theorem pfill_len (ws : List Int) (a n c : Int) : (pfill ws a n c).length = ws.length := by unfold pfill; split <;> simp [fil_len]
theorem To.alloc {ws' : List Int} {tr' : List Ac} {bad' : Nat} {o : Obj} (t : To D B x ws' tr' bad' (w.alloc o) w') : To D B x ws' tr' bad' w w' := by
  obtain ⟨D', h, t, s⟩ := t
  refine ⟨D', h, ((Turn.refl D w).alloc o).trans t, fun j hj => ?_⟩
  rcases s j hj with q | q
  · exact .inl q
  · simp at q; exact .inr (by omega)
theorem To.same (h : Mem D B x ws tr bad w) : To D B x ws tr bad w w := ⟨D, h, Turn.refl _ _, fun j hj => .inl hj⟩
theorem Mem.alloc (h : Mem D B x ws tr bad w) (o : Obj) : Mem D B x ws tr bad (w.alloc o) := h.below ((Below.refl _ _).alloc (Nat.le_refl _) o)
end M
end Go.Proofs.Ytbbopkhgmgdlfaa
