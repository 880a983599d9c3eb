import Derived.Test.YtbbopkhgmgdlfaaOwnW
set_option linter.unusedVariables false
set_option linter.unusedSimpArgs false
namespace Go.Proofs.Ytbbopkhgmgdlfaa
open Go.RowKit
namespace F
open M
variable {w w' : World}
theorem setCells_block {b : Nat} {t : TypeId} : ∀ (vs : List Value) (o : Nat) (w : World) (cs : Array Value), w.heap[b]? = some (.cells cs t (0, 0)) → ∃ cs', (w.setCells b o vs).heap[b]? = some (.cells cs' t (0, 0)) ∧ cs'.size = cs.size ∧ Turn (fun j => j = b) w (w.setCells b o vs) := by
  intro vs
  induction vs with
  | nil => intro o w cs h; exact ⟨cs, h, rfl, Turn.refl _ _⟩
  | cons v r ih =>
    intro o w cs h
    obtain ⟨cs', h1, h2, h3⟩ := ih (o + 1) (w.setCell ⟨b, o, none⟩ v) _ (set_block h)
    have t1 : Turn (fun k => k = b) w (w.setCell ⟨b, o, none⟩ v) := (Turn.refl (fun k => k = b) w).setCell (p := ⟨b, o, none⟩) (fun _ => rfl) _
    exact ⟨cs', h1, by rw [h2]; simp, t1.trans h3⟩
/-- a row whose contents are of no matter -/
def Any5 (B : Nat) (ro : Option Addr) (n rc : Nat) (w : World) : Prop := (ro = none ∧ n = 0 ∧ rc = 0) ∨ ∃ g cur, ro = some ⟨g, 0, none⟩ ∧ B ≤ g ∧ w.heap[g]? = some (.cells cur 75 (0, 0)) ∧ n ≤ rc ∧ rc ≤ maxLen ∧ cur.size = rc * 5
theorem any5_of {B n rc : Nat} {ro : Option Addr} {xs : List Value} (h : w.ownsRow B 75 5 (.slice ro n rc) n xs) : Any5 B ro n rc w := by
  rcases h.2 with ⟨hv, h0⟩ | ⟨g, cap, cur, hv, hb, hg, h1, h2, h3, h4⟩
  · simp only [Value.slice.injEq] at hv
    exact .inl ⟨hv.1, hv.2.1, hv.2.2⟩
  · simp only [Value.slice.injEq] at hv
    obtain ⟨rfl, _, rfl⟩ := hv
    exact .inr ⟨g, cur, rfl, hb, hg, h1, h2, h3⟩
theorem any5_to {B n rc : Nat} {ro : Option Addr} (h : Any5 B ro n rc w) : ∃ xs, w.ownsRow B 75 5 (.slice ro n rc) n xs := by
  rcases h with ⟨rfl, rfl, rfl⟩ | ⟨g, cur, rfl, hb, hg, h1, h2, h3⟩
  · exact ⟨[], World.ownsRow_nil _ _ _ _⟩
  · refine ⟨cur.toList.take (n * 5), ?_, .inr ⟨g, rc, cur, rfl, hb, hg, h1, h2, h3, rfl⟩⟩
    rw [List.length_take, Array.length_toList, h3]
    have := Nat.mul_le_mul_right 5 h1
    omega
end F
end Go.Proofs.Ytbbopkhgmgdlfaa
