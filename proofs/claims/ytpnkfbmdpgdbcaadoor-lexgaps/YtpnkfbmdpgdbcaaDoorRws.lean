import Derived.Test.YtpnkfbmdpgdbcaaDoorFun
import Derived.KernelRfl
set_option linter.unusedVariables false
set_option linter.unusedSimpArgs false
namespace Go.Proofs.YtpnkfbmdpgdbcaaDoor
open Go.RowKit
/-- a row of tokens, one by one -/
theorem rows_at {w : World} {B : Nat} {v : Value} {r : List Tkn} (h : w.ownsRow B 29 4 v r.length (r.flatMap cells4)) (h0 : r ≠ []) :
    ∃ g cap, v = .slice (some ⟨g, 0, none⟩) r.length cap ∧ r.length ≤ cap ∧ B ≤ g ∧ g < w.heap.size ∧ ∀ i x, r[i]? = some x → w.cell? ⟨g, i * 4, none⟩ = some (.int .i8 x.1) ∧ w.cell? ⟨g, i * 4 + 1, none⟩ = some (.string x.2.1) ∧ w.cell? ⟨g, i * 4 + 2, none⟩ = some (.int .i64 x.2.2.1) ∧ w.cell? ⟨g, i * 4 + 3, none⟩ = some (.int .i64 x.2.2.2) := by
  rcases h.2 with ⟨_, h2⟩ | ⟨g, cap, cur, hv, hB, hg, hc, hrest⟩
  · exact absurd (List.eq_nil_of_length_eq_zero h2) h0
  · subst hv
    have hcells := h.cells rfl
    have hlt := (h.lt g rfl).2
    refine ⟨g, cap, rfl, hc, hB, hlt, fun i x hx => ?_⟩
    have hat : ∀ k, k < 4 → (r.flatMap cells4)[i * 4 + k]? = (cells4 x)[k]? := by
      clear hcells h hlt hc hrest
      induction r generalizing i with
      | nil => simp at hx
      | cons y ys ih =>
        intro k hk
        cases i with
        | zero =>
          simp only [List.getElem?_cons_zero, Option.some.injEq] at hx
          subst hx
          rw [List.flatMap_cons, Nat.zero_mul, Nat.zero_add, List.getElem?_append_left (by simp [cells4]; omega)]
        | succ i =>
          rw [List.getElem?_cons_succ] at hx
          rw [List.flatMap_cons, List.getElem?_append_right (by simp [cells4]; omega)]
          have hys : ys ≠ [] := fun e => by rw [e] at hx; simp at hx
          have := ih hys i hx k hk
          rw [← this]
          congr 1
          simp [cells4]; omega
    have g0 := hcells (i * 4) _ (by rw [show i * 4 = i * 4 + 0 by omega, hat 0 (by omega)]; rfl)
    have g1 := hcells (i * 4 + 1) _ (by rw [hat 1 (by omega)]; rfl)
    have g2 := hcells (i * 4 + 2) _ (by rw [hat 2 (by omega)]; rfl)
    have g3 := hcells (i * 4 + 3) _ (by rw [hat 3 (by omega)]; rfl)
    rw [addr_add] at g0 g1 g2 g3
    exact ⟨g0, g1, g2, g3⟩

end Go.Proofs.YtpnkfbmdpgdbcaaDoor
