import Derived.Test.YtollaamlnddhcaaLnN
set_option linter.unusedVariables false
set_option linter.unusedSimpArgs false
namespace Go.Proofs.Ytollaamlnddhcaa
open Go.RowKit Go.Maps
namespace I
theorem infoE : (Try.prog.info? 3).map (fun i => (i.zero, i.size, i.bytes)) = some (some (.int .i64 0), 1, 8) := by kernel_rfl
/-- a slice of numbers that can be read -/
def Ints (to : Option Addr) (xs : List Int) (w : World) : Prop := xs = [] ∨ ∃ b off, to = some ⟨b, off, none⟩ ∧ b < w.heap.size ∧ ∀ i k, xs[i]? = some k → w.cell? ⟨b, off + i, none⟩ = some (.int .i64 k)
theorem Ints.turn {to : Option Addr} {xs : List Int} {w w' : World} {S : Nat → Prop} (h : Ints to xs w) (t : Turn S w w') (hS : xs ≠ [] → ∀ b off, to = some ⟨b, off, none⟩ → ¬ S b) : Ints to xs w' := by
  by_cases hn : xs = []
  · exact .inl hn
  rcases h with h | ⟨b, off, h1, h2, h3⟩
  · exact .inl h
  · exact .inr ⟨b, off, h1, Nat.lt_of_lt_of_le h2 t.size, fun i k q => (t.cell (p := ⟨b, off + i, none⟩) h2 (hS hn b off h1)).trans (h3 i k q)⟩
theorem Ints.below {to : Option Addr} {xs : List Int} {w w' : World} (h : Ints to xs w) (t : Below w.heap.size w w') : Ints to xs w' := h.turn (turn_below (S := fun _ => False) t) (fun _ _ _ _ q => q)
theorem Ints.at {to : Option Addr} {xs : List Int} {w : World} (h : Ints to xs w) {i : Nat} {k : Int} (q : xs[i]? = some k) : ∃ b off, to = some ⟨b, off, none⟩ ∧ b < w.heap.size ∧ w.cell? ⟨b, off + i, none⟩ = some (.int .i64 k) := by
  rcases h with rfl | ⟨b, off, h1, h2, h3⟩
  · simp at q
  · exact ⟨b, off, h1, h2, h3 i k q⟩
theorem alloc_cell {w w1 : World} {ob : Obj} {row : Option Nat} (hg : (w.alloc ob).grownBy w1 row) {x o : Nat} (hx : x < w.heap.size) (hr : some x ≠ row) : w1.cell? ⟨x, o, none⟩ = w.cell? ⟨x, o, none⟩ :=
  World.cell?_of_block (w := w) ((hg.block x (by simp; omega) hr).trans (Below.heap_alloc _ _ _ hx))
theorem alloc_frozen {w w1 : World} {ob : Obj} {row : Option Nat} (hg : (w.alloc ob).grownBy w1 row) {x o : Nat} (hx : x < w.heap.size) (hr : some x ≠ row) : w1.frozen? ⟨x, o, none⟩ = w.frozen? ⟨x, o, none⟩ :=
  World.frozen?_of_block (w := w) ((hg.block x (by simp; omega) hr).trans (Below.heap_alloc _ _ _ hx))
theorem Own.not {x bm : Nat} {ao : Option Addr} {j : Nat} (h1 : j ≠ x) (h2 : j ≠ bm) (h3 : ∀ a, ao = some a → j ≠ a.block) : ¬ Own x bm ao j := by
  rintro (q | q | ⟨a, ha, q⟩)
  · exact h1 q
  · exact h2 q
  · exact h3 a ha q
end I
end Go.Proofs.Ytollaamlnddhcaa
