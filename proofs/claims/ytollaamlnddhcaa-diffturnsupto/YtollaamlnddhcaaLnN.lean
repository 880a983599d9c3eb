import Derived.Test.YtollaamlnddhcaaLn
set_option linter.unusedVariables false
set_option linter.unusedSimpArgs false
namespace Go.Proofs.Ytollaamlnddhcaa
open Go.RowKit Go.Maps
theorem new_cell (w : World) (v : Value) (t : TypeId) : (w.alloc (.cells #[v] t)).cell? ⟨w.heap.size, 0, none⟩ = some v := by rw [Lib.cell_of_heap (heap_alloc_new w _)]; rfl
theorem new_frozen (w : World) (v : Value) (t : TypeId) : (w.alloc (.cells #[v] t)).frozen? ⟨w.heap.size, 0, none⟩ = false := Lib.frozen_of_heap (heap_alloc_new w _) 0
theorem box_cell (w : World) (v : Value) (t : TypeId) (o : Obj) : ((w.alloc (.cells #[v] t)).alloc o).cell? ⟨w.heap.size, 0, none⟩ = some v := (World.cell?_of_block (w := w.alloc (.cells #[v] t)) (Below.heap_alloc _ _ _ (by simp))).trans (new_cell w v t)
theorem box_frozen (w : World) (v : Value) (t : TypeId) (o : Obj) : ((w.alloc (.cells #[v] t)).alloc o).frozen? ⟨w.heap.size, 0, none⟩ = false := (World.frozen?_of_block (w := w.alloc (.cells #[v] t)) (Below.heap_alloc _ _ _ (by simp))).trans (new_frozen w v t)
theorem box_kept {w w1 : World} {v : Value} {t : TypeId} {o : Obj} {row : Option Nat} (hg : ((w.alloc (.cells #[v] t)).alloc o).grownBy w1 row) (hr : some w.heap.size ≠ row) : w1.cell? ⟨w.heap.size, 0, none⟩ = some v ∧ w1.frozen? ⟨w.heap.size, 0, none⟩ = false :=
  ⟨(World.cell?_of_block (hg.block _ (by simp; omega) hr)).trans (box_cell w v t o), (World.frozen?_of_block (hg.block _ (by simp; omega) hr)).trans (box_frozen w v t o)⟩
namespace I
end I
end Go.Proofs.Ytollaamlnddhcaa
