import Derived.Test.YtnpbbejclkphgaaPlS
set_option linter.unusedVariables false
set_option linter.unusedSimpArgs false
namespace Go.Proofs.Ytnpbbejclkphgaa
open Go.RowKit
set_option maxHeartbeats 1000000 in
theorem first_any (w : World) :
    Calls Try.prog 6 #[] w fun e w' => e = .returned (.agg #[.int .i64 1, .int .i64 1]) ∧ Below w.heap.size w w' := by
  go_enter Try.func6, Try.ntmps6
  go_wp2
  refine bodyPost_ret_by (results_cell_row rfl _ _ w.heap.size 26 _ _ _ rfl (heap_alloc_new _ _) Try.underlying26 rfl (by kernel_rfl)) rfl ?_
  exact ⟨rfl, (Below.refl _ _).alloc (Nat.le_refl _) _⟩
theorem ret_two {a b c d : Int} (h : a = c) (k : b = d) : Ending.returned (.agg #[.int .i64 a, .int .i64 b]) = .returned (.agg #[.int .i64 c, .int .i64 d]) := by rw [h, k]
set_option maxHeartbeats 1000000 in
theorem behind_any (l c r : Int) (w : World) (hl : 0 ≤ l ∧ l ≤ 4294967296) (hc : 0 ≤ c ∧ c ≤ 4294967296) :
    Calls Try.prog 7 #[.agg #[.int .i64 l, .int .i64 c], .int .i32 r] w fun e w' => e = .returned (.agg #[.int .i64 (L.nxt (l, c) r).1, .int .i64 (L.nxt (l, c) r).2]) ∧ Below w.heap.size w w' := by
  by_cases h : r = 10
  · subst h
    go_enter Try.func7, Try.ntmps7
    go_wp2
    refine bodyPost_ret_by (results_cell_row rfl _ _ (w.heap.size + 1) 26 _ _ _ rfl (by simpa using heap_alloc_new (w.alloc _) _) Try.underlying26 rfl (by kernel_rfl)) rfl ?_
    exact ⟨ret_two (by simp [L.nxt]) rfl, ((Below.refl _ _).alloc (Nat.le_refl _) _).alloc (by simp) _⟩
  · have hr : (r == 10) = false := by simpa using h
    go_enter Try.func7, Try.ntmps7
    go_wp2
    refine bodyPost_ret_by (results_cell_row rfl _ _ (w.heap.size + 1) 26 _ _ _ rfl (by simpa using heap_alloc_new (w.alloc _) _) Try.underlying26 rfl (by kernel_rfl)) rfl ?_
    exact ⟨ret_two (by simp [L.nxt, h]) (by simp [L.nxt, h]), ((Below.refl _ _).alloc (Nat.le_refl _) _).alloc (by simp) _⟩
end Go.Proofs.Ytnpbbejclkphgaa
