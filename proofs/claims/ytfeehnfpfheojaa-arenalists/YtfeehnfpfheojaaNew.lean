import Derived.Test.YtfeehnfpfheojaaFour
set_option linter.unusedVariables false
set_option linter.unusedSimpArgs false
namespace Go.Proofs.Ytfeehnfpfheojaa
open Go.RowKit
namespace M
variable {D : Nat → Prop} {B x : Nat} {ws : List Int} {tr : List Ac} {bad : Nat} {w w' : World}
set_option maxRecDepth 100000 in
set_option maxHeartbeats 1000000 in
theorem new_no (n : Int) (w : World) (h : n < 1 ∨ 65536 < n) : Calls Try.prog 31 #[.int .i64 n] w fun e w' => e = .returned (.tuple #[.pointer none, .int .i64 3]) ∧ w' = w := by
  by_cases h1 : n < 1
  · clear h
    go_enter Try.func31, Try.ntmps31
    go_wp2
    go_ret2
    exact ⟨rfl, rfl⟩
  · have h2 : 65536 < n := by omega
    clear h
    go_enter Try.func31, Try.ntmps31
    go_wp2
    go_ret2
    exact ⟨rfl, rfl⟩
theorem info3 : (Try.prog.info? 3).map (fun i => (i.zero, i.size, i.bytes)) = some (some (.int .i64 0), 1, 8) := by kernel_rfl
theorem words_none (n : Nat) : madeCells #[.int .i64 0] n = words (List.replicate n 0) := by
  apply Array.ext_getElem?
  intro j
  by_cases hj : j < n
  · rw [words_at _ _ (by simpa using hj)]; simp [madeCells, hj, Nat.mod_one, List.getD, List.getElem?_replicate]
  · simp [words, madeCells, hj, List.getElem?_replicate]
theorem make_any (n : Nat) (hr : n ≤ 65536) (L : Int) (hL : L = (n : Nat)) (w : World) : (Instr.makeSlice 22 (.int .i64 L) (.int .i64 L)).run Try.prog w = .ok (.slice (some ⟨w.heap.size, 0, none⟩) n n) (w.alloc (.cells (words (List.replicate n 0)) 3)) := by
  obtain ⟨i0, hi, hz0, hz1, hz2⟩ := info_parts info3
  rw [hL]
  have := run_make (P := Try.prog) w 22 3 i0 _ Try.underlying22 hi hz0 .i64 .i64 (n : Nat) (n : Nat) (by omega) (Int.le_refl _) (by rw [hz2]; omega) (by omega)
  rw [this, hz1]
  simp only [Int.toNat_natCast, Nat.mul_one]
  rw [show (Value.int .i64 0).cells = #[Value.int .i64 0] from rfl, words_none]
theorem new_end (n : Nat) (h1 : 0 < n) (hr : n ≤ 65536) (w : World) : ∃ D, Mem D w.heap.size (w.heap.size + 1) (List.replicate n 0) [] 0 ((w.alloc (.cells (words (List.replicate n 0)) 3)).alloc (.cells #[.slice (some ⟨w.heap.size, 0, none⟩) n n, .slice none 0 0, .int .i64 0] 137)) := by
  refine ⟨_, Nat.le_refl _, w.heap.size, none, 0, ⟨?_, ?_, World.ownsRow_nil _ _ _ _, by omega, Nat.le_refl _, by simpa using h1, by simpa using hr, fun _ => rfl⟩, fun _ => Iff.rfl⟩
  · have := heap_alloc_new (w.alloc (.cells (words (List.replicate n 0)) 3)) (.cells #[.slice (some ⟨w.heap.size, 0, none⟩) n n, .slice none 0 0, .int .i64 0] 137)
    simpa using this
  · rw [Below.heap_alloc _ _ _ (by simp)]; exact heap_alloc_new _ _
set_option maxRecDepth 100000 in
set_option maxHeartbeats 1000000 in
theorem new_any (n : Nat) (w : World) (h1 : 0 < n) (h2 : n ≤ 65536) (L : Int) (hL : L = (n : Nat)) : Calls Try.prog 31 #[.int .i64 L] w fun e w' => ∃ x, e = .returned (.tuple #[.pointer (some ⟨x, 0, none⟩), .int .i64 0]) ∧ ∃ D, Mem D w.heap.size x (List.replicate n 0) [] 0 w' ∧ Below w.heap.size w w' := by
  have hmk := fun w => make_any n h2 L hL w
  have Hf := hide' (new_end n h1 h2 w)
  have fin : ∀ o1 o2 : Obj, Below w.heap.size w ((w.alloc o1).alloc o2) := fun o1 o2 => ((Below.refl _ _).alloc (Nat.le_refl _) _).alloc (by simp) _
  have a1 : 1 ≤ L := by omega
  have a2 : L ≤ 65536 := by omega
  clear h1 h2 hL
  generalize words (List.replicate n 0) = R at *
  generalize List.replicate n (0 : Int) = R0 at *
  go_enter Try.func31, Try.ntmps31
  go_wp2
  go_ret2
  obtain ⟨D, hD⟩ := Hf.out
  exact ⟨w.heap.size + 1, rfl, D, hD, fin _ _⟩
end M
end Go.Proofs.Ytfeehnfpfheojaa
