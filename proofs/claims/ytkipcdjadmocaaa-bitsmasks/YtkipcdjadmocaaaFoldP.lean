import Derived.Test.YtkipcdjadmocaaaMaskedX
import Derived.Test.YtkipcdjadmocaaaOneP
set_option linter.unusedVariables false
set_option linter.unusedSimpArgs false
namespace Go.Proofs.Ytkipcdjadmocaaa
open Go.RowKit
def agg16 (a : Nat → Int) : Array Value := #[.int .i8 (a 0), .int .i8 (a 1), .int .i8 (a 2), .int .i8 (a 3), .int .i8 (a 4), .int .i8 (a 5), .int .i8 (a 6), .int .i8 (a 7), .int .i8 (a 8), .int .i8 (a 9), .int .i8 (a 10), .int .i8 (a 11), .int .i8 (a 12), .int .i8 (a 13), .int .i8 (a 14), .int .i8 (a 15)]
theorem cells40 : Try.prog.cellsOf 40 = 1 := by kernel_rfl
theorem part16 (xs : Array Value) (j : Nat) (v : Value) (w : World) (h : xs[j]? = some v) : (part 40 xs j).run Try.prog w = .ok v w := run_part_plain (P := Try.prog) (e := 40) w (show Try.prog.plainKey 40 = true by kernel_rfl) h
theorem eq_i8' (n : Nat) (a : Int) (w : World) : (Op.equalIn (n + 1) 40 (.int .i8 a) (.int .i8 a)).run Try.prog w = .ok true w := by
  simp only [Op.equalIn, Sem.run_bind, run_underlying Try.underlying40, Result.andThen_ok]
  simp
theorem eq_i8 (a : Int) (w : World) : (Op.equalIn 9999 40 (.int .i8 a) (.int .i8 a)).run Try.prog w = .ok true w := eq_i8' 9998 a w
set_option maxRecDepth 100000 in
theorem eq_sixteen (a : Nat → Int) (w : World) : (Op.equalIn 10000 41 (.agg #[.int .i8 (a 0), .int .i8 (a 1), .int .i8 (a 2), .int .i8 (a 3), .int .i8 (a 4), .int .i8 (a 5), .int .i8 (a 6), .int .i8 (a 7), .int .i8 (a 8), .int .i8 (a 9), .int .i8 (a 10), .int .i8 (a 11), .int .i8 (a 12), .int .i8 (a 13), .int .i8 (a 14), .int .i8 (a 15)]) (.agg #[.int .i8 (a 0), .int .i8 (a 1), .int .i8 (a 2), .int .i8 (a 3), .int .i8 (a 4), .int .i8 (a 5), .int .i8 (a 6), .int .i8 (a 7), .int .i8 (a 8), .int .i8 (a 9), .int .i8 (a 10), .int .i8 (a 11), .int .i8 (a 12), .int .i8 (a 13), .int .i8 (a 14), .int .i8 (a 15)])).run Try.prog w = .ok true w := by
  obtain ⟨i0, hi, hz0, hz1, hz2⟩ := info_parts info40
  show (Op.equalIn (9999 + 1) 41 _ _).run Try.prog w = .ok true w
  rw [run_equalIn_array (P := Try.prog) w 9999 (t := 41) (e := 40) (n := 16) (i := i0) _ _ Try.underlying41 hi, cells40, show List.range 16 = [0, 1, 2, 3, 4, 5, 6, 7, 8, 9, 10, 11, 12, 13, 14, 15] from rfl]
  have h0 := fun w => part16 #[.int .i8 (a 0), .int .i8 (a 1), .int .i8 (a 2), .int .i8 (a 3), .int .i8 (a 4), .int .i8 (a 5), .int .i8 (a 6), .int .i8 (a 7), .int .i8 (a 8), .int .i8 (a 9), .int .i8 (a 10), .int .i8 (a 11), .int .i8 (a 12), .int .i8 (a 13), .int .i8 (a 14), .int .i8 (a 15)] 0 (.int .i8 (a 0)) w rfl
  have h1 := fun w => part16 #[.int .i8 (a 0), .int .i8 (a 1), .int .i8 (a 2), .int .i8 (a 3), .int .i8 (a 4), .int .i8 (a 5), .int .i8 (a 6), .int .i8 (a 7), .int .i8 (a 8), .int .i8 (a 9), .int .i8 (a 10), .int .i8 (a 11), .int .i8 (a 12), .int .i8 (a 13), .int .i8 (a 14), .int .i8 (a 15)] 1 (.int .i8 (a 1)) w rfl
  have h2 := fun w => part16 #[.int .i8 (a 0), .int .i8 (a 1), .int .i8 (a 2), .int .i8 (a 3), .int .i8 (a 4), .int .i8 (a 5), .int .i8 (a 6), .int .i8 (a 7), .int .i8 (a 8), .int .i8 (a 9), .int .i8 (a 10), .int .i8 (a 11), .int .i8 (a 12), .int .i8 (a 13), .int .i8 (a 14), .int .i8 (a 15)] 2 (.int .i8 (a 2)) w rfl
  have h3 := fun w => part16 #[.int .i8 (a 0), .int .i8 (a 1), .int .i8 (a 2), .int .i8 (a 3), .int .i8 (a 4), .int .i8 (a 5), .int .i8 (a 6), .int .i8 (a 7), .int .i8 (a 8), .int .i8 (a 9), .int .i8 (a 10), .int .i8 (a 11), .int .i8 (a 12), .int .i8 (a 13), .int .i8 (a 14), .int .i8 (a 15)] 3 (.int .i8 (a 3)) w rfl
  have h4 := fun w => part16 #[.int .i8 (a 0), .int .i8 (a 1), .int .i8 (a 2), .int .i8 (a 3), .int .i8 (a 4), .int .i8 (a 5), .int .i8 (a 6), .int .i8 (a 7), .int .i8 (a 8), .int .i8 (a 9), .int .i8 (a 10), .int .i8 (a 11), .int .i8 (a 12), .int .i8 (a 13), .int .i8 (a 14), .int .i8 (a 15)] 4 (.int .i8 (a 4)) w rfl
  have h5 := fun w => part16 #[.int .i8 (a 0), .int .i8 (a 1), .int .i8 (a 2), .int .i8 (a 3), .int .i8 (a 4), .int .i8 (a 5), .int .i8 (a 6), .int .i8 (a 7), .int .i8 (a 8), .int .i8 (a 9), .int .i8 (a 10), .int .i8 (a 11), .int .i8 (a 12), .int .i8 (a 13), .int .i8 (a 14), .int .i8 (a 15)] 5 (.int .i8 (a 5)) w rfl
  have h6 := fun w => part16 #[.int .i8 (a 0), .int .i8 (a 1), .int .i8 (a 2), .int .i8 (a 3), .int .i8 (a 4), .int .i8 (a 5), .int .i8 (a 6), .int .i8 (a 7), .int .i8 (a 8), .int .i8 (a 9), .int .i8 (a 10), .int .i8 (a 11), .int .i8 (a 12), .int .i8 (a 13), .int .i8 (a 14), .int .i8 (a 15)] 6 (.int .i8 (a 6)) w rfl
  have h7 := fun w => part16 #[.int .i8 (a 0), .int .i8 (a 1), .int .i8 (a 2), .int .i8 (a 3), .int .i8 (a 4), .int .i8 (a 5), .int .i8 (a 6), .int .i8 (a 7), .int .i8 (a 8), .int .i8 (a 9), .int .i8 (a 10), .int .i8 (a 11), .int .i8 (a 12), .int .i8 (a 13), .int .i8 (a 14), .int .i8 (a 15)] 7 (.int .i8 (a 7)) w rfl
  have h8 := fun w => part16 #[.int .i8 (a 0), .int .i8 (a 1), .int .i8 (a 2), .int .i8 (a 3), .int .i8 (a 4), .int .i8 (a 5), .int .i8 (a 6), .int .i8 (a 7), .int .i8 (a 8), .int .i8 (a 9), .int .i8 (a 10), .int .i8 (a 11), .int .i8 (a 12), .int .i8 (a 13), .int .i8 (a 14), .int .i8 (a 15)] 8 (.int .i8 (a 8)) w rfl
  have h9 := fun w => part16 #[.int .i8 (a 0), .int .i8 (a 1), .int .i8 (a 2), .int .i8 (a 3), .int .i8 (a 4), .int .i8 (a 5), .int .i8 (a 6), .int .i8 (a 7), .int .i8 (a 8), .int .i8 (a 9), .int .i8 (a 10), .int .i8 (a 11), .int .i8 (a 12), .int .i8 (a 13), .int .i8 (a 14), .int .i8 (a 15)] 9 (.int .i8 (a 9)) w rfl
  have h10 := fun w => part16 #[.int .i8 (a 0), .int .i8 (a 1), .int .i8 (a 2), .int .i8 (a 3), .int .i8 (a 4), .int .i8 (a 5), .int .i8 (a 6), .int .i8 (a 7), .int .i8 (a 8), .int .i8 (a 9), .int .i8 (a 10), .int .i8 (a 11), .int .i8 (a 12), .int .i8 (a 13), .int .i8 (a 14), .int .i8 (a 15)] 10 (.int .i8 (a 10)) w rfl
  have h11 := fun w => part16 #[.int .i8 (a 0), .int .i8 (a 1), .int .i8 (a 2), .int .i8 (a 3), .int .i8 (a 4), .int .i8 (a 5), .int .i8 (a 6), .int .i8 (a 7), .int .i8 (a 8), .int .i8 (a 9), .int .i8 (a 10), .int .i8 (a 11), .int .i8 (a 12), .int .i8 (a 13), .int .i8 (a 14), .int .i8 (a 15)] 11 (.int .i8 (a 11)) w rfl
  have h12 := fun w => part16 #[.int .i8 (a 0), .int .i8 (a 1), .int .i8 (a 2), .int .i8 (a 3), .int .i8 (a 4), .int .i8 (a 5), .int .i8 (a 6), .int .i8 (a 7), .int .i8 (a 8), .int .i8 (a 9), .int .i8 (a 10), .int .i8 (a 11), .int .i8 (a 12), .int .i8 (a 13), .int .i8 (a 14), .int .i8 (a 15)] 12 (.int .i8 (a 12)) w rfl
  have h13 := fun w => part16 #[.int .i8 (a 0), .int .i8 (a 1), .int .i8 (a 2), .int .i8 (a 3), .int .i8 (a 4), .int .i8 (a 5), .int .i8 (a 6), .int .i8 (a 7), .int .i8 (a 8), .int .i8 (a 9), .int .i8 (a 10), .int .i8 (a 11), .int .i8 (a 12), .int .i8 (a 13), .int .i8 (a 14), .int .i8 (a 15)] 13 (.int .i8 (a 13)) w rfl
  have h14 := fun w => part16 #[.int .i8 (a 0), .int .i8 (a 1), .int .i8 (a 2), .int .i8 (a 3), .int .i8 (a 4), .int .i8 (a 5), .int .i8 (a 6), .int .i8 (a 7), .int .i8 (a 8), .int .i8 (a 9), .int .i8 (a 10), .int .i8 (a 11), .int .i8 (a 12), .int .i8 (a 13), .int .i8 (a 14), .int .i8 (a 15)] 14 (.int .i8 (a 14)) w rfl
  have h15 := fun w => part16 #[.int .i8 (a 0), .int .i8 (a 1), .int .i8 (a 2), .int .i8 (a 3), .int .i8 (a 4), .int .i8 (a 5), .int .i8 (a 6), .int .i8 (a 7), .int .i8 (a 8), .int .i8 (a 9), .int .i8 (a 10), .int .i8 (a 11), .int .i8 (a 12), .int .i8 (a 13), .int .i8 (a 14), .int .i8 (a 15)] 15 (.int .i8 (a 15)) w rfl
  simp only [Op.eqItems, Sem.run_bind, Nat.mul_one, h0, h1, h2, h3, h4, h5, h6, h7, h8, h9, h10, h11, h12, h13, h14, h15, Result.andThen_ok, eq_i8]
  simp [h0, h1, h2, h3, h4, h5, h6, h7, h8, h9, h10, h11, h12, h13, h14, h15, eq_i8]
set_option maxHeartbeats 1000000 in
set_option maxRecDepth 100000 in
theorem fold_nil (w : World) : Calls Try.prog 35 #[.pointer none] w fun e w' => e = .returned (.int .u16 0) ∧ w' = w := by
  go_enter Try.func35, Try.ntmps35
  go_wp2
  go_ret
  exact ⟨rfl, rfl⟩
/-- sixteen small numbers lie in a block -/
def Lies (w : World) (b : Nat) (a : Nat → Int) : Prop := (∀ j, j < 16 → w.cell? ⟨b, j, none⟩ = some (.int .i8 (a j))) ∧ b < w.heap.size ∧ ∀ j, w.frozen? ⟨b, j, none⟩ = false
theorem lies_new (w : World) (a : Nat → Int) : Lies (w.alloc (.cells #[.int .i8 (a 0), .int .i8 (a 1), .int .i8 (a 2), .int .i8 (a 3), .int .i8 (a 4), .int .i8 (a 5), .int .i8 (a 6), .int .i8 (a 7), .int .i8 (a 8), .int .i8 (a 9), .int .i8 (a 10), .int .i8 (a 11), .int .i8 (a 12), .int .i8 (a 13), .int .i8 (a 14), .int .i8 (a 15)] 41)) w.heap.size a := by
  have hb1 := heap_alloc_new w (.cells #[.int .i8 (a 0), .int .i8 (a 1), .int .i8 (a 2), .int .i8 (a 3), .int .i8 (a 4), .int .i8 (a 5), .int .i8 (a 6), .int .i8 (a 7), .int .i8 (a 8), .int .i8 (a 9), .int .i8 (a 10), .int .i8 (a 11), .int .i8 (a 12), .int .i8 (a 13), .int .i8 (a 14), .int .i8 (a 15)] 41)
  refine ⟨fun j hj => ?_, by simp, fun j => Lib.frozen_of_heap hb1 j⟩
  rw [Lib.cell_of_heap hb1]
  rcases (by omega : j = 0 ∨ j = 1 ∨ j = 2 ∨ j = 3 ∨ j = 4 ∨ j = 5 ∨ j = 6 ∨ j = 7 ∨ j = 8 ∨ j = 9 ∨ j = 10 ∨ j = 11 ∨ j = 12 ∨ j = 13 ∨ j = 14 ∨ j = 15) with rfl | rfl | rfl | rfl | rfl | rfl | rfl | rfl | rfl | rfl | rfl | rfl | rfl | rfl | rfl | rfl <;> rfl
theorem Lies.turn {S : Nat → Prop} {w w' : World} {b : Nat} {a : Nat → Int} (h : Lies w b a) (t : Turn S w w') (hS : ¬ S b) : Lies w' b a :=
  ⟨fun j hj => (t.cell (p := ⟨b, j, none⟩) h.2.1 hS).trans (h.1 j hj), Nat.lt_of_lt_of_le h.2.1 t.size, fun j => by
    have e := t.block b h.2.1 hS
    have := h.2.2 j
    simp only [World.frozen?] at this ⊢
    rw [e]
    exact this⟩
theorem Lies.below {w w' : World} {b : Nat} {a : Nat → Int} (h : Lies w b a) (t : Below w.heap.size w w') : Lies w' b a := h.turn (turn_below' (S := fun _ => False) t) (fun q => q)
theorem Lies.put {w : World} {b i : Nat} {a a' : Nat → Int} {v : Int} (h : Lies w b a) (hi : i < 16) (hv : a' i = v) (ho : ∀ j, j ≠ i → a' j = a j) : Lies (w.setCell ⟨b, i, none⟩ (.int .i8 v)) b a' := by
  refine ⟨fun j hj => ?_, by rw [World.size_setCell]; exact h.2.1, fun j => by simp only [World.frozen?_setCell]; exact h.2.2 j⟩
  by_cases hji : j = i
  · subst hji
    rw [World.cell?_setCell_same _ _ _ (h.1 j hj), hv]
  · rw [World.cell?_setCell_other _ _ _ _ (fun q => hji (by simpa using (congrArg Addr.off q).symm)), h.1 j hj, ho j hji]
/-- the first of these, and the rest of those -/
def up (a z : Nat → Int) (k : Nat) : Nat → Int := fun j => if j < k then a j else z j
theorem Lies.step {w : World} {b : Nat} {a z : Nat → Int} (k : Nat) (hk : k < 16) (h : Lies w b (up a z k)) : Lies (w.setCell ⟨b, k, none⟩ (.int .i8 (a k))) b (up a z (k + 1)) :=
  h.put hk (by unfold up; rw [if_pos (by omega)]) (fun j hj => by
    unfold up
    by_cases h3 : j < k
    · rw [if_pos h3, if_pos (by omega)]
    · rw [if_neg h3, if_neg (by omega)])
theorem Lies.congr {w : World} {b : Nat} {a z : Nat → Int} (h : Lies w b a) (e : ∀ j, j < 16 → a j = z j) : Lies w b z := ⟨fun j hj => by rw [← e j hj]; exact h.1 j hj, h.2.1, h.2.2⟩
theorem lies_copy {w : World} {b : Nat} {z : Nat → Int} (a : Nat → Int) (h : Lies w b z) : Lies (((((((((((((((((w.setCell ⟨b, 0, none⟩ (.int .i8 (a 0))).setCell ⟨b, 1, none⟩ (.int .i8 (a 1))).setCell ⟨b, 2, none⟩ (.int .i8 (a 2))).setCell ⟨b, 3, none⟩ (.int .i8 (a 3))).setCell ⟨b, 4, none⟩ (.int .i8 (a 4))).setCell ⟨b, 5, none⟩ (.int .i8 (a 5))).setCell ⟨b, 6, none⟩ (.int .i8 (a 6))).setCell ⟨b, 7, none⟩ (.int .i8 (a 7))).setCell ⟨b, 8, none⟩ (.int .i8 (a 8))).setCell ⟨b, 9, none⟩ (.int .i8 (a 9))).setCell ⟨b, 10, none⟩ (.int .i8 (a 10))).setCell ⟨b, 11, none⟩ (.int .i8 (a 11))).setCell ⟨b, 12, none⟩ (.int .i8 (a 12))).setCell ⟨b, 13, none⟩ (.int .i8 (a 13))).setCell ⟨b, 14, none⟩ (.int .i8 (a 14))).setCell ⟨b, 15, none⟩ (.int .i8 (a 15)))) b a := by
  have h0 : Lies w b (up a z 0) := h.congr fun j _ => by simp [up]
  have h1 := Lies.step 0 (by omega) h0
  have h2 := Lies.step 1 (by omega) h1
  have h3 := Lies.step 2 (by omega) h2
  have h4 := Lies.step 3 (by omega) h3
  have h5 := Lies.step 4 (by omega) h4
  have h6 := Lies.step 5 (by omega) h5
  have h7 := Lies.step 6 (by omega) h6
  have h8 := Lies.step 7 (by omega) h7
  have h9 := Lies.step 8 (by omega) h8
  have h10 := Lies.step 9 (by omega) h9
  have h11 := Lies.step 10 (by omega) h10
  have h12 := Lies.step 11 (by omega) h11
  have h13 := Lies.step 12 (by omega) h12
  have h14 := Lies.step 13 (by omega) h13
  have h15 := Lies.step 14 (by omega) h14
  have h16 := Lies.step 15 (by omega) h15
  exact h16.congr fun j hj => by simp [up, hj]
theorem below_copy {B b : Nat} {w0 w : World} (a : Nat → Int) (hb : B ≤ b) (h : Below B w0 w) : Below B w0 (((((((((((((((((w.setCell ⟨b, 0, none⟩ (.int .i8 (a 0))).setCell ⟨b, 1, none⟩ (.int .i8 (a 1))).setCell ⟨b, 2, none⟩ (.int .i8 (a 2))).setCell ⟨b, 3, none⟩ (.int .i8 (a 3))).setCell ⟨b, 4, none⟩ (.int .i8 (a 4))).setCell ⟨b, 5, none⟩ (.int .i8 (a 5))).setCell ⟨b, 6, none⟩ (.int .i8 (a 6))).setCell ⟨b, 7, none⟩ (.int .i8 (a 7))).setCell ⟨b, 8, none⟩ (.int .i8 (a 8))).setCell ⟨b, 9, none⟩ (.int .i8 (a 9))).setCell ⟨b, 10, none⟩ (.int .i8 (a 10))).setCell ⟨b, 11, none⟩ (.int .i8 (a 11))).setCell ⟨b, 12, none⟩ (.int .i8 (a 12))).setCell ⟨b, 13, none⟩ (.int .i8 (a 13))).setCell ⟨b, 14, none⟩ (.int .i8 (a 14))).setCell ⟨b, 15, none⟩ (.int .i8 (a 15)))) :=
  ((((((((((((((((h.setCell hb _).setCell hb _).setCell hb _).setCell hb _).setCell hb _).setCell hb _).setCell hb _).setCell hb _).setCell hb _).setCell hb _).setCell hb _).setCell hb _).setCell hb _).setCell hb _).setCell hb _).setCell hb _)
end Go.Proofs.Ytkipcdjadmocaaa
