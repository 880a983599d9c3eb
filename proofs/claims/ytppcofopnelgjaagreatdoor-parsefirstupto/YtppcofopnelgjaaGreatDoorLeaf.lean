import Derived.Test.YtppcofopnelgjaaGreatDoorRows
import Derived.Test.YtppcofopnelgjaaGreatDoorLxP
import Derived.WalkKit
import Derived.WalkSpells
import Derived.WalkLawsBesides
import Derived.Below
import Derived.Laws.RangeAny
import Derived.LoopTactic
set_option linter.unusedVariables false
set_option linter.unusedSimpArgs false
namespace Go.Proofs.YtppcofopnelgjaaGreatDoor
open Go.RowKit

theorem hide' {p : Prop} (h : p) : Hid p := h
theorem ret_bool {a b : Bool} (h : a = b) : Ending.returned (.bool a) = .returned (.bool b) := by rw [h]

set_option maxRecDepth 100000 in
set_option maxHeartbeats 1000000 in
theorem isBlank_any (r : Int) (w : World) : Calls Tryz.prog 119 #[.int .i32 r] w fun e w' => e = .returned (.bool (L.isBlank r)) ∧ w' = w := by
  go_enter Tryz.func119, Tryz.ntmps119
  go_wp2
  all_goals go_ret
  all_goals
    refine ⟨ret_bool ?_, rfl⟩
    try simp only [L.isBlank, L.isDigit]
    try simp only [beq_iff_eq, beq_eq_false_iff_ne, ne_eq, bne_iff_ne, bne_eq_false_iff_eq, decide_eq_true_eq, decide_eq_false_iff_not] at *
    first | done | rfl | (simp_all; done) | (rw [Bool.eq_iff_iff]; simp; omega) | (simp; omega)
set_option maxRecDepth 100000 in
set_option maxHeartbeats 1000000 in
theorem isLetter_any (r : Int) (w : World) : Calls Tryz.prog 96 #[.int .i32 r] w fun e w' => e = .returned (.bool (L.isLetter r)) ∧ w' = w := by
  go_enter Tryz.func96, Tryz.ntmps96
  go_wp2
  all_goals go_ret
  all_goals
    refine ⟨ret_bool ?_, rfl⟩
    try simp only [L.isLetter, L.isDigit]
    try simp only [beq_iff_eq, beq_eq_false_iff_ne, ne_eq, bne_iff_ne, bne_eq_false_iff_eq, decide_eq_true_eq, decide_eq_false_iff_not] at *
    first | done | rfl | (simp_all; done) | (rw [Bool.eq_iff_iff]; simp; omega) | (simp; omega)
set_option maxRecDepth 100000 in
set_option maxHeartbeats 1000000 in
theorem isDigit_any (r : Int) (w : World) : Calls Tryz.prog 98 #[.int .i32 r] w fun e w' => e = .returned (.bool (L.isDigit r)) ∧ w' = w := by
  go_enter Tryz.func98, Tryz.ntmps98
  go_wp2
  all_goals go_ret
  all_goals
    refine ⟨ret_bool ?_, rfl⟩
    try simp only [L.isDigit, L.isDigit]
    try simp only [beq_iff_eq, beq_eq_false_iff_ne, ne_eq, bne_iff_ne, bne_eq_false_iff_eq, decide_eq_true_eq, decide_eq_false_iff_not] at *
    first | done | rfl | (simp_all; done) | (rw [Bool.eq_iff_iff]; simp; omega) | (simp; omega)
set_option maxRecDepth 100000 in
set_option maxHeartbeats 1000000 in
theorem isSign_any (r : Int) (w : World) : Calls Tryz.prog 100 #[.int .i32 r] w fun e w' => e = .returned (.bool (L.isSign r)) ∧ w' = w := by
  go_enter Tryz.func100, Tryz.ntmps100
  go_wp2
  all_goals go_ret
  all_goals
    refine ⟨ret_bool ?_, rfl⟩
    try simp only [L.isSign, L.isDigit]
    try simp only [beq_iff_eq, beq_eq_false_iff_ne, ne_eq, bne_iff_ne, bne_eq_false_iff_eq, decide_eq_true_eq, decide_eq_false_iff_not] at *
    first | done | rfl | (simp_all; done) | (rw [Bool.eq_iff_iff]; simp; omega) | (simp; omega)
set_option maxRecDepth 100000 in
set_option maxHeartbeats 1000000 in
theorem inLine_any (r : Int) (w : World) : Calls Tryz.prog 120 #[.int .i32 r] w fun e w' => e = .returned (.bool (L.inLine r)) ∧ w' = w := by
  go_enter Tryz.func120, Tryz.ntmps120
  go_wp2
  all_goals go_ret
  all_goals
    refine ⟨ret_bool ?_, rfl⟩
    try simp only [L.inLine, L.isDigit]
    try simp only [beq_iff_eq, beq_eq_false_iff_ne, ne_eq, bne_iff_ne, bne_eq_false_iff_eq, decide_eq_true_eq, decide_eq_false_iff_not] at *
    first | done | rfl | (simp_all; done) | (rw [Bool.eq_iff_iff]; simp; omega) | (simp; omega)
set_option maxRecDepth 100000 in
set_option maxHeartbeats 1000000 in
theorem isHex_any (r : Int) (w : World) : Calls Tryz.prog 148 #[.int .i32 r] w fun e w' => e = .returned (.bool (L.isHex r)) ∧ w' = w := by
  cases hd : L.isDigit r
  all_goals
    go_enter Tryz.func148, Tryz.ntmps148
    go_wp2_with (go_at_call 98; refine (isDigit_any _ _).mono ?_; rintro e w1 ⟨rfl, hw1⟩; replace hw1 := hw1.symm; subst hw1)
    all_goals go_ret
    all_goals
      refine ⟨ret_bool ?_, rfl⟩
      simp only [L.isHex, hd]
      first | (simp_all; done) | (rw [Bool.eq_iff_iff]; simp_all; omega) | (simp_all; omega)
set_option maxRecDepth 100000 in
set_option maxHeartbeats 1000000 in
theorem inWord_any (r : Int) (w : World) : Calls Tryz.prog 122 #[.int .i32 r] w fun e w' => e = .returned (.bool (L.inWord r)) ∧ w' = w := by
  cases hl : L.isLetter r <;> cases hd : L.isDigit r
  all_goals
    go_enter Tryz.func122, Tryz.ntmps122
    go_wp2_with (first | (go_at_call 96; refine (isLetter_any _ _).mono ?_; rintro e w1 ⟨rfl, hw1⟩; replace hw1 := hw1.symm; subst hw1) | (go_at_call 98; refine (isDigit_any _ _).mono ?_; rintro e w1 ⟨rfl, hw1⟩; replace hw1 := hw1.symm; subst hw1))
    all_goals go_ret
    all_goals
      refine ⟨ret_bool ?_, rfl⟩
      simp [L.inWord, hl, hd]
set_option maxRecDepth 100000 in
set_option maxHeartbeats 1000000 in
theorem inRun_any (r : Int) (w : World) : Calls Tryz.prog 123 #[.int .i32 r] w fun e w' => e = .returned (.bool (L.inRun r)) ∧ w' = w := by
  cases hl : L.inWord r
  all_goals
    go_enter Tryz.func123, Tryz.ntmps123
    go_wp2_with (go_at_call 122; refine (inWord_any _ _).mono ?_; rintro e w1 ⟨rfl, hw1⟩; replace hw1 := hw1.symm; subst hw1)
    all_goals go_ret
    all_goals
      refine ⟨ret_bool ?_, rfl⟩
      simp [L.inRun, hl]

/-! places -/
set_option maxHeartbeats 1000000 in
theorem first_any (w : World) :
    Calls Tryz.prog 68 #[] w fun e w' => e = .returned (.agg #[.int .i64 1, .int .i64 1]) ∧ Below w.heap.size w w' := by
  go_enter Tryz.func68, Tryz.ntmps68
  go_wp2
  refine bodyPost_ret_by (results_cell_row rfl _ _ w.heap.size 135 _ _ _ rfl (heap_alloc_new _ _) Tryz.underlying135 rfl (by kernel_rfl)) rfl ?_
  exact ⟨rfl, (Below.refl _ _).alloc (Nat.le_refl _) _⟩
theorem ret_two {a b c d : Int} (h : a = c) (k : b = d) : Ending.returned (.agg #[.int .i64 a, .int .i64 b]) = .returned (.agg #[.int .i64 c, .int .i64 d]) := by rw [h, k]
set_option maxHeartbeats 1000000 in
theorem behind_any (l c r : Int) (w : World) (hl : 0 ≤ l ∧ l ≤ 4294967296) (hc : 0 ≤ c ∧ c ≤ 4294967296) :
    Calls Tryz.prog 139 #[.agg #[.int .i64 l, .int .i64 c], .int .i32 r] w fun e w' => e = .returned (.agg #[.int .i64 (L.nxt (l, c) r).1, .int .i64 (L.nxt (l, c) r).2]) ∧ Below w.heap.size w w' := by
  by_cases h : r = 10
  · subst h
    go_enter Tryz.func139, Tryz.ntmps139
    go_wp2
    refine bodyPost_ret_by (results_cell_row rfl _ _ (w.heap.size + 1) 135 _ _ _ rfl (by simpa using heap_alloc_new (w.alloc _) _) Tryz.underlying135 rfl (by kernel_rfl)) rfl ?_
    exact ⟨ret_two (by simp [L.nxt]) rfl, ((Below.refl _ _).alloc (Nat.le_refl _) _).alloc (by simp) _⟩
  · have hr : (r == 10) = false := by simpa using h
    go_enter Tryz.func139, Tryz.ntmps139
    go_wp2
    refine bodyPost_ret_by (results_cell_row rfl _ _ (w.heap.size + 1) 135 _ _ _ rfl (by simpa using heap_alloc_new (w.alloc _) _) Tryz.underlying135 rfl (by kernel_rfl)) rfl ?_
    exact ⟨ret_two (by simp [L.nxt, h]) (by simp [L.nxt, h]), ((Below.refl _ _).alloc (Nat.le_refl _) _).alloc (by simp) _⟩
/-- a token as a value -/
def tokV (k : Int) (t : ByteArray) (l c : Int) : Value := .agg #[.int .i8 k, .string t, .int .i64 l, .int .i64 c]
set_option maxHeartbeats 1000000 in
theorem ptoken_any (l c k : Int) (t : ByteArray) (w : World) :
    Calls Tryz.prog 95 #[.agg #[.int .i64 l, .int .i64 c], .int .i8 k, .string t] w fun e w' => e = .returned (tokV k t l c) ∧ Below w.heap.size w w' := by
  go_enter Tryz.func95, Tryz.ntmps95
  go_wp2
  refine bodyPost_ret_by (results_cell_row rfl _ _ (w.heap.size + 1) 44 _ _ _ rfl (by simpa using heap_alloc_new (w.alloc _) _) Tryz.underlying44 rfl (by kernel_rfl)) rfl ?_
  exact ⟨rfl, ((Below.refl _ _).alloc (Nat.le_refl _) _).alloc (by simp) _⟩
/-- a fault lies at a block -/
def Flt (fb : Nat) (code l c : Int) (word : ByteArray) (w : World) : Prop := w.heap[fb]? = some (.cells #[.int .i64 code, .int .i64 l, .int .i64 c, .string word] 26 (0, 0))
set_option maxHeartbeats 1000000 in
theorem pfault_any (l c k : Int) (t : ByteArray) (w : World) :
    Calls Tryz.prog 103 #[.agg #[.int .i64 l, .int .i64 c], .int .i64 k, .string t] w fun e w' => ∃ fb, e = .returned (.pointer (some ⟨fb, 0, none⟩)) ∧ w.heap.size ≤ fb ∧ Flt fb k l c t w' ∧ Below w.heap.size w w' := by
  go_enter Tryz.func103, Tryz.ntmps103
  go_wp2
  go_ret
  exact ⟨w.heap.size + 1, rfl, by omega, by unfold Flt; simpa using heap_alloc_new (w.alloc _) _, ((Below.refl _ _).alloc (Nat.le_refl _) _).alloc (by simp) _⟩
end Go.Proofs.YtppcofopnelgjaaGreatDoor
