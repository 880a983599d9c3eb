import Derived.Test.YtmgiebbcnbbldaaBas
import Derived.Laws.Small
set_option linter.unusedVariables false
set_option linter.unusedSimpArgs false
namespace Go.Proofs.Ytmgiebbcnbbldaa
open Go.RowKit
namespace St
set_option maxRecDepth 100000 in
theorem above_low (x m : Int) (w : World) (h : x ≤ m) : Calls Try.prog 8 #[.int .i64 x, .int .i64 m] w fun e w' => e = .returned (.int .i64 0) ∧ w' = w := by
  go_enter Try.func8, Try.ntmps8
  go_wp2
  go_ret
  exact ⟨rfl, rfl⟩
set_option maxRecDepth 100000 in
theorem above_high (x m : Int) (w : World) (h : m < x) : Calls Try.prog 8 #[.int .i64 x, .int .i64 m] w fun e w' => e = .returned (.int .i64 (wrap64 (x - m))) ∧ w' = w := by
  go_enter Try.func8, Try.ntmps8
  go_wp2
  go_ret
  exact ⟨rfl, rfl⟩
set_option maxRecDepth 100000 in
theorem check_low (x : Int) (w : World) (h : x ≤ 4) : Calls Try.prog 4 #[.int .i64 x] w fun e w' => e = .returned (.int .i64 11) ∧ w' = w := by
  rcases Int.lt_or_eq_of_le h with h | rfl
  · go_enter Try.func4, Try.ntmps4
    go_wp2
    · go_ret
      exact ⟨rfl, rfl⟩
  · go_enter Try.func4, Try.ntmps4
    go_wp2
    go_ret
    exact ⟨rfl, rfl⟩
set_option maxRecDepth 100000 in
theorem rcheck_low (x : Int) (w : World) (h : x ≤ 4) : Calls Try.prog 5 #[.int .i64 x] w fun e w' => e = .returned (.int .i64 11) ∧ w' = w := by
  have H := hide' (above_low x 4 w h)
  go_enter Try.func5, Try.ntmps5
  go_wp2_with fail
  refine H.out.mono ?_
  rintro e wa ⟨rfl, rfl⟩
  go_wp2
  go_ret
  exact ⟨rfl, rfl⟩
set_option maxRecDepth 100000 in
theorem check_high (x : Int) (w : World) (h : 4 < x) (h2 : x ≤ 9223372036854775807) : Calls Try.prog 4 #[.int .i64 x] w fun e w' => e = .returned (.int .i64 (wrap64 (11 + wrap64 (3 * ((x - 4) / 2))))) ∧ w' = w := by
  go_enter Try.func4, Try.ntmps4
  go_wp2
  go_ret
  exact ⟨rfl, rfl⟩
set_option maxRecDepth 100000 in
theorem rcheck_high (x : Int) (w : World) (h : 4 < x) (h2 : x ≤ 9223372036854775807) : Calls Try.prog 5 #[.int .i64 x] w fun e w' => e = .returned (.int .i64 (wrap64 (11 + wrap64 (3 * ((x - 4) / 2))))) ∧ w' = w := by
  have hw : wrap64 (x - 4) = x - 4 := by unfold wrap64; omega
  have H0 := above_high x 4 w h
  rw [hw] at H0
  have H := hide' H0
  clear H0 hw
  go_enter Try.func5, Try.ntmps5
  go_wp2_with fail
  refine H.out.mono ?_
  rintro e wa ⟨rfl, rfl⟩
  go_wp2
  go_ret
  exact ⟨rfl, rfl⟩
set_option maxRecDepth 100000 in
theorem write_any (x y : Int) (w : World) : Calls Try.prog 6 #[.int .i64 x, .int .i64 y] w fun e w' => e = .returned (.int .i64 (wrap64 (wrap64 (11 + max x 0) + max y 0))) ∧ w' = w := by
  go_enter Try.func6, Try.ntmps6
  go_wp2
  · rw [Int.max_eq_right (a := x) (Int.le_of_lt (by assumption)), Int.max_eq_right (a := y) (Int.le_of_lt (by assumption)), Int.add_zero, Int.add_zero]
    go_ret
    exact ⟨rfl, rfl⟩
  · rw [Int.max_eq_right (a := x) (Int.le_of_lt (by assumption)), Int.max_eq_left (a := y) (by assumption)]
    go_ret
    exact ⟨rfl, rfl⟩
  · rw [Int.max_eq_left (a := x) (by assumption), Int.max_eq_right (a := y) (Int.le_of_lt (by assumption)), Int.add_zero]
    go_ret
    exact ⟨rfl, rfl⟩
  · rw [Int.max_eq_left (a := x) (by assumption), Int.max_eq_left (a := y) (by assumption)]
    go_ret
    exact ⟨rfl, rfl⟩
theorem above_max (x : Int) (w : World) (h2 : x ≤ 9223372036854775807) : Calls Try.prog 8 #[.int .i64 x, .int .i64 0] w fun e w' => e = .returned (.int .i64 (max x 0)) ∧ w' = w := by
  by_cases h : x ≤ 0
  · rw [Int.max_eq_right h]
    exact above_low x 0 w h
  · have hw : wrap64 (x - 0) = x := by unfold wrap64; omega
    have H := above_high x 0 w (by omega)
    rw [hw] at H
    rw [Int.max_eq_left (by omega)]
    exact H
set_option maxRecDepth 100000 in
theorem rwrite_any (x y : Int) (w : World) (h2 : x ≤ 9223372036854775807) (h3 : y ≤ 9223372036854775807) : Calls Try.prog 7 #[.int .i64 x, .int .i64 y] w fun e w' => e = .returned (.int .i64 (wrap64 (wrap64 (11 + max x 0) + max y 0))) ∧ w' = w := by
  have H1 := hide' (above_max x w h2)
  have H2 := hide' (above_max y w h3)
  clear h2 h3
  generalize max x 0 = mx at *
  generalize max y 0 = my at *
  go_enter Try.func7, Try.ntmps7
  go_wp2_with fail
  refine H1.out.mono ?_
  rintro e wa ⟨rfl, rfl⟩
  go_wp2_with fail
  refine H2.out.mono ?_
  rintro e wa ⟨rfl, rfl⟩
  go_wp2
  go_ret
  exact ⟨rfl, rfl⟩
/-- both of a check's reckonings -/
theorem check_both (x : Int) (h2 : x ≤ 9223372036854775807) : ∃ c, (∀ w, Calls Try.prog 4 #[.int .i64 x] w fun e w' => e = .returned (.int .i64 c) ∧ w' = w) ∧ (∀ w, Calls Try.prog 5 #[.int .i64 x] w fun e w' => e = .returned (.int .i64 c) ∧ w' = w) := by
  by_cases h : x ≤ 4
  · exact ⟨_, fun w => check_low x w h, fun w => rcheck_low x w h⟩
  · exact ⟨_, fun w => check_high x w (by omega) h2, fun w => rcheck_high x w (by omega) h2⟩
set_option maxRecDepth 100000 in
theorem storeCosts_walk (x y : Int) (w : World) (h2 : x ≤ 9223372036854775807) (h3 : y ≤ 9223372036854775807) : Calls Try.prog 3 #[.int .i64 x, .int .i64 y] w fun e w' => e = .returned (.bool true) ∧ Below w.heap.size w w' := by
  obtain ⟨c, H1, H2⟩ := check_both x h2
  have H1 := hide' (H1 w)
  have H2 := hide' (H2 w)
  have H3 := hide' (write_any x y w)
  have H4 := hide' (rwrite_any x y w h2 h3)
  clear h2 h3
  generalize wrap64 (wrap64 (11 + max x 0) + max y 0) = d at *
  go_enter Try.func3, Try.ntmps3
  go_wp2_with fail
  refine H1.out.mono ?_
  rintro e wa ⟨rfl, rfl⟩
  go_wp2_with fail
  refine H2.out.mono ?_
  rintro e wa ⟨rfl, rfl⟩
  go_wp2_with fail
  refine H3.out.mono ?_
  rintro e wa ⟨rfl, rfl⟩
  go_wp2_with fail
  refine H4.out.mono ?_
  rintro e wa ⟨rfl, rfl⟩
  go_wp2
  go_ret
  exact ⟨rfl, Below.refl _ _⟩
end St
end Go.Proofs.Ytmgiebbcnbbldaa
