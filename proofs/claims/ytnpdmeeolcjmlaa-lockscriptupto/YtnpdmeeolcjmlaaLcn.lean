import Derived.Test.YtnpdmeeolcjmlaaLcr
set_option linter.unusedVariables false
set_option linter.unusedSimpArgs false
namespace Go.Proofs.Ytnpdmeeolcjmlaa
open Go.RowKit
namespace M
variable {D : Nat → Prop} {B x : Nat} {ws : List Int} {tr : List Ac} {bad : Nat} {w w' : World}
variable {l b nx sv : Nat} {t : Int} {has ho : Bool}
theorem lnew_nil (a c : Int) (w : World) : Calls Try.prog 9 #[.pointer none, .int .i64 a, .int .i64 c] w fun e w' => e = .returned (.tuple #[.pointer none, .int .i64 2]) ∧ w' = w := by
  go_enter Try.func9, Try.ntmps9
  go_wp2
  go_ret2
  exact ⟨rfl, rfl⟩
def inn (n : Nat) (a : Int) : Prop := 0 ≤ a ∧ a < (n : Int)
set_option maxRecDepth 100000 in
set_option maxHeartbeats 1000000 in
theorem lnew_out (a c : Int) (h : Mem D B x ws tr bad w) (ho : ¬ (inn ws.length a ∧ inn ws.length c)) : Calls Try.prog 9 #[.pointer (some ⟨x, 0, none⟩), .int .i64 a, .int .i64 c] w fun e w' => e = .returned (.tuple #[.pointer none, .int .i64 140]) ∧ w' = w := by
  have H1 := hide' (outside_any a h)
  have H2 := hide' (outside_any c h)
  clear h
  by_cases h1 : inn ws.length a
  · have h2 : ¬ inn ws.length c := fun q => ho ⟨h1, q⟩
    unfold inn at h1 h2
    rw [show decide (¬ (0 ≤ a ∧ a < (ws.length : Int))) = false by simpa using h1] at H1
    rw [show decide (¬ (0 ≤ c ∧ c < (ws.length : Int))) = true from decide_eq_true h2] at H2
    clear h1 h2 ho
    go_enter Try.func9, Try.ntmps9
    go_wp2_with fail
    refine H1.out.mono ?_
    rintro e w2 ⟨rfl, hw⟩
    replace hw := hw.symm
    subst hw
    go_wp2_with fail
    refine H2.out.mono ?_
    rintro e w2 ⟨rfl, hw⟩
    replace hw := hw.symm
    subst hw
    go_wp2
    go_ret2
    exact ⟨rfl, rfl⟩
  · unfold inn at h1
    rw [show decide (¬ (0 ≤ a ∧ a < (ws.length : Int))) = true from decide_eq_true h1] at H1
    clear h1 ho H2
    go_enter Try.func9, Try.ntmps9
    go_wp2_with fail
    refine H1.out.mono ?_
    rintro e w2 ⟨rfl, hw⟩
    replace hw := hw.symm
    subst hw
    go_wp2
    go_ret2
    exact ⟨rfl, rfl⟩
set_option maxRecDepth 100000 in
set_option maxHeartbeats 1000000 in
theorem lnew_same (a : Int) (h : Mem D B x ws tr bad w) (h1 : inn ws.length a) : Calls Try.prog 9 #[.pointer (some ⟨x, 0, none⟩), .int .i64 a, .int .i64 a] w fun e w' => e = .returned (.tuple #[.pointer none, .int .i64 1]) ∧ w' = w := by
  have H1 := hide' (outside_any a h)
  clear h
  unfold inn at h1
  rw [show decide (¬ (0 ≤ a ∧ a < (ws.length : Int))) = false by simpa using h1] at H1
  clear h1
  go_enter Try.func9, Try.ntmps9
  go_wp2_with fail
  refine H1.out.mono ?_
  rintro e w2 ⟨rfl, hw⟩
  replace hw := hw.symm
  subst hw
  go_wp2_with fail
  refine H1.out.mono ?_
  rintro e w2 ⟨rfl, hw⟩
  replace hw := hw.symm
  subst hw
  go_wp2
  go_ret2
  exact ⟨rfl, rfl⟩
set_option maxRecDepth 100000 in
set_option maxHeartbeats 1000000 in
theorem lnew_ok (nx sv : Nat) (h : Mem D B x ws tr bad w) (h1 : nx < ws.length) (h2 : sv < ws.length) (hne : nx ≠ sv) : Calls Try.prog 9 #[.pointer (some ⟨x, 0, none⟩), .int .i64 (nx : Nat), .int .i64 (sv : Nat)] w fun e w' => e = .returned (.tuple #[.pointer (some ⟨w.heap.size, 0, none⟩), .int .i64 0]) ∧ w' = w.alloc (.cells #[.pointer (some ⟨x, 0, none⟩), .int .i64 (nx : Nat), .int .i64 (sv : Nat)] 71) := by
  have H1 := hide' (outside_any (nx : Int) h)
  have H2 := hide' (outside_any (sv : Int) h)
  clear h
  rw [show decide (¬ (0 ≤ (nx : Int) ∧ (nx : Int) < (ws.length : Int))) = false by simp; omega] at H1
  rw [show decide (¬ (0 ≤ (sv : Int) ∧ (sv : Int) < (ws.length : Int))) = false by simp; omega] at H2
  have d : ((nx : Int) == (sv : Int)) = false := by simp; omega
  clear h1 h2
  go_enter Try.func9, Try.ntmps9
  go_wp2_with fail
  refine H1.out.mono ?_
  rintro e w2 ⟨rfl, hw⟩
  replace hw := hw.symm
  subst hw
  go_wp2_with fail
  refine H2.out.mono ?_
  rintro e w2 ⟨rfl, hw⟩
  replace hw := hw.symm
  subst hw
  go_wp2
  go_ret2
  exact ⟨rfl, rfl⟩
theorem lnew_lk (x nx sv : Nat) (w : World) : Lk w.heap.size x nx sv (w.alloc (.cells #[.pointer (some ⟨x, 0, none⟩), .int .i64 (nx : Nat), .int .i64 (sv : Nat)] 71)) := heap_alloc_new _ _
end M
end Go.Proofs.Ytnpdmeeolcjmlaa
