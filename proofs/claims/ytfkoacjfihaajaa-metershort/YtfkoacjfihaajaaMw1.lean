import Derived.Test.YtfkoacjfihaajaaMf3
import Derived.Test.YtfkoacjfihaajaaBas
import Derived.Laws.FloatArith
set_option linter.unusedVariables false
set_option linter.unusedSimpArgs false
namespace Go.Proofs.Ytfkoacjfihaajaa
open Go.RowKit
namespace M
open Fl
/-- BLOCK b IS A METER -/
def Mt (b : Nat) (h l : Nat) (r : Nat) (w : World) : Prop := w.heap[b]? = some (.cells #[.int .i64 (h : Nat), .int .i64 (l : Nat), .float .f64 r] 67 (0, 0))
variable {b h l r : Nat} {w w' : World}
theorem Mt.kept {S : Nat → Prop} (q : Mt b h l r w) (t : Turn S w w') (hn : ¬ S b) : Mt b h l r w' := (t.block b (lt_of_heap q) hn).trans q
theorem Mt.below (q : Mt b h l r w) (t : Below w.heap.size w w') : Mt b h l r w' := (t.block b (lt_of_heap q)).trans q
theorem Mt.drewN (q : Mt b h l r w) (n : Nat) : Mt b h l r (w.drewN n) := q
theorem Mt.c0 (q : Mt b h l r w) : w.cell? ⟨b, 0, none⟩ = some (.int .i64 (h : Nat)) := by rw [Lib.cell_of_heap q]; rfl
theorem Mt.c1 (q : Mt b h l r w) : w.cell? ⟨b, 1, none⟩ = some (.int .i64 (l : Nat)) := by rw [Lib.cell_of_heap q]; rfl
theorem Mt.c2 (q : Mt b h l r w) : w.cell? ⟨b, 2, none⟩ = some (.float .f64 r) := by rw [Lib.cell_of_heap q]; rfl
theorem Mt.f (q : Mt b h l r w) (j : Nat) : w.frozen? ⟨b, j, none⟩ = false := Lib.frozen_of_heap q j
theorem Mt.lt (q : Mt b h l r w) : b < w.heap.size := lt_of_heap q
theorem run_half {r : Nat} (h : r < 9218868437227405312) (w : World) : (binOp .quo 27 (.float .f64 r) (.float .f64 4611686018427387904)).run Try.prog w = .ok (.float .f64 (hv r)) w := run_float_arith w .quo 27 .f64 r 4611686018427387904 (hv r) (div_two h)
theorem run_add {x y r : Nat} (h : Ieee.double.add x y = some r) (w : World) : (binOp .add 27 (.float .f64 x) (.float .f64 y)).run Try.prog w = .ok (.float .f64 r) w := run_float_arith w .add 27 .f64 x y r h
theorem run_sub {x y r : Nat} (h : Ieee.double.sub x y = some r) (w : World) : (binOp .sub 27 (.float .f64 x) (.float .f64 y)).run Try.prog w = .ok (.float .f64 r) w := run_float_arith w .sub 27 .f64 x y r h
theorem run_mul {x y r : Nat} (h : Ieee.double.mul x y = some r) (w : World) : (binOp .mul 27 (.float .f64 x) (.float .f64 y)).run Try.prog w = .ok (.float .f64 r) w := run_float_arith w .mul 27 .f64 x y r h
theorem run_div {x y r : Nat} (h : Ieee.double.div x y = some r) (w : World) : (binOp .quo 27 (.float .f64 x) (.float .f64 y)).run Try.prog w = .ok (.float .f64 r) w := run_float_arith w .quo 27 .f64 x y r h
set_option maxRecDepth 100000 in
set_option maxHeartbeats 1000000 in
theorem new_no {h : Int} (w : World) (hh : h < 1) : Calls Try.prog 16 #[.int .i64 h] w fun e w' => e = .returned (.tuple #[.pointer none, .int .i64 3]) ∧ w' = w := by
  go_enter Try.func16, Try.ntmps16
  go_wp2
  go_ret2
  exact ⟨rfl, rfl⟩
set_option maxRecDepth 100000 in
set_option maxHeartbeats 1000000 in
theorem new_any (h : Nat) (w : World) (hh : 1 ≤ h) : Calls Try.prog 16 #[.int .i64 (h : Nat)] w fun e w' => e = .returned (.tuple #[.pointer (some ⟨w.heap.size, 0, none⟩), .int .i64 0]) ∧ w' = w.alloc (.cells #[.int .i64 (h : Nat), .int .i64 0, .float .f64 0] 67) := by
  have hh' : ¬ ((h : Int) < 1) := by omega
  go_enter Try.func16, Try.ntmps16
  go_wp2
  go_ret2
  exact ⟨rfl, rfl⟩
set_option maxRecDepth 100000 in
set_option maxHeartbeats 1000000 in
theorem halved_any (r n : Nat) (w : World) (hr : r < 9218868437227405312) (hn : n < 9223372036854775808) : Calls Try.prog 34 #[.float .f64 r, .int .i64 (n : Nat)] w fun e w' => e = .returned (.float .f64 (hvn n r)) ∧ w' = w := by
  by_cases hb : (2200 : Int) < (n : Int)
  · rw [hvn_dead hr (by omega)]
    go_enter Try.func34, Try.ntmps34
    go_wp2
    go_ret
    exact ⟨rfl, rfl⟩
  · have HR := hide' (fun k => hvn_lt hr k)
    have HN := hide' (show n ≤ 2200 by omega)
    clear hr hn
    go_enter Try.func34, Try.ntmps34
    go_wp2
    go_loopw [0, 8] (fun x i wx => ∃ k : Nat, x = .float .f64 (hvn k r) ∧ i = .int .i64 (k : Int) ∧ k ≤ n ∧ wx = w) (fun _ i _ => n - (intOf i).toNat)
    case atStart => exact ⟨0, rfl, rfl, Nat.zero_le _, rfl⟩
    case round =>
      obtain ⟨k, rfl, rfl, hk, rfl⟩ := hrel
      by_cases hlt : k < n
      · have hlt' : (k : Int) < (n : Int) := by omega
        have e1 := hide' (wsucN k (by have := HN.out; omega))
        have hq := fun w => run_half (HR.out k) w
        generalize hx : hvn k r = x at *
        have Hx := hide' hx
        have Hlt := hide' hlt
        clear hx hlt hk
        go_wp2
        exact ⟨⟨k + 1, by rw [← Hx.out]; rfl, rfl, Hlt.out, trivial⟩, msr' Hlt.out _ rfl⟩
      · obtain rfl : k = n := by omega
        go_wp2
        go_ret
        exact ⟨rfl, rfl⟩
theorem tdiv_nat (a b : Nat) : Int.tdiv (a : Int) (b : Int) = ((a / b : Nat) : Int) := by rw [Int.tdiv_eq_ediv_of_nonneg (by omega)]; rfl
set_option maxRecDepth 100000 in
set_option maxHeartbeats 1000000 in
theorem rate_neg {now : Int} (p : Value) (w : World) (hn : now < 0) : Calls Try.prog 18 #[p, .int .i64 now] w fun e w' => e = .returned (.tuple #[.float .f64 0, .int .i64 3]) ∧ w' = w := by
  go_enter Try.func18, Try.ntmps18
  go_wp2
  go_ret2
  exact ⟨rfl, rfl⟩
set_option maxRecDepth 100000 in
set_option maxHeartbeats 1000000 in
theorem rate_early {now : Nat} (q : Mt b h l r w) (hn : now < l) : Calls Try.prog 18 #[.pointer (some ⟨b, 0, none⟩), .int .i64 (now : Nat)] w fun e w' => e = .returned (.tuple #[.float .f64 0, .int .i64 1]) ∧ w' = w := by
  have c1 := q.c1
  have h0 : ¬ ((now : Int) < 0) := by omega
  have h1 : ((now : Int) < (l : Int)) := by omega
  clear q hn
  go_enter Try.func18, Try.ntmps18
  go_wp2
  go_ret2
  exact ⟨rfl, rfl⟩
set_option maxRecDepth 100000 in
set_option maxHeartbeats 1000000 in
theorem rate_ok {now : Nat} (q : Mt b h l r w) (hn : l ≤ now) (hh : 1 ≤ h) (hr : r < 9218868437227405312) (hnow : now < 9223372036854775808) : Calls Try.prog 18 #[.pointer (some ⟨b, 0, none⟩), .int .i64 (now : Nat)] w fun e w' => e = .returned (.tuple #[.float .f64 (hvn (now / h - l / h) r), .int .i64 0]) ∧ ∃ k, w' = w.drewN k := by
  have c0 := q.c0
  have c1 := q.c1
  have c2 := q.c2
  have h0 : ¬ ((now : Int) < 0) := by omega
  have h1 : ¬ ((now : Int) < (l : Int)) := by omega
  have h2 : ¬ ((h : Int) = 0) := by omega
  obtain ⟨A, hA⟩ : ∃ A, now / h = A := ⟨_, rfl⟩
  obtain ⟨C, hC⟩ : ∃ C, l / h = C := ⟨_, rfl⟩
  have hAC : C ≤ A := by rw [← hA, ← hC]; exact Nat.div_le_div_right hn
  have hA2 : A ≤ now := by rw [← hA]; exact Nat.div_le_self _ _
  have t1 : Int.tdiv (now : Int) (h : Int) = (A : Int) := by rw [tdiv_nat, hA]
  have t2 : Int.tdiv (l : Int) (h : Int) = (C : Int) := by rw [tdiv_nat, hC]
  have i1 : IntKind.i64.wrap (A : Int) = (A : Int) := by rw [IntKind.wrap_i64]; omega
  have i2 : IntKind.i64.wrap (C : Int) = (C : Int) := by rw [IntKind.wrap_i64]; omega
  have i3 : IntKind.i64.wrap ((A : Int) - (C : Int)) = ((A - C : Nat) : Int) := by rw [IntKind.wrap_i64]; omega
  rw [hA, hC]
  have HC := hide' (fun w => halved_any r (A - C) w hr (by omega))
  clear q hn hh hr hnow hA hC hAC hA2
  generalize A - C = N at *
  generalize hvn N r = X at *
  go_enter Try.func18, Try.ntmps18
  go_wp2_with fail
  go_quiet ((exact Calls.quiet_of_same (HC.out _)))
  go_wp2
  go_ret2
  exact ⟨rfl, _, rfl⟩
theorem spt_neg {x m : Int} (hm : 0 < m) (hz : Int.tmod x m < 0) : Int.tmod x m + m = x % m := by
  have h1 := Int.emod_nonneg x (show m ≠ 0 by omega)
  have h2 := Int.emod_lt_of_pos x hm
  have := @Int.tmod_eq_emod x m
  split at this <;> omega
theorem spt_pos {x m : Int} (hm : 0 < m) (hz : ¬ Int.tmod x m < 0) : Int.tmod x m = x % m := by
  have h1 := Int.emod_nonneg x (show m ≠ 0 by omega)
  have h2 := Int.emod_lt_of_pos x hm
  have := @Int.tmod_eq_emod x m
  split at this <;> omega
def pk (x : Int) (m : Nat) : Nat := (x % (m : Int)).toNat
theorem pk_lt (x : Int) {m : Nat} (hm : 0 < m) : pk x m < m := by
  have h3 := Int.emod_nonneg x (b := (m : Int)) (by omega)
  have h4 := Int.emod_lt_of_pos x (b := (m : Int)) (by omega)
  unfold pk; omega
theorem ret_int {k : IntKind} {a b : Int} (h : a = b) : Ending.returned (.int k a) = .returned (.int k b) := by rw [h]
set_option maxRecDepth 100000 in
set_option maxHeartbeats 1000000 in
theorem pick_any (x : Int) (m : Nat) (w : World) (hm : 0 < m) (hm2 : m ≤ 2147483648) : Calls Try.prog 31 #[.int .i64 x, .int .i64 (m : Nat)] w fun e w' => e = .returned (.int .i64 (pk x m : Nat)) ∧ w' = w := by
  have h3 := Int.emod_nonneg x (b := (m : Int)) (by omega)
  have h4 := Int.emod_lt_of_pos x (b := (m : Int)) (by omega)
  have hn : (0 : Int) < (m : Int) := by omega
  have hn0 : ¬ ((m : Int) = 0) := by omega
  have Hn2 := hide' (show (m : Int) ≤ 2147483648 by omega)
  have Hk : Hid (x % (m : Int) = (pk x m : Int)) := hide' (by unfold pk; omega)
  have H4 := hide' (And.intro h3 h4)
  clear h3 h4 hm2
  go_enter Try.func31, Try.ntmps31
  go_wp2
  · rename_i hz
    go_ret
    refine ⟨ret_int ?_, rfl⟩
    rw [spt_neg hn hz, ← Hk.out]
    have := H4.out
    have := Hn2.out
    unfold wrap64
    omega
  · rename_i hz
    go_ret
    refine ⟨ret_int ?_, rfl⟩
    rw [spt_pos hn (by omega), ← Hk.out]
end M
end Go.Proofs.Ytfkoacjfihaajaa
