import Derived.Test.YtmignagalhcejaaPss
import Derived.Deep.RegionHeld3
set_option linter.unusedVariables false
set_option linter.unusedSimpArgs false
namespace Go.Proofs.Ytmignagalhcejaa
open Go.RowKit
namespace M
theorem six {w : World} {b : Nat} {c0 c1 c2 c3 c4 c5 : Value} (h : w.heap[b]? = some (.cells #[c0, c1, c2, c3, c4, c5] 27 (0, 0))) : w.cell? ⟨b, 0, none⟩ = some c0 ∧ w.cell? ⟨b, 1, none⟩ = some c1 ∧ w.cell? ⟨b, 2, none⟩ = some c2 ∧ w.cell? ⟨b, 3, none⟩ = some c3 ∧ w.cell? ⟨b, 4, none⟩ = some c4 ∧ w.cell? ⟨b, 5, none⟩ = some c5 := by
  refine ⟨?_, ?_, ?_, ?_, ?_, ?_⟩ <;> (rw [Lib.cell_of_heap h]; rfl)
set_option maxHeartbeats 1000000 in
set_option maxRecDepth 100000 in
theorem meanPasses_walk (c0 c1 c2 c3 : Value) (cd : Int) (lv tr : Nat) (w : World) : Calls Try.prog 4 #[.agg #[c0, c1, c2, c3, .int .i8 cd, .float .f64 lv], .float .f64 tr] w fun e w' => e = .returned (.bool true) ∧ Below w.heap.size w w' := by
  have H1 := hide' fun w => passes_any c0 c1 c2 c3 cd lv tr w
  have H2 := hide' fun w => rpasses_any c0 c1 c2 c3 cd lv tr w
  go_enter Try.func4, Try.ntmps4
  go_wp2_with (fail)
  have bx : (w.alloc (.cells #[c0, c1, c2, c3, .int .i8 cd, .float .f64 lv] 27)).heap[w.heap.size]? = some (.cells #[c0, c1, c2, c3, .int .i8 cd, .float .f64 lv] 27 (0, 0))  := heap_alloc_new w _
  have hB : Hid (Below w.heap.size w (w.alloc (.cells #[c0, c1, c2, c3, .int .i8 cd, .float .f64 lv] 27))) := (Below.refl w.heap.size w).alloc (Nat.le_refl _) _
  have hb : w.heap.size < (w.alloc (.cells #[c0, c1, c2, c3, .int .i8 cd, .float .f64 lv] 27)).heap.size := (Array.getElem?_eq_some_iff.1 bx).1
  generalize w.alloc (.cells #[c0, c1, c2, c3, .int .i8 cd, .float .f64 lv] 27) = V at *
  generalize hbe : w.heap.size = b at *
  obtain ⟨d0, d1, d2, d3, d4, d5⟩ := six bx
  go_region_held3 (fun w' => w'.cell? ⟨b, 0, none⟩ = some c0 ∧ w'.cell? ⟨b, 1, none⟩ = some c1 ∧ w'.cell? ⟨b, 2, none⟩ = some c2 ∧ w'.cell? ⟨b, 3, none⟩ = some c3 ∧ w'.cell? ⟨b, 4, none⟩ = some (.int .i8 cd) ∧ w'.cell? ⟨b, 5, none⟩ = some (.float .f64 lv)) (first | go_keep | exact six k2.out | exact six k1.out) (first
    | (go_at_call 16; refine (H1.out _).mono ?_; rintro e W1 ⟨rfl, b1⟩; have k1 : Hid (W1.heap[b]? = some (.cells #[c0, c1, c2, c3, .int .i8 cd, .float .f64 lv] 27 (0, 0))) := (b1.block b hb).trans bx; have F1 := hide' b1; clear b1)
    | (go_at_call 17; refine (H2.out _).mono ?_; rintro e W2 ⟨rfl, b2⟩; have k2 : Hid (W2.heap[b]? = some (.cells #[c0, c1, c2, c3, .int .i8 cd, .float .f64 lv] 27 (0, 0))) := (b2.block b (Nat.lt_of_lt_of_le hb F1.out.size)).trans k1.out; have F2 := hide' b2; clear b2))
  go_wp2_with (fail)
  go_ret
  rw [hbe]
  exact ⟨rfl, (hB.out.trans (⟨F1.out.os, F1.out.tape, F1.out.output, F1.out.size, fun k hk => F1.out.block k (Nat.lt_trans hk hb)⟩ : Below b V W1)).trans (F2.out.mono (Nat.le_of_lt (Nat.lt_of_lt_of_le hb F1.out.size)))⟩
set_option maxRecDepth 100000 in
theorem meanNames_walk (w : World) : Calls Try.prog 3 #[] w fun e w' => e = .returned (.bool true) ∧ Below w.heap.size w w' := by
  have H1 := hide' fun c0 c1 c2 c3 cd lv tr w => passes_any c0 c1 c2 c3 cd lv tr w
  have e1 : pass 1 4602678819172646912 4602678819172646912 = true := by decide
  have e2 : pass 2 4602678819172646912 4602678819172646912 = false := by decide
  go_enter Try.func3, Try.ntmps3
  go_wp2_with (fail)
  refine (H1.out _ _ _ _ _ _ _ _).mono ?_
  rintro e w1 ⟨rfl, b1⟩
  rw [e1]
  have B1 := hide' b1
  clear b1
  go_wp2_with (fail)
  refine (H1.out _ _ _ _ _ _ _ _).mono ?_
  rintro e w2 ⟨rfl, b2⟩
  rw [e2]
  have B2 := hide' (B1.out.trans (b2.mono B1.out.size))
  clear b2
  go_wp2_with (fail)
  go_ret
  exact ⟨rfl, B2.out⟩
end M
end Go.Proofs.Ytmignagalhcejaa
