import Derived.Test.YtnpdmeeolcjmlaaLcw
set_option linter.unusedVariables false
set_option linter.unusedSimpArgs false
namespace Go.Proofs.Ytnpdmeeolcjmlaa
open Go.RowKit
namespace M
variable {D : Nat → Prop} {B x : Nat} {ws : List Int} {tr : List Ac} {bad : Nat} {w w' : World}
variable {l b nx sv : Nat} {t : Int} {has ho : Bool}
theorem ticket_any (hw : Wt b l t has ho w) : Calls Try.prog 12 #[.pointer (some ⟨b, 0, none⟩)] w fun e w' => e = .returned (.int .i64 t) ∧ w' = w := by
  have c1 := hw.c1
  clear hw
  go_enter Try.func12, Try.ntmps12
  go_wp2
  go_ret
  exact ⟨rfl, rfl⟩
theorem wait_new (l : Nat) (w : World) : Calls Try.prog 10 #[.pointer (some ⟨l, 0, none⟩)] w fun e w' => e = .returned (.pointer (some ⟨w.heap.size, 0, none⟩)) ∧ w' = w.alloc (.cells #[.pointer (some ⟨l, 0, none⟩), .int .i64 (-1), .bool false, .bool false] 73) := by
  go_enter Try.func10, Try.ntmps10
  go_wp2
  go_ret
  exact ⟨rfl, rfl⟩
theorem wait_wt (l : Nat) (w : World) : Wt w.heap.size l (-1) false false (w.alloc (.cells #[.pointer (some ⟨l, 0, none⟩), .int .i64 (-1), .bool false, .bool false] 73)) := heap_alloc_new _ _
/-- is it ready? -/
def rdy (ws : List Int) (sv : Nat) (t : Int) (has ho : Bool) : Bool := !has || ho || decide (ws.getD sv 0 = t)
set_option maxRecDepth 100000 in
set_option maxHeartbeats 1000000 in
theorem ready_any (h : Mem D B x ws tr bad w) (hk : Lk l x nx sv w) (hw : Wt b l t has ho w) (hs : sv < ws.length) :
    Calls Try.prog 24 #[.pointer (some ⟨b, 0, none⟩)] w fun e w' => e = .returned (.bool (rdy ws sv t has ho)) ∧ Below w.heap.size w w' := by
  have c0 := hw.c0
  have c1 := hw.c1
  have c2 := hw.c2
  have c3 := hw.c3
  cases has with
  | false =>
    rw [show rdy ws sv t false ho = true by simp [rdy]]
    clear h hk hw hs c0 c1 c3
    go_enter Try.func24, Try.ntmps24
    go_wp2_with fail
    go_quiet (fail)
    go_wp2
    go_ret
    exact ⟨rfl, ⟨rfl, rfl, rfl, Nat.le_refl _, fun _ _ => rfl⟩⟩
  | true =>
    cases ho with
    | true =>
      rw [show rdy ws sv t true true = true by simp [rdy]]
      clear h hk hw hs c0 c1
      go_enter Try.func24, Try.ntmps24
      go_wp2_with fail
      go_quiet (fail)
      go_wp2
      go_ret
      exact ⟨rfl, ⟨rfl, rfl, rfl, Nat.le_refl _, fun _ _ => rfl⟩⟩
    | false =>
      rw [show rdy ws sv t true false = decide (ws.getD sv 0 = t) by simp [rdy]]
      have HC : Hid (Calls Try.prog 42 #[.pointer (some ⟨l, 0, none⟩), .int .i64 t] w.drew fun e w' => e = .returned (.bool (decide (ws.getD sv 0 = t))) ∧ Below w.heap.size w w' ∧ Wt b l t true false w') := hide' ((shows_any t h.drew (show Lk l x nx sv w.drew from hk) hs).mono fun e w' ⟨he, hb⟩ => ⟨he, ⟨hb.os, hb.tape, hb.output, hb.size, hb.block⟩, (hb.block b (lt_of_heap hw)).trans hw⟩)
      generalize decide (ws.getD sv 0 = t) = r at *
      clear h hk hw hs
      go_enter Try.func24, Try.ntmps24
      go_wp2_with fail
      go_region_held3 (fun w' => w'.cell? ⟨b, 0, none⟩ = some (.pointer (some ⟨l, 0, none⟩)) ∧ w'.cell? ⟨b, 1, none⟩ = some (.int .i64 t) ∧ w'.cell? ⟨b, 2, none⟩ = some (.bool true) ∧ w'.cell? ⟨b, 3, none⟩ = some (.bool false)) (first | exact ⟨c0, c1, c2, c3⟩ | exact ⟨K.c0, K.c1, K.c2, K.c3⟩) ((go_at_call 42; refine HC.out.mono ?_; rintro e w3 ⟨rfl, b3, K⟩))
      rename_i hHeld
      clear hHeld
      go_wp2
      go_ret
      exact ⟨rfl, b3⟩
set_option maxRecDepth 100000 in
set_option maxHeartbeats 1000000 in
theorem outside_any (a : Int) (h : Mem D B x ws tr bad w) : Calls Try.prog 26 #[.pointer (some ⟨x, 0, none⟩), .int .i64 a] w fun e w' => e = .returned (.bool (decide (¬ (0 ≤ a ∧ a < (ws.length : Int))))) ∧ w' = w := by
  have HC := hide' (len_any h)
  clear h
  by_cases h0 : a < 0
  · rw [show decide (¬ (0 ≤ a ∧ a < (ws.length : Int))) = true by simp; omega]
    have d1 : decide (a < 0) = true := by simpa using h0
    clear HC
    go_enter Try.func26, Try.ntmps26
    go_wp2
    go_ret
    exact ⟨rfl, rfl⟩
  · have d1 : decide (a < 0) = false := by simpa using h0
    by_cases h1 : a < (ws.length : Int)
    · rw [show decide (¬ (0 ≤ a ∧ a < (ws.length : Int))) = false by simp; omega]
      have d2 : decide ((ws.length : Int) ≤ a) = false := by simp; omega
      go_enter Try.func26, Try.ntmps26
      go_wp2_with fail
      refine HC.out.mono ?_
      rintro e w2 ⟨rfl, rfl⟩
      go_wp2
      go_ret
      exact ⟨rfl, rfl⟩
    · rw [show decide (¬ (0 ≤ a ∧ a < (ws.length : Int))) = true by simp; omega]
      have d2 : decide ((ws.length : Int) ≤ a) = true := by simp; omega
      have h2 : (ws.length : Int) ≤ a := by omega
      go_enter Try.func26, Try.ntmps26
      go_wp2_with fail
      refine HC.out.mono ?_
      rintro e w2 ⟨rfl, rfl⟩
      go_wp2
      go_ret
      exact ⟨rfl, rfl⟩
end M
end Go.Proofs.Ytnpdmeeolcjmlaa
