import Derived.Test.YtihdagehenmolaaCu
set_option linter.unusedVariables false
set_option linter.unusedSimpArgs false
namespace Go.Proofs.Ytihdagehenmolaa
open Go.RowKit
namespace K
open M
variable {B b s cap : Nat} {room : Int} {l : List UInt8} {ao : Option Addr} {w w' : World}
theorem Dk.new (w : World) {room : Int} (h0 : 0 ≤ room) (h1 : room ≤ 1048576) : Dk w.heap.size w.heap.size room [] 0 none 0 (w.alloc (.cells #[.int .i64 room, .slice none 0 0, .int .i64 0] 83)) :=
  ⟨heap_alloc_new _ _, own_nil 1 5 ba _ _, Nat.le_refl _, Nat.le_refl _, h0, h1⟩
set_option maxRecDepth 100000 in
set_option maxHeartbeats 1000000 in
theorem open_range (T : Value) (w : World) (h : room < 0 ∨ 1048576 < room) : Calls Try.prog 30 #[T, .int .i64 room] w fun e w' => e = .returned (.tuple #[.pointer none, .int .i64 3]) ∧ w' = w := by
  rcases h with h | h
  · go_enter Try.func30, Try.ntmps30
    go_wp2
    go_ret2
    exact ⟨rfl, rfl⟩
  · have h' : ¬ (room < 0) := by omega
    go_enter Try.func30, Try.ntmps30
    go_wp2
    go_ret2
    exact ⟨rfl, rfl⟩
set_option maxRecDepth 100000 in
set_option maxHeartbeats 1000000 in
theorem open_full (t : List UInt8) (w : World) (h0 : 0 ≤ room) (h1 : room ≤ 1048576) (h2 : room < (t.length : Int)) : Calls Try.prog 30 #[.string (sb t), .int .i64 room] w fun e w' => e = .returned (.tuple #[.pointer none, .int .i64 210]) ∧ Below w.heap.size w w' := by
  have g0 : ¬ (room < 0) := by omega
  have g1 : ¬ (1048576 < room) := by omega
  have HC := hide' (append_full (Dk.new w h0 h1) t (by simpa using h2))
  clear h0 h1 h2
  generalize sb t = T at *
  go_enter Try.func30, Try.ntmps30
  go_wp2_with fail
  refine HC.out.mono ?_
  rintro e w1 ⟨rfl, b1⟩
  have HB := hide' ((Below.refl w.heap.size w).alloc (Nat.le_refl _) _ |>.trans (b1.mono (by simp)))
  clear b1 HC
  go_wp2
  go_ret2
  exact ⟨rfl, HB.out⟩
set_option maxRecDepth 100000 in
set_option maxHeartbeats 1000000 in
theorem open_ok (t : List UInt8) (w : World) (h2 : (t.length : Int) ≤ room) (h1 : room ≤ 1048576) : Calls Try.prog 30 #[.string (sb t), .int .i64 room] w fun e w' => ∃ b, e = .returned (.tuple #[.pointer (some ⟨b, 0, none⟩), .int .i64 0]) ∧ Hid (∃ ao cap, Dk w.heap.size b room t t.length ao cap w' ∧ Below w.heap.size w w') := by
  have g0 : ¬ (room < 0) := by omega
  have g1 : ¬ (1048576 < room) := by omega
  have HC := hide' (append_ok (Dk.new w (by omega) h1) t (by simpa using h2) (by simp))
  clear h1 h2
  obtain ⟨T, hT⟩ : ∃ T, T = sb t := ⟨_, rfl⟩
  rw [← hT] at HC ⊢
  clear hT
  go_enter Try.func30, Try.ntmps30
  go_wp2_with fail
  refine HC.out.mono ?_
  rintro e w1 ⟨rfl, ao', cap', d1, t1, p1⟩
  have S1 := hide' (sync_any d1)
  have HB := hide' ((Below.refl w.heap.size w).alloc (Nat.le_refl _) _ |>.trans (t1.below (fun j hj => by
    rcases hj with rfl | hj
    · exact Nat.le_refl _
    · obtain ⟨_, q, _⟩ := hj
      cases q) (by simp)))
  clear d1 t1 p1 HC
  go_wp2_with fail
  refine S1.out.mono ?_
  rintro e w2 ⟨rfl, d2, t2⟩
  have K2 := hide' (And.intro d2 (HB.out.trans (t2.below (fun j hj => by rw [hj]; exact Nat.le_refl _) HB.out.size)))
  clear d2 t2 S1 HB
  go_wp2
  go_ret2
  exact ⟨_, rfl, hide' ⟨_, _, K2.out⟩⟩
end K
end Go.Proofs.Ytihdagehenmolaa
