import Derived.Test.YtfkoacjfihaajaaMw2
set_option linter.unusedVariables false
set_option linter.unusedSimpArgs false
namespace Go.Proofs.Ytfkoacjfihaajaa
open Go.RowKit
namespace M
open Fl
theorem bel_drewN {B : Nat} {a b : World} (h : Below B a b) (n : Nat) : Below B a (b.drewN n) := ⟨h.os, h.tape, h.output, h.size, h.block⟩
theorem add_8 : Ieee.double.add (hvn (3 / 10 - 0 / 10) 0) (FloatKind.f64.nearest ((8 : Nat) : Int)) = some 4620693217682128896 := by decide +kernel
theorem half_8 : hvn (10 / 10 - 3 / 10) 4620693217682128896 = 4616189618054758400 := by decide +kernel
theorem four : FloatKind.f64.format.order 4616189618054758400 4616189618054758400 = some .eq := by decide +kernel
set_option maxRecDepth 100000 in
set_option maxHeartbeats 1000000 in
theorem names_walk (w : World) : Calls Try.prog 3 #[] w fun e w' => e = .returned (.bool true) ∧ Below w.heap.size w w' := by
  have H1 := hide' (new_any 10 w (by omega))
  go_enter Try.func3, Try.ntmps3
  go_wp2_with fail
  refine H1.out.mono ?_
  rintro e w1 ⟨rfl, hw1⟩
  have q1 : Mt w.heap.size 10 0 0 w1 := by rw [hw1]; exact heap_alloc_new _ _
  have b1 : Hid (Below w.heap.size w w1) := hide' (by rw [hw1]; exact (Below.refl _ _).alloc (Nat.le_refl _) _)
  have H2 := hide' (note_ok (n := 8) (now := 3) q1 (by omega) (by omega) (by omega) (by omega) add_8)
  clear hw1 q1 H1
  obtain ⟨c, hc⟩ : ∃ c, c = w.heap.size := ⟨_, rfl⟩
  rw [← hc] at H2 b1 ⊢
  have Hc := hide' hc
  clear hc
  go_wp2_with fail
  refine H2.out.mono ?_
  rintro e w2 ⟨rfl, q2, t2⟩
  have H3 := hide' (rate_ok (now := 10) q2 (by omega) (by omega) (by omega) (by omega))
  rw [half_8] at H3
  have B2 : Hid (Below c w w2) := hide' (b1.out.trans (t2.below (fun k hk => by rw [hk]; exact Nat.le_refl _) (by rw [Hc.out]; exact b1.out.size)))
  clear q2 t2 H2 b1
  go_wp2_with fail
  refine H3.out.mono ?_
  rintro e w3 ⟨rfl, k3, rfl⟩
  have hf := four
  clear H3
  go_wp2
  go_ret
  exact ⟨rfl, Hc.out ▸ bel_drewN B2.out k3⟩
end M
end Go.Proofs.Ytfkoacjfihaajaa
