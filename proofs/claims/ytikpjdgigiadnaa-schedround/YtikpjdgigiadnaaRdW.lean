import Derived.Test.YtikpjdgigiadnaaRoW
set_option linter.unusedVariables false
set_option linter.unusedSimpArgs false
namespace Go.Proofs.Ytikpjdgigiadnaa
open Go.RowKit
namespace A
open C F
set_option maxRecDepth 100000 in
set_option maxHeartbeats 4000000 in
theorem round_walk (t n o : Int) (w : World) : Calls Try.prog 6 #[.int .i64 t, .int .i64 n, .int .i64 o] w fun e w' => e = .returned (.bool true) ∧ Below w.heap.size w w' := by
  have LA := hide' (rr_len t n)
  have LB := hide' (rr_len o n)
  go_enter Try.func6, Try.ntmps6
  go_wp2_with fail
  refine (rround_rg t n w).mono ?_
  rintro e w1 ⟨ra, rfl, ha, b1⟩
  have A1 := hide' (And.intro ha b1)
  clear ha b1
  go_wp2_with fail
  refine (rround_rg o n w1).mono ?_
  rintro e w2 ⟨rb, rfl, hb, b2⟩
  have A2 := hide' (And.intro (A1.out.1.below b2) (And.intro hb b2))
  clear hb b2
  go_wp2_with fail
  refine (round_rg t n w2).mono ?_
  rintro e w3 ⟨r1, rfl, h1, b3⟩
  have A3 := hide' (And.intro h1 b3)
  clear h1 b3
  go_wp2_with fail
  refine (round_rg t n w3).mono ?_
  rintro e w4 ⟨r2, rfl, h2, b4⟩
  have A4 := hide' (And.intro h2 b4)
  clear h2 b4
  go_wp2_with fail
  refine (round_rg o n w4).mono ?_
  rintro e w5 ⟨r3, rfl, h3, b5⟩
  have A5 := hide' (And.intro h3 b5)
  clear h3 b5
  go_wp2_with fail
  refine (round_rg t n w5).mono ?_
  rintro e w6 ⟨r4, rfl, h4, b6⟩
  have A6 := hide' (And.intro h4 b6)
  clear h4 b6
  go_wp2_with fail
  refine (round_rg t n w6).mono ?_
  rintro e w7 ⟨r5, rfl, h5, b7⟩
  have A7 := hide' (And.intro h5 b7)
  clear h5 b7
  go_wp2_with fail
  have b2 := A2.out.2.2
  have b3 := A3.out.2
  have b4 := A4.out.2
  have b5 := A5.out.2
  have b6 := A6.out.2
  have b7 := A7.out.2
  have b1 := A1.out.2
  have F5 := five (((((A2.out.1.below b3).below b4).below b5).below b6).below b7) (((((A2.out.2.1.below b3).below b4).below b5).below b6).below b7) ((((A3.out.1.below b4).below b5).below b6).below b7) (((A4.out.1.below b5).below b6).below b7) ((A5.out.1.below b6).below b7) (A6.out.1.below b7) A7.out.1 ⟨b1.size, b2.size, b3.size, b4.size, b5.size, b6.size, b7.size, Nat.le_refl _⟩ LA.out LB.out _ rfl
  have HB7 : Hid (Below w.heap.size w w7) := hide' ((((((b1.trans (b2.mono b1.size)).trans (b3.mono (Nat.le_trans b1.size b2.size))).trans (b4.mono (by have := b1.size; have := b2.size; have := b3.size; omega))).trans (b5.mono (by have := b1.size; have := b2.size; have := b3.size; have := b4.size; omega))).trans (b6.mono (by have := b1.size; have := b2.size; have := b3.size; have := b4.size; have := b5.size; omega))).trans (b7.mono (by have := b1.size; have := b2.size; have := b3.size; have := b4.size; have := b5.size; have := b6.size; omega)))
  clear b1 b2 b3 b4 b5 b6 b7 A2 A3 A4 A5 A6 A7 A1
  refine F5.mono ?_
  rintro e w8 ⟨rfl, h8, b8⟩
  have A8 := hide' (And.intro h8 (HB7.out.trans b8))
  clear h8 b8 F5
  go_wp2_with fail
  refine (round_rg t n w8).mono ?_
  rintro e w9 ⟨r9, rfl, h9, b9⟩
  have A9 := hide' (And.intro (A8.out.1.below b9) (And.intro h9 (A8.out.2.trans (b9.mono A8.out.2.size))))
  clear h9 b9
  have HC : Hid (Calls Try.prog 20 #[.slice r9.ao r9.len r9.cap, .slice ra.ao ra.len ra.cap] w9 fun e w' => e = .returned (.bool true) ∧ ∃ m, w' = w9.drewN m) := hide' (by
    have := same_any r9.ao r9.cap (rr t n) ra.ao ra.cap (rr t n) w9 A9.out.2.1.ints A9.out.1.ints (by have := LA.out; omega)
    rw [decide_eq_true rfl] at this
    rw [A9.out.2.1.ln, A9.out.1.ln]
    exact this)
  go_wp2_with fail
  refine HC.out.mono ?_
  rintro e w10 ⟨rfl, m, hm⟩
  have A10 : Hid (Below w.heap.size w w10) := hide' (by rw [hm]; exact bel_drewN A9.out.2.2 m)
  clear hm
  go_wp2
  go_ret
  exact ⟨rfl, A10.out⟩
end A
end Go.Proofs.Ytikpjdgigiadnaa
