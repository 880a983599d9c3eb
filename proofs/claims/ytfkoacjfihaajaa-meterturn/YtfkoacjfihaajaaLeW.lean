import Derived.Test.YtfkoacjfihaajaaMn1
set_option linter.unusedVariables false
set_option linter.unusedSimpArgs false
namespace Go.Proofs.Ytfkoacjfihaajaa
open Go.RowKit
namespace N
open Fl
def lnO (a b : Option Nat) : Option Nat := opO .add (opO .mul a a) (opO .mul b b)
set_option maxRecDepth 100000 in
set_option maxHeartbeats 1000000 in
theorem lean_any {x y : Nat} {a b : Option Nat} (w : World) (hx : lk x a) (hy : lk y b) : Calls Try.prog 29 #[.complex .f64 x y] w fun e w' => ∃ r k, e = .returned (.float .f64 r) ∧ lk r (lnO a b) ∧ w' = w.drewN k := by
  have H1 := hide' (square_any w hx)
  have H2 := hide' (fun w => square_any w hy)
  clear hx hy
  go_enter Try.func29, Try.ntmps29
  go_wp2_with fail
  refine H1.out.mono ?_
  rintro e w1 ⟨r1, k1, rfl, l1, rfl⟩
  have L1 := hide' l1
  clear l1
  go_wp2_with fail
  refine (H2.out _).mono ?_
  rintro e w2 ⟨r2, k2, rfl, l2, rfl⟩
  obtain ⟨r, k, er, hr⟩ := op_any .add (.inl rfl) L1.out l2 ((w.drewN k1).drewN k2)
  have HR := hide' hr
  clear l2 hr L1 H1 H2
  simp only [World.drewN_drewN] at er ⊢
  go_wp2
  go_ret
  exact ⟨r, _, rfl, HR.out, rfl⟩
set_option maxRecDepth 100000 in
set_option maxHeartbeats 1000000 in
theorem rlean_any {x y : Nat} {a b : Option Nat} (w : World) (hx : lk x a) (hy : lk y b) : Calls Try.prog 30 #[.float .f64 x, .float .f64 y] w fun e w' => ∃ r k, e = .returned (.float .f64 r) ∧ lk r (lnO a b) ∧ w' = w.drewN k := by
  obtain ⟨r1, k1, e1, l1⟩ := op_any .mul (.inr (.inr (.inl rfl))) hx hx w
  obtain ⟨r2, k2, e2, l2⟩ := op_any .mul (.inr (.inr (.inl rfl))) hy hy (w.drewN k1)
  obtain ⟨r, k, e3, hr⟩ := op_any .add (.inl rfl) l1 l2 ((w.drewN k1).drewN k2)
  have HR := hide' hr
  clear hx hy l1 l2 hr
  simp only [World.drewN_drewN] at e2 e3
  go_enter Try.func30, Try.ntmps30
  go_wp2
  go_ret
  exact ⟨r, _, rfl, HR.out, rfl⟩
set_option maxRecDepth 100000 in
set_option maxHeartbeats 1000000 in
theorem lean_walk (x y : Nat) (w : World) : Calls Try.prog 8 #[.float .f64 x, .float .f64 y] w fun e w' => e = .returned (.bool true) ∧ Below w.heap.size w w' := by
  have H1 := hide' (lean_any w (lk_vl x) (lk_vl y))
  have H2 := hide' (fun w => rlean_any w (lk_vl x) (lk_vl y))
  go_enter Try.func8, Try.ntmps8
  go_wp2_with fail
  refine H1.out.mono ?_
  rintro e w1 ⟨r1, k1, rfl, l1, rfl⟩
  have L1 := hide' l1
  clear l1
  go_wp2_with fail
  refine (H2.out _).mono ?_
  rintro e w2 ⟨r2, k2, rfl, l2, rfl⟩
  have H3 := hide' (fun w => same_any w L1.out l2)
  clear l2 L1 H1 H2
  go_wp2_with fail
  refine (H3.out _).mono ?_
  rintro e w3 ⟨rfl, rfl⟩
  go_wp2
  go_ret
  exact ⟨rfl, below_drewN _ _⟩
end N
end Go.Proofs.Ytfkoacjfihaajaa
