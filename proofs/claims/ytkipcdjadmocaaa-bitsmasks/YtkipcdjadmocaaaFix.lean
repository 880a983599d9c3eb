import Derived.Test.YtkipcdjadmocaaaSetB
set_option linter.unusedVariables false
set_option linter.unusedSimpArgs false
namespace Go.Proofs.Ytkipcdjadmocaaa
open Go.RowKit
def p69 : Nat → Bool := put (fun _ => false) 69 true
set_option maxHeartbeats 1000000 in
set_option maxRecDepth 100000 in
theorem fixed_any (w : World) : Calls Try.prog 8 #[] w fun e w' => e = .returned (.bool true) ∧ Below w.heap.size w w' := by
  have h1 := hide' (fun w => new_any 70 w)
  rw [show roomOf 70 = 70 from rfl] at h1
  have h2 := hide' (fun x g w h => add_yes x g 70 (fun _ => false) 69 w h (by omega) rfl)
  have h3 := hide' (fun x g w h => add_no x g 70 p69 70 w h (.inl (by omega)))
  have h4 := hide' (fun x g w h => bigQuad_in x g 70 p69 0 w h (by omega))
  have h5 := hide' (fun x g w h => has_any x g 70 p69 69 w h)
  have h6 := hide' (fun x g w h => count_any x g 70 p69 w h)
  rw [show hasB p69 69 = true by decide] at h5
  rw [show B.cnt p69 70 0 = 1 by decide] at h6
  rw [show four p69 0 = #[.int .u64 0, .int .u64 32, .int .u64 0, .int .u64 0] by unfold four; rw [show B.wd p69 (0 * 4) = 0 by decide, show B.wd p69 (0 * 4 + 1) = 32 by decide, show B.wd p69 (0 * 4 + 2) = 0 by decide, show B.wd p69 (0 * 4 + 3) = 0 by decide]; rfl] at h4
  have heq : ∀ w : World, (Op.equalIn 10000 64 (.agg #[.int .u64 0, .int .u64 32, .int .u64 0, .int .u64 0]) (.agg #[.int .u64 0, .int .u64 32, .int .u64 0, .int .u64 0])).run Try.prog w = .ok true w := fun w => by kernel_rfl
  go_enter Try.func8, Try.ntmps8
  go_wp2_with fail
  refine (h1.out _).mono ?_
  rintro e w1 ⟨x, rfl, g, hB, b1, hx, hg⟩
  go_wp2_with fail
  refine (h2.out x g _ hB).mono ?_
  rintro e w2 ⟨rfl, hB2, t2⟩
  have b2 : Below w.heap.size w w2 := b1.trans (t2.below (fun k hk => by rw [hk]; exact hg) b1.size)
  go_wp2_with fail
  refine (h3.out x g _ hB2).mono ?_
  rintro e w3 ⟨rfl, n3, hw3⟩
  have hB3 := hB2.drewN n3
  have b3 := below_drewN b2 n3
  rw [← hw3] at hB3 b3
  clear hw3
  go_wp2_with fail
  refine (h4.out x g _ hB3).mono ?_
  rintro e w4 ⟨rfl, b4⟩
  have hB4 := hB3.below b4
  have bb4 := b3.trans (b4.mono b3.size)
  go_wp2_with fail
  have hB5 : ∀ o, Bs x g 70 p69 (w4.alloc o) := fun o => hB4.kept ((Turn.refl (fun _ => False) w4).alloc o) (fun q => q) (fun q => q)
  refine (h5.out x g _ (hB5 _)).mono ?_
  rintro e w5 ⟨rfl, n5, hw5⟩
  subst hw5
  go_wp2_with fail
  refine (h6.out x g _ ((hB5 _).drewN n5)).mono ?_
  rintro e w6 ⟨rfl, rfl⟩
  go_wp2_with fail
  go_ret
  exact ⟨rfl, below_drewN (bb4.alloc (Nat.le_trans (Nat.le_refl _) bb4.size) _) n5⟩
end Go.Proofs.Ytkipcdjadmocaaa
