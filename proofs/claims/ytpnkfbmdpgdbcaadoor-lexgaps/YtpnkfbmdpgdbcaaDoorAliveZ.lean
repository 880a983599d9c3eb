import Derived.Test.YtpnkfbmdpgdbcaaDoorRws
set_option linter.unusedVariables false
set_option linter.unusedSimpArgs false
namespace Go.Proofs.YtpnkfbmdpgdbcaaDoor
open Go.RowKit
theorem scn_alive : L.scn ⟨#[97, 32, 34, 98, 32, 99, 34, 32, 48, 46, 53, 59]⟩ = ([(1, ⟨#[97]⟩, 1, 1), (2, ⟨#[98, 32, 99]⟩, 1, 3), (3, ⟨#[48, 46, 53]⟩, 1, 9), (4, ⟨#[59]⟩, 1, 12), (5, ⟨#[]⟩, 1, 13)], none) := by kernel_rfl
set_option maxHeartbeats 1000000 in
set_option maxRecDepth 100000 in
theorem alive_any (w : World) : Calls Tryd.prog 7 #[] w fun e w' => e = .returned (.bool true) ∧ Below w.heap.size w w' := by
  have HS := hide' fun w => scan_fun ⟨#[97, 32, 34, 98, 32, 99, 34, 32, 48, 46, 53, 59]⟩ w (by decide)
  rw [scn_alive] at HS
  unfold ScanIs at HS
  go_enter Tryd.func7, Tryd.ntmps7
  go_wp2_with (go_at_call 6; refine (HS.out _).mono ?_; rintro e w1 ⟨⟨sv, rfl, hrow⟩, b1⟩; obtain ⟨g, cap, rfl, hc, hB, hl, hr⟩ := rows_at hrow (by simp); have hr0 := hr 0 _ rfl; have hr1 := hr 1 _ rfl; have hr2 := hr 2 _ rfl; have hr3 := hr 3 _ rfl; have hr4 := hr 4 _ rfl; obtain ⟨p0, p1, p2, p3⟩ := hr0; obtain ⟨q0, q1, q2, q3⟩ := hr1; obtain ⟨r0, r1, r2, r3⟩ := hr2; obtain ⟨s0, s1, s2, s3⟩ := hr3; obtain ⟨t0, t1, t2, t3⟩ := hr4; simp only [Nat.zero_mul, Nat.zero_add, Nat.one_mul, Nat.reduceAdd, Nat.reduceMul, List.length_cons, List.length_nil] at p0 p1 p2 p3 q0 q1 q2 q3 r0 r1 r2 r3 s0 s1 s2 s3 t0 t1 t2 t3 hc ⊢; clear hr hrow)
  go_ret
  exact ⟨rfl, b1⟩
end Go.Proofs.YtpnkfbmdpgdbcaaDoor
