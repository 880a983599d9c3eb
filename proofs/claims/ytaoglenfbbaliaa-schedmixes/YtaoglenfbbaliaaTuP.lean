import Derived.Test.YtaoglenfbbaliaaRnd
set_option linter.unusedVariables false
set_option linter.unusedSimpArgs false
namespace Go.Proofs.Ytaoglenfbbaliaa
open Go.RowKit
namespace F
open C
theorem rep_at (t k : Nat) (h : k < t) : (List.replicate t (-1 : Int)).getD k 0 = -1 := by simp [List.getD, List.getElem?_replicate, h]
/-- picks in turn are fair -/
theorem turn_fair (t n : Nat) (ht : 0 < t) : Fr (rl t n) (List.replicate t (-1)) (t : Int) := by
  refine ⟨by omega, fun k hk f hf => ?_⟩
  rw [List.length_replicate] at hk
  rw [rep_at t k hk, rl_len] at hf
  have e : ef n (-1) = (n : Int) - 1 := by unfold ef; rw [if_pos (.inl (by omega))]
  rw [e] at hf
  have h1 := Nat.div_add_mod f t
  have h2 := Nat.mod_lt f ht
  by_cases hc : f % t ≤ k
  · refine ⟨t * (f / t) + k, by omega, by omega, ?_⟩
    rw [rl_at t n _ (by omega), Nat.mul_add_mod, Nat.mod_eq_of_lt hk]
  · have h3 : t * (f / t + 1) = t * (f / t) + t := Nat.mul_succ t (f / t)
    refine ⟨t * (f / t + 1) + k, by omega, by omega, ?_⟩
    rw [rl_at t n _ (by omega), Nat.mul_add_mod, Nat.mod_eq_of_lt hk]
/-- and in no smaller row -/
theorem turn_less (t n : Nat) (ht : 0 < t) (hn : t ≤ n) : ¬ Fr (rl t n) (List.replicate t (-1)) ((t : Int) - 1) := by
  rintro ⟨h1, h2⟩
  have e : ef n (-1) = (n : Int) - 1 := by unfold ef; rw [if_pos (.inl (by omega))]
  obtain ⟨m, m1, m2, m3⟩ := h2 (t - 1) (by rw [List.length_replicate]; omega) 0 (by rw [rep_at t _ (by omega), rl_len, e]; omega)
  rw [rl_at t n m (by omega), Nat.mod_eq_of_lt (by omega)] at m3
  simp at m3
  omega
set_option maxRecDepth 100000 in
set_option maxHeartbeats 400000 in
theorem which_any (k : Int) (n : Nat) (hn : 0 < n) (hl : n ≤ 9000000000000000) (w : World) : Calls Try.prog 32 #[.int .i64 k, .int .i64 (n : Int)] w fun e w' => ∃ j : Nat, e = .returned (.int .i64 (j : Int)) ∧ j < n ∧ w' = w := by
  have h0 : ¬ (n : Int) = 0 := by omega
  have h1 : -(n : Int) < Int.tmod k (n : Int) := by
    have := Int.tmod_lt_of_pos (-k) (show (0 : Int) < n by omega)
    rw [Int.neg_tmod] at this
    omega
  have h2 : Int.tmod k (n : Int) < (n : Int) := Int.tmod_lt_of_pos k (by omega)
  have hw : IntKind.i64.wrap (Int.tmod k (n : Int)) = Int.tmod k (n : Int) := by rw [IntKind.wrap_i64]; omega
  obtain ⟨m, hm⟩ : ∃ m, Int.tmod k (n : Int) = m := ⟨_, rfl⟩
  have HM := hide' hm
  rw [hm] at h1 h2 hw
  have e2 : wrap64 (m + (n : Int)) = m + (n : Int) := wrap_in (by omega) (by omega)
  have H12 := hide' (And.intro h1 h2)
  rcases Int.lt_or_le m 0 with h3 | h3
  · clear h1 h2 hl hn
    go_enter Try.func32, Try.ntmps32
    go_wp2_with fail
    go_ret
    have h := H12.out
    refine ⟨(m + (n : Int)).toNat, ?_, by omega, rfl⟩
    rw [show (((m + (n : Int)).toNat : Nat) : Int) = m + (n : Int) by omega]
    show Ending.returned (.int .i64 (wrap64 (m + (n : Int)))) = _
    rw [e2]
  · have h3' : ¬ m < 0 := by omega
    clear h1 h2 hl hn
    go_enter Try.func32, Try.ntmps32
    go_wp2_with fail
    go_ret
    have h := H12.out
    refine ⟨m.toNat, ?_, by omega, rfl⟩
    rw [show ((m.toNat : Nat) : Int) = m by omega]
    rfl
end F
end Go.Proofs.Ytaoglenfbbaliaa
