import Derived.Test.YtjmkofdnlhfaiaaFpA
import Ieee.Arith
set_option linter.unusedVariables false
set_option linter.unusedSimpArgs false
namespace Go.Proofs.Ytjmkofdnlhfaiaa
namespace Fp
/-- half to even, by 2^t with t 2 or 3, of a number with a sticky bit -/
theorem cut_even (m t : Nat) (ht : t ≤ m.log2 + 2) : Ieee.Toward.even.cut false m t = m / 2 ^ t + (if 2 ^ t < 2 * (m % 2 ^ t) ∨ (2 ^ t = 2 * (m % 2 ^ t) ∧ m / 2 ^ t % 2 = 1) then 1 else 0) := by
  unfold Ieee.Toward.cut
  rw [Nat.min_eq_left ht]
  simp only [Nat.one_shiftLeft]
  generalize 2 ^ t = g
  by_cases h1 : g < 2 * (m % g)
  · simp [h1]
  · by_cases h2 : g = 2 * (m % g) ∧ m / g % 2 = 1
    · obtain ⟨h2, h3⟩ := h2
      have hx : (g == 2 * (m % g)) = true := by rw [beq_iff_eq]; exact h2
      rw [if_pos (Or.inr ⟨h2, h3⟩), hx, h3]
      simp
    · rw [if_neg (by intro q; rcases q with q | q; exact h1 q; exact h2 q)]
      have : (decide (g < 2 * (m % g)) || g == 2 * (m % g) && m / g % 2 == 1) = false := by
        rw [Bool.or_eq_false_iff]
        refine ⟨by simpa using h1, ?_⟩
        cases q : (g == 2 * (m % g)) with
        | false => rfl
        | true =>
          have q' : g = 2 * (m % g) := by simpa using q
          have : ¬ (m / g % 2 = 1) := fun z => h2 ⟨q', z⟩
          simpa using this
      rw [this]; rfl
/-- what the rounding of a quotient with a sticky bit says of the quotient: t is 2 or 3 (u its half, 2 or 4) -/
theorem round_bounds {A B Q R st c t : Nat} (hB : 0 < B) (hD : A * 18014398509481984 = Q * B + R) (hR : R < B) (hst : st = if R = 0 then 0 else 1) (ht : t = 2 ∨ t = 3)
    (hc : c = (2 * Q + st) / 2 ^ t + (if 2 ^ t < 2 * ((2 * Q + st) % 2 ^ t) ∨ (2 ^ t = 2 * ((2 * Q + st) % 2 ^ t) ∧ (2 * Q + st) / 2 ^ t % 2 = 1) then 1 else 0)) (h0 : 0 < c) :
    (2 * c - 1) * (2 ^ (t - 2)) * B ≤ A * 18014398509481984 ∧ A * 18014398509481984 ≤ (2 * c + 1) * (2 ^ (t - 2)) * B ∧ (c % 2 = 1 → (2 * c - 1) * (2 ^ (t - 2)) * B < A * 18014398509481984 ∧ A * 18014398509481984 < (2 * c + 1) * (2 ^ (t - 2)) * B) := by
  have hs1 : st ≤ 1 := by rw [hst]; split <;> omega
  have key : ∀ lo hi : Nat, lo ≤ Q → (Q < hi ∨ (Q = hi ∧ R = 0)) → lo * B ≤ Q * B + R ∧ Q * B + R ≤ hi * B ∧ ((lo < Q ∨ 0 < R) → lo * B < Q * B + R) ∧ (Q < hi → Q * B + R < hi * B) := by
    intro lo hi h1 h2
    have a1 : lo * B ≤ Q * B := Nat.mul_le_mul_right _ h1
    have a2 : Q < hi → Q * B + B ≤ hi * B := fun h => by
      have := Nat.mul_le_mul_right B (show Q + 1 ≤ hi by omega)
      rw [Nat.add_mul, Nat.one_mul] at this
      exact this
    refine ⟨by omega, ?_, ?_, ?_⟩
    · rcases h2 with h2 | ⟨rfl, h2⟩
      · have := a2 h2; omega
      · omega
    · intro h
      rcases h with h | h
      · have := Nat.mul_lt_mul_of_pos_right h hB; omega
      · omega
    · intro h; have := a2 h; omega
  rw [hD]
  have hR0 : st = 0 ↔ R = 0 := by rw [hst]; split <;> simp_all
  rcases ht with rfl | rfl
  · simp only [Nat.sub_self, Nat.pow_zero, Nat.mul_one]
    rw [show (2 : Nat) ^ 2 = 4 from rfl] at hc
    obtain ⟨k1, k2, k3, k4⟩ := key (2 * c - 1) (2 * c + 1) (by split at hc <;> omega) (by split at hc <;> omega)
    exact ⟨k1, k2, fun ho => ⟨k3 (by split at hc <;> omega), k4 (by split at hc <;> omega)⟩⟩
  · rw [show (2 : Nat) ^ 3 = 8 from rfl] at hc; simp only [show (3 : Nat) - 2 = 1 from rfl, Nat.pow_one]
    obtain ⟨k1, k2, k3, k4⟩ := key ((2 * c - 1) * 2) ((2 * c + 1) * 2) (by split at hc <;> omega) (by split at hc <;> omega)
    exact ⟨k1, k2, fun ho => ⟨k3 (by split at hc <;> omega), k4 (by split at hc <;> omega)⟩⟩
end Fp
end Go.Proofs.Ytjmkofdnlhfaiaa
