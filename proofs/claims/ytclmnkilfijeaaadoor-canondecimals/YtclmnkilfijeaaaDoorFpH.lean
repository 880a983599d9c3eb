import Derived.Test.YtclmnkilfijeaaaDoorFpG
set_option linter.unusedVariables false
set_option linter.unusedSimpArgs false
namespace Go.Proofs.YtclmnkilfijeaaaDoor
namespace Fp
theorem U_scale (N G t : Nat) (ht : 0 < t) : U (N * t) (G * t) = U N G := by
  unfold U
  rw [Nat.mul_div_mul_right _ _ ht, Nat.mul_mod_mul_right]
  have : N % G * t = 0 ↔ N % G = 0 := by
    rw [Nat.mul_eq_zero]; constructor
    · rintro (h | h); exact h; omega
    · exact Or.inl
  simp only [this]
/-- scaling as the code does it: the great half of the product is moved, what is lost is told by the last bit -/
def usc (x h l s : Nat) : Nat :=
  let hi := x * h / 18446744073709551616
  let mid := x * h % 18446744073709551616
  let mid2 := x * l / 18446744073709551616
  if hi / 2 ^ s * 2 ^ s ≠ hi then hi / 2 ^ s ||| 1
  else (hi + (18446744073709551616 - (if mid < mid2 then 1 else 0))) % 18446744073709551616 / 2 ^ s ||| (if 1 < (mid + (18446744073709551616 - mid2)) % 18446744073709551616 then 1 else 0)
theorem or_one (n : Nat) : n ||| 1 = 2 * (n / 2) + 1 := by
  have h : (n ||| 1) / 2 = n / 2 := by rw [Nat.or_div_two]; simp
  have h2 : (n ||| 1) % 2 = 1 := by rw [Nat.or_mod_two_eq_one]; right; rfl
  omega
theorem usc_exact {x h s : Nat} (hx : x < 18446744073709551616) (hh : h < 18446744073709551616) (he : h % 2 = 0) : usc x h 0 s = U (x * h) (18446744073709551616 * 2 ^ s) := by
  have hs : 0 < 2 ^ s := Nat.two_pow_pos _
  have hme : x * h % 18446744073709551616 % 2 = 0 := by
    have : x * h % 2 = 0 := by rw [Nat.mul_mod, he, Nat.mul_zero]
    omega
  have hhi : x * h / 18446744073709551616 < 18446744073709551616 := by
    rw [Nat.div_lt_iff_lt_mul (by omega)]
    exact Nat.mul_lt_mul'' hx hh
  have hmm : x * h % (18446744073709551616 * 2 ^ s) = 0 ↔ (x * h % 18446744073709551616 = 0 ∧ x * h / 18446744073709551616 % 2 ^ s = 0) := by
    rw [Nat.mod_mul]
    constructor
    · intro q
      have : 18446744073709551616 * (x * h / 18446744073709551616 % 2 ^ s) = 0 := by omega
      rw [Nat.mul_eq_zero] at this
      exact ⟨by omega, by omega⟩
    · rintro ⟨q1, q2⟩; rw [q1, q2]
  unfold usc U
  simp only [Nat.mul_zero, Nat.zero_div, Nat.not_lt_zero, if_false, Nat.sub_zero]
  rw [← Nat.div_div_eq_div_mul]
  simp only [hmm]
  generalize x * h / 18446744073709551616 = hi at *
  have hm2 := Nat.mod_lt (x * h) (show 18446744073709551616 > 0 by omega)
  generalize x * h % 18446744073709551616 = mid at *
  have hdm := Nat.div_add_mod hi (2 ^ s)
  rw [Nat.mul_comm] at hdm
  rw [Nat.add_mod_right, Nat.add_mod_right, Nat.mod_eq_of_lt hm2, Nat.mod_eq_of_lt hhi]
  by_cases c1 : hi % 2 ^ s = 0
  · rw [if_neg (by omega)]
    by_cases c2 : mid = 0
    · rw [if_neg (show ¬ (1 < mid) by omega), Nat.or_zero, if_pos ⟨c2, c1⟩]
    · rw [if_pos (show 1 < mid by omega), or_one, if_neg (fun q => c2 q.1)]
  · rw [if_pos (by omega), if_neg (fun q => c1 q.2), or_one]
theorem usc_le (x h l s : Nat) (hs : s ≤ 63) (hx : x < 18446744073709551616) (hh : h < 18446744073709551616) : usc x h l s < 2 ^ (64 - s) := by
  have hp : (18446744073709551616 : Nat) = 2 ^ (64 - s) * 2 ^ s := by rw [← Nat.pow_add, show 64 - s + s = 64 by omega]
  have hhi : x * h / 18446744073709551616 < 18446744073709551616 := by
    rw [Nat.div_lt_iff_lt_mul (by omega)]
    exact Nat.mul_lt_mul'' hx hh
  have key : ∀ y, y < 18446744073709551616 → y / 2 ^ s < 2 ^ (64 - s) := fun y hy => by
    rw [Nat.div_lt_iff_lt_mul (Nat.two_pow_pos _), ← hp]; exact hy
  have h1 : 1 < 2 ^ (64 - s) := Nat.one_lt_two_pow (by omega)
  unfold usc
  simp only
  split
  · exact Nat.or_lt_two_pow (key _ hhi) h1
  · refine Nat.or_lt_two_pow (key _ (Nat.mod_lt _ (by omega))) ?_
    split <;> omega
end Fp
end Go.Proofs.YtclmnkilfijeaaaDoor
