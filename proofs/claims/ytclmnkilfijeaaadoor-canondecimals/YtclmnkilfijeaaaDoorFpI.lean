import Derived.Test.YtclmnkilfijeaaaDoorFpH
set_option linter.unusedVariables false
set_option linter.unusedSimpArgs false
namespace Go.Proofs.YtclmnkilfijeaaaDoor
namespace Fp
/-- the pick, from what the scaling told -/
def pickU (o umin umax um p : Nat) : Nat × Nat :=
  if (umin + o + 3) / 4 ≤ (umax - o) / 4 / 10 * 10 then ((umax - o) / 4 / 10, p - 1)
  else if (umin + o + 3) / 4 < (umax - o) / 4 then (rnd um, p) else ((umin + o + 3) / 4, p)
theorem pickD_U (o Nmin Nmax Nm G p : Nat) : pickD o Nmin Nmax Nm G p = pickU o (U Nmin G) (U Nmax G) (U Nm G) p := rfl
def lpN (p : Nat) : Nat := p * 108853 / 32768
def hN (p : Nat) : Nat := 10 ^ p * 9223372036854775808 / 2 ^ lpN p
def nearOk (a p : Nat) : Bool := hN p % 2 == 0 && decide (hN p < 18446744073709551616) && hN p * 2 ^ (a + 11) == 4 * 10 ^ p * (18446744073709551616 * 2 ^ (a + 8 - lpN p)) && decide (lpN p ≤ a + 4) && decide (a + 8 - lpN p ≤ 10)
theorem nearOk_gen : ∀ a, a < 87 → 51 < a → nearOk a (pGen a) = true := by decide
theorem nearOk_pow : ∀ a, a < 87 → 51 < a → nearOk a (pPow a) = true := by decide
theorem near_usc {a p x : Nat} (h : nearOk a p = true) (hx : x < 18446744073709551616) : usc x (hN p) 0 (a + 8 - lpN p) = U (4 * (x * 10 ^ p)) (2 ^ (a + 11)) := by
  unfold nearOk at h
  simp only [Bool.and_eq_true, beq_iff_eq, decide_eq_true_eq] at h
  obtain ⟨⟨⟨⟨h1, h2⟩, h3⟩, h4⟩, h5⟩ := h
  rw [usc_exact hx h2 h1]
  have hG2 : 0 < 2 ^ (a + 11) := Nat.two_pow_pos _
  have hG1 : 0 < 18446744073709551616 * 2 ^ (a + 8 - lpN p) := Nat.mul_pos (by omega) (Nat.two_pow_pos _)
  generalize 18446744073709551616 * 2 ^ (a + 8 - lpN p) = G1 at *
  generalize 2 ^ (a + 11) = G2 at *
  rw [← U_scale _ G1 G2 hG2, ← U_scale (4 * (x * 10 ^ p)) G2 G1 hG1, Nat.mul_comm G2 G1]
  congr 1
  rw [Nat.mul_assoc, h3]; ac_rfl
/-- what is told of a small float is small -/
theorem pickU_le {o umin umax um p s : Nat} (hs : s ≤ 60) (ho : o ≤ 1) (hp : 1 ≤ p) (h1 : umin < 2 ^ (64 - s)) (h2 : umax < 2 ^ (64 - s)) (h3 : um < 2 ^ (64 - s)) :
    (pickU o umin umax um p).1 * 10 ^ (p - (pickU o umin umax um p).2) ≤ 2 ^ (62 - s) ∧ ((pickU o umin umax um p).2 = p - 1 ∨ (pickU o umin umax um p).2 = p) := by
  have e : 2 ^ (64 - s) = 4 * 2 ^ (62 - s) := by rw [show 64 - s = 62 - s + 2 by omega, Nat.pow_add, Nat.mul_comm]
  rw [e] at h1 h2 h3
  have hp0 : 0 < 2 ^ (62 - s) := Nat.two_pow_pos _
  generalize 2 ^ (62 - s) = z at *
  unfold pickU
  split
  · refine ⟨?_, .inl rfl⟩
    simp only
    rw [show p - (p - 1) = 1 by omega, Nat.pow_one]
    omega
  · split
    · refine ⟨?_, .inr rfl⟩
      simp only
      rw [Nat.sub_self, Nat.pow_zero, Nat.mul_one]
      unfold rnd
      omega
    · refine ⟨?_, .inr rfl⟩
      simp only
      rw [Nat.sub_self, Nat.pow_zero, Nat.mul_one]
      omega
/-- a small float's decimal has more than nine digits behind the point -/
theorem small_long {o umin umax um p s n t k e : Nat} (hs : s ≤ 60) (ho : o ≤ 1) (hp : 1 ≤ p) (h1 : umin < 2 ^ (64 - s)) (h2 : umax < 2 ^ (64 - s)) (h3 : um < 2 ^ (64 - s))
    (hv : 2 ^ (62 - s) * 2 ^ e ≤ 10 ^ p) (he : 30 ≤ e) (hd : (pickU o umin umax um p).1 = n * 10 ^ t) (hk : (pickU o umin umax um p).2 = k + t) (hn : n ≠ 0) : 9 < k := by
  obtain ⟨b1, b2⟩ := pickU_le (um := um) hs ho hp h1 h2 h3
  rcases Nat.lt_or_ge 9 k with h | h
  · exact h
  · exfalso
    rw [hd, hk] at b1
    have hkp : k + t ≤ p := by omega
    have e1 : n * 10 ^ t * 10 ^ (p - (k + t)) = n * 10 ^ (p - k) := by rw [Nat.mul_assoc, ← Nat.pow_add, show t + (p - (k + t)) = p - k by omega]
    rw [e1] at b1
    have e2 : 10 ^ p = 10 ^ (p - k) * 10 ^ k := by rw [← Nat.pow_add, show p - k + k = p by omega]
    have e3 : 10 ^ k ≤ 10 ^ 9 := Nat.pow_le_pow_right (by omega) h
    have e4 : 10 ^ (p - k) * 2 ^ e ≤ 10 ^ (p - k) * 10 ^ k := by
      rw [← e2]
      refine Nat.le_trans ?_ hv
      refine Nat.le_trans (Nat.mul_le_mul_right _ ?_) (Nat.mul_le_mul_right _ b1)
      exact Nat.le_mul_of_pos_left _ (by omega)
    have e5 := Nat.le_of_mul_le_mul_left e4 (Nat.pow_pos (by omega))
    have e6 : (2 : Nat) ^ 30 ≤ 2 ^ e := Nat.pow_le_pow_right (by omega) he
    have e7 : (10 : Nat) ^ 9 < 2 ^ 30 := by decide
    omega
/-- the numbers of the small ones: a from 87 to 1073, or 1074 with s moved on -/
def smallOk (a p : Nat) : Bool := decide (1 ≤ p) && decide (p ≤ 340) && decide (lpN p ≤ a + 4) && decide (a + 8 - lpN p ≤ 10) && decide (2 ^ (62 - (a + 8 - lpN p)) * 2 ^ (a + 11 - 65) ≤ 10 ^ p)
theorem smallOk_all : (List.range 1075).all (fun a => decide (a < 87) || (smallOk a (pGen a) && smallOk a (pPow a))) = true := by decide +kernel
end Fp
end Go.Proofs.YtclmnkilfijeaaaDoor
