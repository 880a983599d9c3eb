import Derived.Test.YtclmnkilfijeaaaDoorFpC
set_option linter.unusedVariables false
set_option linter.unusedSimpArgs false
namespace Go.Proofs.YtclmnkilfijeaaaDoor
namespace Fp
/-! the shortest decimal, by unrounded scaling -/
/-- N / G with a sticky bit -/
def U (N G : Nat) : Nat := if N % G = 0 then N / G else 2 * (N / G / 2) + 1
theorem U_cases (N G : Nat) (hG : 0 < G) : (∀ k, k ≤ N / G ↔ k * G ≤ N) ∧ ((N = N / G * G ∧ U N G = N / G) ∨ (N / G * G < N ∧ N < N / G * G + G ∧ U N G = 2 * (N / G / 2) + 1)) := by
  refine ⟨fun k => Nat.le_div_iff_mul_le hG, ?_⟩
  have h1 := Nat.div_add_mod N G
  have h2 := Nat.mod_lt N hG
  rw [Nat.mul_comm] at h1
  unfold U
  by_cases h : N % G = 0
  · left; rw [if_pos h]; exact ⟨by omega, rfl⟩
  · right; rw [if_neg h]; exact ⟨by omega, by omega, rfl⟩
theorem mul_le_iff (a b G : Nat) (hG : 0 < G) : a * G ≤ b * G ↔ a ≤ b := ⟨fun h => Nat.le_of_mul_le_mul_right h hG, fun h => Nat.mul_le_mul_right _ h⟩
theorem four (D G : Nat) : 4 * (D * G) = 4 * D * G := by rw [Nat.mul_assoc]
theorem U_ceil (N G D : Nat) (hG : 0 < G) : (U N G + 3) / 4 ≤ D ↔ N ≤ 4 * (D * G) := by
  obtain ⟨hk, h⟩ := U_cases N G hG
  rw [four]
  generalize N / G = q at *
  rcases h with ⟨h1, h2⟩ | ⟨h1, h2, h3⟩
  · rw [h2]
    constructor
    · intro h; rw [h1]; exact Nat.mul_le_mul_right _ (by omega)
    · intro h; rw [h1, mul_le_iff _ _ _ hG] at h; omega
  · rw [h3]
    constructor
    · intro h
      have : ¬ (4 * D ≤ q) := by omega
      rw [hk] at this; omega
    · intro h
      have : ¬ (4 * D ≤ q) := fun g => by
        have := (mul_le_iff _ _ G hG).2 g
        omega
      omega
theorem U_ceil_odd (N G D : Nat) (hG : 0 < G) : (U N G + 1 + 3) / 4 ≤ D ↔ N < 4 * (D * G) := by
  obtain ⟨hk, h⟩ := U_cases N G hG
  rw [four]
  generalize N / G = q at *
  rcases h with ⟨h1, h2⟩ | ⟨h1, h2, h3⟩
  · rw [h2]
    have := hk (4 * D)
    omega
  · rw [h3]
    have := hk (4 * D)
    omega
theorem U_floor (N G D : Nat) (hG : 0 < G) : D ≤ U N G / 4 ↔ 4 * (D * G) ≤ N := by
  obtain ⟨hk, h⟩ := U_cases N G hG
  rw [four]
  generalize N / G = q at *
  have := hk (4 * D)
  rcases h with ⟨h1, h2⟩ | ⟨h1, h2, h3⟩
  · rw [h2]; omega
  · rw [h3]; omega
theorem U_floor_odd (N G D : Nat) (hG : 0 < G) (hN : 0 < N) : D ≤ (U N G - 1) / 4 ↔ 4 * (D * G) < N := by
  obtain ⟨hk, h⟩ := U_cases N G hG
  rw [four]
  generalize N / G = q at *
  have h4 := hk (4 * D)
  rcases h with ⟨h1, h2⟩ | ⟨h1, h2, h3⟩
  · rw [h2]
    have h5 := mul_le_iff q (4 * D) G hG
    have hq : 0 < q := by
      rcases Nat.eq_zero_or_pos q with e | e
      · subst e; omega
      · exact e
    omega
  · rw [h3]
    have h5 := mul_le_iff (4 * D) q G hG
    omega
theorem U_pos (N G : Nat) (hG : 0 < G) (hN : 0 < N) : 0 < U N G := by
  obtain ⟨hk, h⟩ := U_cases N G hG
  rcases h with ⟨h1, h2⟩ | ⟨h1, h2, h3⟩
  · rw [h2]
    rcases Nat.eq_zero_or_pos (N / G) with e | e
    · rw [e] at h1; omega
    · exact e
  · omega
def rnd (u : Nat) : Nat := (u + 1 + u / 4 % 2) / 4
theorem U_round_ge (N G D : Nat) (hG : 0 < G) (h : 4 * (D * G) ≤ N) : D ≤ rnd (U N G) := by
  have := (U_floor N G D hG).2 h
  unfold rnd; omega
theorem U_round_le (N G D : Nat) (hG : 0 < G) (h : N ≤ 4 * (D * G)) : rnd (U N G) ≤ D := by
  have := (U_ceil N G D hG).2 h
  unfold rnd; omega
def lowD (o N G : Nat) : Nat := (U N G + o + 3) / 4
def highD (o N G : Nat) : Nat := (U N G - o) / 4
/-- the pick: the digits, and how many of them stand behind the point -/
def pickD (o Nmin Nmax Nm G p : Nat) : Nat × Nat :=
  if lowD o Nmin G ≤ highD o Nmax G / 10 * 10 then (highD o Nmax G / 10, p - 1)
  else if lowD o Nmin G < highD o Nmax G then (rnd (U Nm G), p) else (lowD o Nmin G, p)
/-- what is known of a pick: the interval is that of r, ten apart is too far, what is told third lies within -/
structure Good (r o Nmin Nmax Nm G p : Nat) : Prop where
  p1 : 1 ≤ p
  iff : ∀ D, (lowD o Nmin G ≤ D ∧ D ≤ highD o Nmax G) ↔ Near r D (10 ^ p)
  far : ∀ D E, Near r (10 * D) (10 ^ p) → Near r (10 * E) (10 ^ p) → D = E
  mid : lowD o Nmin G ≤ highD o Nmax G ∧ (lowD o Nmin G < highD o Nmax G → lowD o Nmin G ≤ rnd (U Nm G) ∧ rnd (U Nm G) ≤ highD o Nmax G)
theorem near_scale {r n q t : Nat} (ht : 0 < t) : Near r (n * t) (q * t) ↔ Near r n q := by
  unfold Near
  have e1 : ∀ x : Nat, x * (q * t) = x * q * t := fun x => by rw [Nat.mul_assoc]
  have e2 : n * t * unit = n * unit * t := by rw [Nat.mul_right_comm]
  rw [e1, e1, e2, mul_le_iff _ _ _ ht, mul_le_iff _ _ _ ht]
  have e3 : ∀ x y : Nat, x * t < y * t ↔ x < y := fun x y => ⟨fun h => Nat.lt_of_mul_lt_mul_right h, fun h => Nat.mul_lt_mul_of_pos_right h ht⟩
  rw [e3, e3]
theorem near_pow {r n p j : Nat} (h : j ≤ p) : Near r (n * 10 ^ (p - j)) (10 ^ p) ↔ Near r n (10 ^ j) := by
  have : 10 ^ p = 10 ^ j * 10 ^ (p - j) := by rw [← Nat.pow_add]; congr 1; omega
  rw [this, near_scale (Nat.pow_pos (by omega))]
theorem Good.sound {r o Nmin Nmax Nm G p : Nat} (g : Good r o Nmin Nmax Nm G p) : Near r (pickD o Nmin Nmax Nm G p).1 (10 ^ (pickD o Nmin Nmax Nm G p).2) := by
  have := g.p1
  unfold pickD
  split
  · rename_i h
    simp only
    rw [← near_pow (p := p) (j := p - 1) (by omega), show p - (p - 1) = 1 by omega, Nat.pow_one, ← g.iff]
    exact ⟨h, Nat.div_mul_le_self _ _⟩
  · split
    · rename_i h1 h2
      simp only
      rw [← g.iff]; exact g.mid.2 h2
    · simp only
      rw [← g.iff]; exact ⟨Nat.le_refl _, g.mid.1⟩
theorem Good.third {r o Nmin Nmax Nm G p : Nat} (g : Good r o Nmin Nmax Nm G p) : (pickD o Nmin Nmax Nm G p).2 = p - 1 ∨ ((pickD o Nmin Nmax Nm G p).2 = p ∧ (pickD o Nmin Nmax Nm G p).1 % 10 ≠ 0) := by
  have hs := g.sound
  have := g.p1
  revert hs
  unfold pickD
  split
  · intro _; left; rfl
  · rename_i h
    intro hs
    right
    have key : ∀ d, Near r d (10 ^ p) → d % 10 ≠ 0 := by
      intro d hd h0
      rw [← g.iff] at hd
      apply h
      generalize lowD o Nmin G = a at *
      generalize highD o Nmax G = b at *
      omega
    split at hs
    · rename_i h2; rw [if_pos h2]; exact ⟨rfl, key _ hs⟩
    · rename_i h2; rw [if_neg h2]; exact ⟨rfl, key _ hs⟩
theorem Good.complete {r o Nmin Nmax Nm G p n j : Nat} (g : Good r o Nmin Nmax Nm G p) (hj : j < p) (h : Near r n (10 ^ j)) : pickD o Nmin Nmax Nm G p = (n * 10 ^ (p - 1 - j), p - 1) := by
  have h1 := h
  rw [← near_pow (p := p) (Nat.le_of_lt hj)] at h1
  have e : n * 10 ^ (p - j) = 10 * (n * 10 ^ (p - 1 - j)) := by
    rw [show p - j = p - 1 - j + 1 by omega, Nat.pow_succ, ← Nat.mul_assoc, Nat.mul_comm]
  rw [e] at h1
  have h2 := (g.iff _).2 h1
  generalize n * 10 ^ (p - 1 - j) = D at *
  have hc : lowD o Nmin G ≤ highD o Nmax G / 10 * 10 := by
    generalize lowD o Nmin G = a at *
    generalize highD o Nmax G = b at *
    omega
  unfold pickD
  rw [if_pos hc]
  have h3 : Near r (10 * (highD o Nmax G / 10)) (10 ^ p) := by
    rw [← g.iff]; rw [Nat.mul_comm]; exact ⟨hc, Nat.div_mul_le_self _ _⟩
  rw [g.far _ _ h3 h1]
end Fp
end Go.Proofs.YtclmnkilfijeaaaDoor
