import Ieee.Arith
import Derived.Laws.FloatBits
import GoSem.Core.Float
set_option linter.unusedVariables false
set_option linter.unusedSimpArgs false
namespace Go.Proofs.Ytfkoacjfihaajaa
/-! floats of any format, by their rungs: what rounding does -/
namespace Fl
theorem log2_eq {n k : Nat} (h1 : 2 ^ k ≤ n) (h2 : n < 2 ^ (k + 1)) : n.log2 = k := by
  have h0 : n ≠ 0 := by have := Nat.two_pow_pos k; omega
  have a := (Nat.le_log2 h0).2 h1
  have b := (Nat.log2_lt h0).2 h2
  omega
theorem log2_mul {m : Nat} (k : Nat) (h : m ≠ 0) : (m * 2 ^ k).log2 = m.log2 + k := by
  refine log2_eq ?_ ?_
  · rw [Nat.pow_add]; exact Nat.mul_le_mul_right _ (Nat.log2_self_le h)
  · rw [show m.log2 + k + 1 = m.log2 + 1 + k by omega, Nat.pow_add]; exact Nat.mul_lt_mul_of_pos_right Nat.lt_log2_self (Nat.two_pow_pos _)
theorem log2_mono {m n : Nat} (h : m ≤ n) : m.log2 ≤ n.log2 := by
  rcases Nat.eq_zero_or_pos m with e | e
  · subst e; simp
  · exact (Nat.le_log2 (by omega)).2 (Nat.le_trans (Nat.log2_self_le (by omega)) h)
/-- half to even, by g -/
def cg (n g : Nat) : Nat := n / g + (if g < 2 * (n % g) ∨ (g = 2 * (n % g) ∧ n / g % 2 = 1) then 1 else 0)
def cut (n d : Nat) : Nat := cg n (2 ^ d)
theorem cg_split {n g : Nat} (hg : 0 < g) : ∃ q r, n = q * g + r ∧ r < g ∧ n / g = q ∧ n % g = r :=
  ⟨n / g, n % g, by rw [Nat.mul_comm]; exact (Nat.div_add_mod _ _).symm, Nat.mod_lt _ hg, rfl, rfl⟩
theorem cg_of {n g q r : Nat} (e : n = q * g + r) (h : r < g) : cg n g = q + (if g < 2 * r ∨ (g = 2 * r ∧ q % 2 = 1) then 1 else 0) := by
  have e1 : n / g = q := by rw [e, Nat.mul_comm, Nat.mul_add_div (by omega), Nat.div_eq_of_lt h]; rfl
  have e2 : n % g = r := by rw [e, Nat.mul_comm, Nat.mul_add_mod, Nat.mod_eq_of_lt h]
  unfold cg; rw [e1, e2]
theorem cg_small {n g : Nat} (h : 2 * n < g) : cg n g = 0 := by
  rw [cg_of (q := 0) (r := n) (by omega) (by omega), if_neg (by omega)]
theorem cut_def (neg : Bool) (n d : Nat) : Ieee.Toward.even.cut neg n d = cut n d := by
  have key : ∀ g, (decide (g < 2 * (n % g)) || (g == 2 * (n % g) && n / g % 2 == 1)).toNat = if g < 2 * (n % g) ∨ (g = 2 * (n % g) ∧ n / g % 2 = 1) then 1 else 0 := by
    intro g
    by_cases h1 : g < 2 * (n % g)
    · simp [h1]
    · by_cases h2 : g = 2 * (n % g) ∧ n / g % 2 = 1
      · rw [if_pos (Or.inr h2)]
        obtain ⟨h2, h3⟩ := h2
        have : (g == 2 * (n % g)) = true := by rw [beq_iff_eq]; exact h2
        rw [this, h3]; simp
      · rw [if_neg (by intro q; rcases q with q | q; exact h1 q; exact h2 q)]
        have : (decide (g < 2 * (n % g)) || g == 2 * (n % g) && n / g % 2 == 1) = false := by
          rw [Bool.or_eq_false_iff]
          refine ⟨by simpa using h1, ?_⟩
          cases q : (g == 2 * (n % g)) with
          | false => rfl
          | true =>
            have q' : g = 2 * (n % g) := by simpa using q
            have : ¬ (n / g % 2 = 1) := fun z => h2 ⟨q', z⟩
            simpa using this
        rw [this]; rfl
  unfold Ieee.Toward.cut
  simp only [Nat.one_shiftLeft]
  rcases Nat.le_total d (n.log2 + 2) with h | h
  · rw [Nat.min_eq_left h, key]; rfl
  · rw [Nat.min_eq_right h, key]
    have h1 : 2 * n < 2 ^ (n.log2 + 2) := by
      have := Nat.lt_log2_self (n := n)
      rw [show n.log2 + 2 = n.log2 + 1 + 1 from rfl, Nat.pow_succ]; omega
    have h2 : 2 * n < 2 ^ d := Nat.lt_of_lt_of_le h1 (Nat.pow_le_pow_right (by omega) h)
    show cg n (2 ^ (n.log2 + 2)) = cg n (2 ^ d)
    rw [cg_small h1, cg_small h2]
theorem cut_zero_n (d : Nat) : cut 0 d = 0 := cg_small (by have := Nat.two_pow_pos d; omega)
theorem cut_zero (n : Nat) : cut n 0 = n := by
  unfold cut; rw [cg_of (q := n) (r := 0) (by simp) (by simp)]; simp
theorem cg_scale {n g k : Nat} (hg : 0 < g) (hk : 0 < k) : cg (n * k) (g * k) = cg n g := by
  obtain ⟨q, r, e, hr, e1, e2⟩ := cg_split (n := n) hg
  rw [cg_of e hr, cg_of (q := q) (r := r * k) (by rw [e, Nat.add_mul, Nat.mul_assoc]) (Nat.mul_lt_mul_of_pos_right hr hk)]
  congr 1
  have a1 : (g * k < 2 * (r * k)) ↔ (g < 2 * r) := by
    rw [← Nat.mul_assoc]
    exact ⟨fun h => Nat.lt_of_mul_lt_mul_right h, fun h => Nat.mul_lt_mul_of_pos_right h hk⟩
  have a2 : (g * k = 2 * (r * k)) ↔ (g = 2 * r) := by
    rw [← Nat.mul_assoc]
    exact ⟨fun h => Nat.eq_of_mul_eq_mul_right hk h, fun h => by rw [h]⟩
  simp only [a1, a2]
theorem cut_scale (n d k : Nat) : cut (n * 2 ^ k) (d + k) = cut n d := by
  unfold cut; rw [Nat.pow_add]; exact cg_scale (Nat.two_pow_pos _) (Nat.two_pow_pos _)
theorem cut_mul (n d : Nat) : cut (n * 2 ^ d) d = n := by
  have := cut_scale n 0 d
  rw [Nat.zero_add] at this
  rw [this, cut_zero]
theorem cg_mono {n m g : Nat} (hg : 0 < g) (h : n ≤ m) : cg n g ≤ cg m g := by
  obtain ⟨q, r, e, hr, _, _⟩ := cg_split (n := n) hg
  obtain ⟨q', r', e', hr', _, _⟩ := cg_split (n := m) hg
  rw [cg_of e hr, cg_of e' hr']
  have hq : q ≤ q' := by
    rcases Nat.lt_or_ge q' q with k | k
    · have : (q' + 1) * g ≤ q * g := Nat.mul_le_mul_right _ k
      rw [Nat.add_mul, Nat.one_mul] at this
      omega
    · exact k
  rcases Nat.eq_or_lt_of_le hq with k | k
  · subst k
    have : r ≤ r' := by omega
    by_cases c : g < 2 * r ∨ (g = 2 * r ∧ q % 2 = 1)
    · rw [if_pos c, if_pos (by omega)]; exact Nat.le_refl _
    · rw [if_neg c]; exact Nat.le_add_right _ _
  · have : (if g < 2 * r ∨ (g = 2 * r ∧ q % 2 = 1) then 1 else 0) ≤ 1 := by split <;> omega
    omega
theorem cut_mono {n m : Nat} (d : Nat) (h : n ≤ m) : cut n d ≤ cut m d := cg_mono (Nat.two_pow_pos _) h
/-- off by at most a half -/
theorem cut_half (n d : Nat) : 2 * (cut n d * 2 ^ d) ≤ 2 * n + 2 ^ d ∧ 2 * n ≤ 2 * (cut n d * 2 ^ d) + 2 ^ d := by
  unfold cut
  have hg := Nat.two_pow_pos d
  generalize 2 ^ d = g at *
  obtain ⟨q, r, e, hr, _, _⟩ := cg_split (n := n) hg
  rw [cg_of e hr]
  by_cases c : g < 2 * r ∨ (g = 2 * r ∧ q % 2 = 1)
  · rw [if_pos c, Nat.add_mul, Nat.one_mul]; omega
  · rw [if_neg c, Nat.add_zero]; omega
/-- the rung nearest to v, where the units are 2^D times as fine as the smallest float -/
def rn (F D v : Nat) : Nat := (v.log2 - F - D) * 2 ^ F + cut v (v.log2 - F - D + D)
theorem rn_zero (F D : Nat) : rn F D 0 = 0 := by
  unfold rn; rw [cut_zero_n]; simp
/-- a rung's value, in units of the smallest -/
def V (F r : Nat) : Nat := if r < 2 ^ F then r else (2 ^ F + r % 2 ^ F) * 2 ^ (r / 2 ^ F - 1)
theorem V_low {F r : Nat} (h : r < 2 ^ F) : V F r = r := if_pos h
theorem V_mk (F L c : Nat) (h1 : 2 ^ F ≤ c) (h2 : c ≤ 2 ^ (F + 1)) : V F (L * 2 ^ F + c) = c * 2 ^ L := by
  unfold V
  rw [Nat.pow_succ] at h2
  have hp := Nat.two_pow_pos F
  generalize 2 ^ F = B at *
  rw [if_neg (by have := Nat.zero_le (L * B); omega)]
  by_cases h : c = B * 2
  · subst h
    have e : L * B + B * 2 = (L + 2) * B + 0 := by rw [Nat.add_mul]; omega
    have e1 : (L * B + B * 2) / B = L + 2 := by rw [e, Nat.add_zero, Nat.mul_div_cancel _ hp]
    have e2 : (L * B + B * 2) % B = 0 := by rw [e, Nat.add_zero, Nat.mul_mod_left]
    rw [e1, e2, show L + 2 - 1 = L + 1 by omega, Nat.pow_succ, Nat.add_zero, Nat.mul_assoc, Nat.mul_comm 2]
  · obtain ⟨d, rfl⟩ : ∃ d, c = B + d := ⟨c - B, by omega⟩
    have e : L * B + (B + d) = (L + 1) * B + d := by rw [Nat.add_mul]; omega
    have e1 : (L * B + (B + d)) / B = L + 1 := by rw [e, Nat.mul_comm, Nat.mul_add_div hp, Nat.div_eq_of_lt (by omega)]
    have e2 : (L * B + (B + d)) % B = d := by rw [e, Nat.mul_comm, Nat.mul_add_mod, Nat.mod_eq_of_lt (by omega)]
    rw [e1, e2]
    rfl
theorem V_lowest {F c : Nat} (h : c ≤ 2 ^ (F + 1)) : V F c = c := by
  by_cases k : c < 2 ^ F
  · exact V_low k
  · have := V_mk F 0 c (by omega) h
    simpa using this
/-- every rung is low or a mantissa on a step -/
theorem parts (F r : Nat) : r < 2 ^ F ∨ ∃ L c, r = L * 2 ^ F + c ∧ 2 ^ F ≤ c ∧ c < 2 ^ (F + 1) := by
  by_cases h : r < 2 ^ F
  · exact .inl h
  · right
    have hp := Nat.two_pow_pos F
    rw [Nat.pow_succ]
    generalize 2 ^ F = B at *
    have hm := Nat.mod_lt r hp
    have hd := Nat.div_add_mod r B
    have h1 : 1 ≤ r / B := (Nat.le_div_iff_mul_le hp).2 (by omega)
    obtain ⟨q, hq⟩ : ∃ q, r / B = q + 1 := ⟨r / B - 1, by omega⟩
    rw [hq, Nat.mul_add, Nat.mul_one, Nat.mul_comm] at hd
    exact ⟨q, B + r % B, by omega, by omega, by omega⟩
theorem rn_V (F D r : Nat) : rn F D (V F r * 2 ^ D) = r := by
  rcases parts F r with h | ⟨L, c, rfl, h1, h2⟩
  · rw [V_low h]
    rcases Nat.eq_zero_or_pos r with e | e
    · subst e; rw [Nat.zero_mul, rn_zero]
    · unfold rn
      have hl : r.log2 < F := (Nat.log2_lt (by omega)).2 h
      rw [log2_mul D (by omega), show r.log2 + D - F - D = 0 by omega, Nat.zero_add, cut_mul, Nat.zero_mul, Nat.zero_add]
  · rw [V_mk F L c h1 (by omega)]
    have hp := Nat.two_pow_pos F
    have hl : c.log2 = F := log2_eq h1 h2
    unfold rn
    rw [Nat.mul_assoc, ← Nat.pow_add, log2_mul _ (by omega), hl, show F + (L + D) - F - D = L by omega, cut_mul]
/-- where the mantissa lies -/
theorem cut_bounds {F D v t : Nat} (ht : t = v.log2 - F - D) : cut v (t + D) ≤ 2 ^ (F + 1) ∧ (0 < t → 2 ^ F ≤ cut v (t + D)) := by
  constructor
  · have h1 : v ≤ 2 ^ (F + 1) * 2 ^ (t + D) := by
      rw [← Nat.pow_add]
      have := Nat.lt_log2_self (n := v)
      exact Nat.le_trans (Nat.le_of_lt this) (Nat.pow_le_pow_right (by omega) (by omega))
    have := cut_mono (t + D) h1
    rwa [cut_mul] at this
  · intro h0
    have hv : v ≠ 0 := by intro e; subst e; simp at ht; omega
    have h1 : 2 ^ F * 2 ^ (t + D) ≤ v := by
      rw [← Nat.pow_add]
      exact Nat.le_trans (Nat.pow_le_pow_right (by omega) (by omega)) (Nat.log2_self_le hv)
    have := cut_mono (t + D) h1
    rwa [cut_mul] at this
theorem V_rn (F D v : Nat) : V F (rn F D v) * 2 ^ D = cut v (v.log2 - F - D + D) * 2 ^ (v.log2 - F - D + D) := by
  unfold rn
  obtain ⟨t, ht⟩ : ∃ t, t = v.log2 - F - D := ⟨_, rfl⟩
  rw [← ht]
  obtain ⟨h1, h2⟩ := cut_bounds ht
  rcases Nat.eq_zero_or_pos t with e | e
  · subst e; rw [Nat.zero_mul, Nat.zero_add, Nat.zero_add] at *; rw [V_lowest h1]
  · rw [V_mk F t _ (h2 e) h1, Nat.mul_assoc, ← Nat.pow_add]
theorem rn_mono (F D : Nat) {v w : Nat} (h : v ≤ w) : rn F D v ≤ rn F D w := by
  unfold rn
  obtain ⟨t, ht⟩ : ∃ t, t = v.log2 - F - D := ⟨_, rfl⟩
  obtain ⟨u, hu⟩ : ∃ u, u = w.log2 - F - D := ⟨_, rfl⟩
  rw [← ht, ← hu]
  have hl := log2_mono h
  have htu : t ≤ u := by omega
  rcases Nat.eq_or_lt_of_le htu with e | e
  · rw [← e]; have := cut_mono (t + D) h; omega
  · have a := (cut_bounds ht).1
    have b := (cut_bounds hu).2 (by omega)
    have : (t + 1) * 2 ^ F ≤ u * 2 ^ F := Nat.mul_le_mul_right _ e
    rw [Nat.pow_succ] at a
    rw [Nat.add_mul] at this
    omega
theorem V_mono (F : Nat) {r s : Nat} (h : r < s) : V F r < V F s := by
  rcases Nat.lt_or_ge (V F r) (V F s) with k | k
  · exact k
  · have := rn_mono F 0 (v := V F s * 2 ^ 0) (w := V F r * 2 ^ 0) (by simpa using k)
    rw [rn_V, rn_V] at this
    omega
theorem V_le (F : Nat) {r s : Nat} (h : r ≤ s) : V F r ≤ V F s := by
  rcases Nat.eq_or_lt_of_le h with rfl | h
  · exact Nat.le_refl _
  · exact Nat.le_of_lt (V_mono F h)
theorem V_inj (F : Nat) {r s : Nat} (h : V F r = V F s) : r = s := by
  rcases Nat.lt_trichotomy r s with k | k | k
  · have := V_mono F k; omega
  · exact k
  · have := V_mono F k; omega
/-- no rung is nearer: where v lies above or below -/
theorem rn_near (F D v r : Nat) : (V F (rn F D v) * 2 ^ D - v) + (v - V F (rn F D v) * 2 ^ D) ≤ (V F r * 2 ^ D - v) + (v - V F r * 2 ^ D) := by
  rw [V_rn]
  obtain ⟨t, ht⟩ : ∃ t, t = v.log2 - F - D := ⟨_, rfl⟩
  rw [← ht]
  obtain ⟨c1, c2⟩ := cut_half v (t + D)
  -- against a multiple
  have mul : ∀ k : Nat, (cut v (t + D) * 2 ^ (t + D) - v) + (v - cut v (t + D) * 2 ^ (t + D)) ≤ (k * 2 ^ (t + D) - v) + (v - k * 2 ^ (t + D)) := by
    intro k
    generalize cut v (t + D) = c at *
    generalize 2 ^ (t + D) = g at *
    rcases Nat.lt_trichotomy k c with q | q | q
    · have := Nat.mul_le_mul_right g q
      rw [Nat.succ_mul] at this
      omega
    · subst q; exact Nat.le_refl _
    · have := Nat.mul_le_mul_right g q
      rw [Nat.succ_mul] at this
      omega
  by_cases hz : V F r * 2 ^ D < 2 ^ F * 2 ^ (t + D) ∧ 0 < t
  · have hv : v ≠ 0 := by intro e; subst e; simp at ht; omega
    have h1 : 2 ^ F * 2 ^ (t + D) ≤ v := by
      rw [← Nat.pow_add]
      exact Nat.le_trans (Nat.pow_le_pow_right (by omega) (by omega)) (Nat.log2_self_le hv)
    have := mul (2 ^ F)
    omega
  · -- a multiple
    have : ∃ k, V F r * 2 ^ D = k * 2 ^ (t + D) := by
      rcases Nat.eq_zero_or_pos t with e | e
      · subst e; exact ⟨V F r, by rw [Nat.zero_add]⟩
      · have hz' : 2 ^ F * 2 ^ (t + D) ≤ V F r * 2 ^ D := by omega
        rcases parts F r with h | ⟨L, c, rfl, h1, h2⟩
        · rw [V_low h] at hz'
          have h3 : r * 2 ^ D < 2 ^ F * 2 ^ D := Nat.mul_lt_mul_of_pos_right h (Nat.two_pow_pos _)
          have h4 : 2 ^ F * 2 ^ D ≤ 2 ^ F * 2 ^ (t + D) := Nat.mul_le_mul_left _ (Nat.pow_le_pow_right (by omega) (by omega))
          omega
        · rw [V_mk F L c h1 (by omega)] at hz' ⊢
          rcases Nat.lt_or_ge L t with q | q
          · exfalso
            have h3 : c * 2 ^ L * 2 ^ D < 2 ^ (F + 1) * 2 ^ L * 2 ^ D := Nat.mul_lt_mul_of_pos_right (Nat.mul_lt_mul_of_pos_right h2 (Nat.two_pow_pos _)) (Nat.two_pow_pos _)
            rw [← Nat.pow_add, ← Nat.pow_add] at h3
            rw [← Nat.pow_add] at hz'
            have : 2 ^ (F + 1 + L + D) ≤ 2 ^ (F + (t + D)) := Nat.pow_le_pow_right (by omega) (by omega)
            omega
          · refine ⟨c * 2 ^ (L - t), ?_⟩
            rw [Nat.mul_assoc, Nat.mul_assoc, ← Nat.pow_add, ← Nat.pow_add, show L - t + (t + D) = L + D by omega]
    obtain ⟨k, hk⟩ := this
    rw [hk]
    exact mul k
/-- the nearest word, by the units at hand -/
theorem nearest_rn (f : Ieee.Format) (s : Bool) (m : Nat) (p0 : Int) (D : Nat) (hD : f.leastPlace = p0 + D) : f.nearest s m p0 = f.word s (min (rn f.fractionBits D m) f.infRung) := by
  unfold Ieee.Format.nearest
  by_cases h0 : m = 0
  · subst h0; rw [if_pos rfl, rn_zero, Nat.zero_min]
  · rw [if_neg h0]
    simp only
    obtain ⟨t, ht⟩ : ∃ t, t = m.log2 - f.fractionBits - D := ⟨_, rfl⟩
    have hm : max (p0 + (m.log2 : Int) - (f.fractionBits : Int)) f.leastPlace = p0 + ((t + D : Nat) : Int) := by rw [hD]; omega
    rw [hm, cut_def, hD, show (p0 - (p0 + ((t + D : Nat) : Int))).toNat = 0 by omega, show (p0 + ((t + D : Nat) : Int) - p0).toNat = t + D by omega, show (p0 + ((t + D : Nat) : Int) - (p0 + (D : Int))).toNat = t by omega, Nat.shiftLeft_zero]
    unfold rn
    rw [← ht]
    rfl
theorem nearest_shift (f : Ieee.Format) (s : Bool) (m k : Nat) (p : Int) : f.nearest s (m * 2 ^ k) p = f.nearest s m (p + k) := by
  -- both in units of the lower of all places
  by_cases h0 : m = 0
  · subst h0
    rw [Nat.zero_mul]
    unfold Ieee.Format.nearest
    rw [if_pos rfl, if_pos rfl]
  · unfold Ieee.Format.nearest
    rw [if_neg h0, if_neg (by have := Nat.mul_pos (Nat.pos_of_ne_zero h0) (Nat.two_pow_pos k); omega)]
    simp only
    rw [log2_mul k h0, show p + ((m.log2 + k : Nat) : Int) = p + (k : Int) + (m.log2 : Int) by omega]
    generalize max (p + (k : Int) + (m.log2 : Int) - (f.fractionBits : Int)) f.leastPlace = last
    have : Ieee.Toward.even.cut s ((m * 2 ^ k) <<< (p - last).toNat) (last - p).toNat = Ieee.Toward.even.cut s (m <<< (p + (k : Int) - last).toNat) (last - (p + (k : Int))).toNat := by
      rw [cut_def, cut_def, Nat.shiftLeft_eq, Nat.shiftLeft_eq]
      rcases Int.le_total last p with a | a
      · rw [show (last - p).toNat = 0 by omega, show (last - (p + (k : Int))).toNat = 0 by omega, cut_zero, cut_zero, Nat.mul_assoc, ← Nat.pow_add, show k + (p - last).toNat = (p + (k : Int) - last).toNat by omega]
      · rw [show (p - last).toNat = 0 by omega, Nat.pow_zero, Nat.mul_one]
        rcases Int.le_total last (p + k) with b | b
        · rw [show (last - (p + (k : Int))).toNat = 0 by omega, cut_zero]
          have : k = (p + (k : Int) - last).toNat + (last - p).toNat := by omega
          rw [show 2 ^ k = 2 ^ (p + (k : Int) - last).toNat * 2 ^ (last - p).toNat by rw [← Nat.pow_add, ← this], ← Nat.mul_assoc, cut_mul]
        · rw [show (p + (k : Int) - last).toNat = 0 by omega, Nat.pow_zero, Nat.mul_one, show (last - p).toNat = (last - (p + (k : Int))).toNat + k by omega, cut_scale]
    rw [this]
/-- a number in finer units -/
theorem nearest_units (f : Ieee.Format) (s : Bool) (m k : Nat) (p p0 : Int) (D : Nat) (hp : p = p0 + k) (hD : f.leastPlace = p0 + D) : f.nearest s m p = f.word s (min (rn f.fractionBits D (m * 2 ^ k)) f.infRung) := by
  rw [hp, ← nearest_shift, nearest_rn f s _ p0 D hD]
theorem read_word (f : Ieee.Format) (s : Bool) {r : Nat} (h : r < f.infRung) : ∃ m e : Nat, f.read (f.word s r) = .number s m (f.leastPlace + (e : Int)) ∧ m * 2 ^ e = V f.fractionBits r ∧ m < 2 ^ (f.fractionBits + 1) := by
  have hlt := f.infRung_lt
  have e1 : (f.word s r) / f.signWeight % 2 = s.toNat := by
    cases s
    · show r / f.signWeight % 2 = 0
      rw [Nat.div_eq_of_lt (by omega)]
    · show (f.signWeight + r) / f.signWeight % 2 = 1
      rw [Nat.add_div_left _ (by omega), Nat.div_eq_of_lt (by omega)]
  have e2 : (f.word s r) % f.signWeight = r := by
    cases s
    · show r % f.signWeight = r
      exact Nat.mod_eq_of_lt (by omega)
    · show (f.signWeight + r) % f.signWeight = r
      rw [Nat.add_mod_left, Nat.mod_eq_of_lt (by omega)]
  unfold Ieee.Format.read
  simp only [e1, e2]
  have e3 : (s.toNat == 1) = s := by cases s <;> rfl
  rw [e3]
  have hb : f.binade = 2 ^ f.fractionBits := rfl
  by_cases k : r < f.binade
  · rw [if_pos k]
    refine ⟨r, 0, by simp, by rw [V_low (by rw [← hb]; exact k)]; simp, ?_⟩
    rw [Nat.pow_succ]; omega
  · rw [if_neg k, if_pos h]
    refine ⟨f.binade + r % f.binade, r / f.binade - 1, rfl, ?_, ?_⟩
    · unfold V; rw [if_neg (by rw [← hb]; exact k)]; rfl
    · rw [Nat.pow_succ]
      have := Nat.mod_lt r (show 0 < f.binade from Nat.two_pow_pos _)
      omega
end Fl
end Go.Proofs.Ytfkoacjfihaajaa
