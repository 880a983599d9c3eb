import Derived.Test.YtclmnkilfijeaaaDoorFpE
set_option linter.unusedVariables false
set_option linter.unusedSimpArgs false
namespace Go.Proofs.YtclmnkilfijeaaaDoor
namespace Fp
/-- a number's last k digits -/
def dg : Nat → Nat → List UInt8
  | 0, _ => []
  | k + 1, n => dg k (n / 10) ++ [UInt8.ofNat (48 + n % 10)]
theorem dg_length : ∀ k n, (dg k n).length = k
  | 0, _ => rfl
  | k + 1, n => by rw [dg, List.length_append, dg_length k]; rfl
theorem dg_zero : ∀ k, dg k 0 = List.replicate k 48
  | 0 => rfl
  | k + 1 => by rw [dg, dg_zero k, List.replicate_succ']; rfl
theorem dg_pad (j : Nat) : ∀ k n, n < 10 ^ k → dg (j + k) n = List.replicate j 48 ++ dg k n
  | 0, n, h => by
    have : n = 0 := by simpa using h
    subst this
    rw [Nat.add_zero, dg_zero, dg, List.append_nil]
  | k + 1, n, h => by
    rw [← Nat.add_assoc, dg, dg, dg_pad j k (n / 10) (by rw [Nat.div_lt_iff_lt_mul (by omega)]; rw [Nat.pow_succ] at h; exact h), List.append_assoc]
theorem dg_strip (k : Nat) : ∀ t n, dg (k + t) (n * 10 ^ t) = dg k n ++ List.replicate t 48
  | 0, n => by simp
  | t + 1, n => by
    rw [← Nat.add_assoc, dg, Nat.pow_succ, ← Nat.mul_assoc, Nat.mul_div_cancel _ (by omega), Nat.mul_mod_left, dg_strip k t n, List.append_assoc, List.replicate_succ']
    rfl
/-- without noughts at the end -/
def st : Nat → Nat → Nat × Nat
  | 0, n => (0, n)
  | k + 1, n => if n % 10 = 0 then st k (n / 10) else (k + 1, n)
theorem st_is : ∀ k n, ∃ t, t ≤ k ∧ st k n = (k - t, n / 10 ^ t) ∧ n = n / 10 ^ t * 10 ^ t ∧ (k - t = 0 ∨ n / 10 ^ t % 10 ≠ 0)
  | 0, n => ⟨0, Nat.le_refl _, by simp [st], by simp, Or.inl rfl⟩
  | k + 1, n => by
    by_cases h : n % 10 = 0
    · obtain ⟨t, h1, h2, h3, h4⟩ := st_is k (n / 10)
      refine ⟨t + 1, by omega, ?_, ?_, ?_⟩
      · rw [st, if_pos h, h2, Nat.pow_succ', ← Nat.div_div_eq_div_mul]
        congr 1; omega
      · rw [Nat.pow_succ', ← Nat.div_div_eq_div_mul, Nat.mul_left_comm, ← h3]
        omega
      · rw [Nat.pow_succ', ← Nat.div_div_eq_div_mul]
        rcases h4 with h4 | h4
        · left; omega
        · right; exact h4
    · refine ⟨0, by omega, ?_, by simp, Or.inr (by simpa using h)⟩
      rw [st, if_neg h]; simp
/-- stripped digits, one by one -/
theorem st_digit (k n : Nat) : st (k + 1) n = if (dg (k + 1) n)[k]? = some 48 then st k (n / 10) else (k + 1, n) := by
  have hg : (dg (k + 1) n)[k]? = some (UInt8.ofNat (48 + n % 10)) := by
    rw [dg, List.getElem?_append_right (by rw [dg_length]; exact Nat.le_refl _), dg_length, Nat.sub_self]; rfl
  rw [hg, st]
  by_cases h : n % 10 = 0
  · rw [if_pos h, if_pos (by rw [h]; rfl)]
  · rw [if_neg h, if_neg]
    intro e
    have e := Option.some.inj e
    have e2 := congrArg UInt8.toNat e
    rw [UInt8.toNat_ofNat_of_lt' (by have := Nat.mod_lt n (show 10 > 0 by omega); have : UInt8.size = 256 := rfl; omega)] at e2
    have : (48 : UInt8).toNat = 48 := rfl
    omega
/-- two numbers of one value, neither with a nought at its end, are one -/
theorem strip_one {n m k j p : Nat} (hk : k ≤ p) (hj : j ≤ p) (hn : n % 10 ≠ 0) (hm : m % 10 ≠ 0) (h : n * 10 ^ (p - k) = m * 10 ^ (p - j)) : n = m ∧ k = j := by
  have key : ∀ n m k j, k ≤ p → j ≤ p → n % 10 ≠ 0 → m % 10 ≠ 0 → n * 10 ^ (p - k) = m * 10 ^ (p - j) → ¬ k < j := by
    intro n m k j hk hj hn hm h hl
    have e : 10 ^ (p - k) = 10 ^ (j - k) * 10 ^ (p - j) := by rw [← Nat.pow_add]; congr 1; omega
    rw [e, ← Nat.mul_assoc] at h
    have h2 := Nat.eq_of_mul_eq_mul_right (Nat.pow_pos (by omega)) h
    apply hm
    rw [← h2, show j - k = j - k - 1 + 1 by omega, Nat.pow_succ, ← Nat.mul_assoc, Nat.mul_mod_left]
  have a := key n m k j hk hj hn hm h
  have b := key m n j k hj hk hm hn h.symm
  have e : k = j := by omega
  subst e
  exact ⟨Nat.eq_of_mul_eq_mul_right (Nat.pow_pos (by omega)) h, rfl⟩
/-- n over 10^k, without a nought at the end, means the float r -/
def Means (r k n : Nat) : Prop := 1 ≤ k ∧ k ≤ 9 ∧ 0 < n ∧ n < 10 ^ k ∧ n % 10 ≠ 0 ∧ Near r n (10 ^ k)
def one : Nat := 4607182418800017408
theorem pow_join {a b c : Nat} (h : a + b = c) : 2 ^ a * 2 ^ b = 2 ^ c := by rw [← Nat.pow_add, h]
theorem V_mk2 (L r e : Nat) (hr : r = L * 4503599627370496 + 4503599627370496) (he : 52 + L = e) : V r = 2 ^ e := by
  rw [hr, V_mk L 4503599627370496 (by omega) (by omega), show (4503599627370496 : Nat) = 2 ^ 52 from rfl, pow_join he]
theorem unit_two {e : Nat} (h : 1 + e = 1075) : unit = 2 * 2 ^ e := by
  rw [unit_split h, Nat.pow_one]
theorem V_one {e : Nat} (he : e = 1074) : V one = 2 ^ e := V_mk2 1022 one e rfl (by omega)
/-- below one there is no more than one -/
theorem near_below {r n q : Nat} (hr : r < one) (hq : 0 < q) (h : Near r n q) : n < q := by
  have h1 := h.2.1
  have a1 : V r < V one := V_mono hr
  have a2 : V (r + 1) ≤ V one := V_le (by omega)
  obtain ⟨e, he⟩ : ∃ e, e = 1074 := ⟨_, rfl⟩
  rw [V_one he] at a1 a2
  have hu : unit = 2 * 2 ^ e := unit_two (by omega)
  rcases Nat.lt_or_ge n q with k | k
  · exact k
  · exfalso
    have b1 : q * unit ≤ n * unit := Nat.mul_le_mul_right _ k
    have b2 : (V r + V (r + 1)) * q < unit * q := Nat.mul_lt_mul_of_pos_right (by rw [hu]; generalize 2 ^ e = z at *; omega) hq
    rw [Nat.mul_comm unit q] at b2
    omega
theorem near_pos {r n q : Nat} (hr : 0 < r) (hq : 0 < q) (h : Near r n q) : 0 < n := by
  rcases Nat.eq_zero_or_pos n with e | e
  · subst e
    have := h.1
    have a := V_mono (show 0 < r from hr)
    have b := Nat.mul_pos (show 0 < V (r - 1) + V r by omega) hq
    omega
  · exact e
/-- far below nothing is meant -/
theorem small_none {r n k : Nat} (hr : r < 988 * 4503599627370496 + 4503599627370496) (h0 : 0 < r) (hk : k ≤ 9) : ¬ Near r n (10 ^ k) := by
  intro h
  have hq : 10 ^ k ≤ 10 ^ 9 := Nat.pow_le_pow_right (by omega) hk
  have hn := near_pos h0 (Nat.pow_pos (by omega)) h
  have h1 := h.2.1
  have a1 : V r ≤ V (988 * 4503599627370496 + 4503599627370496) := V_le (by omega)
  have a2 : V (r + 1) ≤ V (988 * 4503599627370496 + 4503599627370496) := V_le (by omega)
  obtain ⟨e, he⟩ : ∃ e, e = 1040 := ⟨_, rfl⟩
  rw [V_mk2 988 _ e rfl (by omega)] at a1 a2
  have b1 : unit ≤ n * unit := Nat.le_mul_of_pos_left _ hn
  have b2 : (V r + V (r + 1)) * 10 ^ k ≤ (2 * 2 ^ e) * 10 ^ 9 := Nat.mul_le_mul (by omega) hq
  have b3 : (2 * 2 ^ e) * 10 ^ 9 < unit := by
    have e1 : unit = 2 ^ 35 * 2 ^ e := unit_split (by omega)
    have hp : 0 < 2 ^ e := Nat.two_pow_pos _
    rw [e1]
    generalize 2 ^ e = z at *
    omega
  omega
/-- a pick of r that is stripped: what is told, and that nothing else could be -/
theorem Good.means {r o Nmin Nmax Nm G p : Nat} (g : Good r o Nmin Nmax Nm G p) (h0 : 0 < r) (h1 : r < one) (hp : 16 ≤ p) {n t k : Nat}
    (hd : (pickD o Nmin Nmax Nm G p).1 = n * 10 ^ t) (hk : (pickD o Nmin Nmax Nm G p).2 = k + t) (hn : n % 10 ≠ 0) :
    (k ≤ 9 → Means r k n) ∧ (∀ j m, Means r j m → j = k ∧ m = n) := by
  have hs := g.sound
  rw [hd, hk] at hs
  have e : 10 ^ (k + t) = 10 ^ k * 10 ^ t := Nat.pow_add _ _ _
  rw [e, near_scale (Nat.pow_pos (by omega))] at hs
  refine ⟨fun h => ⟨?_, h, near_pos h0 (Nat.pow_pos (by omega)) hs, near_below h1 (Nat.pow_pos (by omega)) hs, hn, hs⟩, ?_⟩
  · have a := near_below h1 (Nat.pow_pos (by omega)) hs
    have b := near_pos h0 (Nat.pow_pos (by omega)) hs
    rcases Nat.eq_zero_or_pos k with z | z
    · subst z; simp at a; omega
    · exact z
  · rintro j m ⟨m1, m2, m3, m4, m5, m6⟩
    have hc := g.complete (show j < p by omega) m6
    rw [hc] at hd hk
    simp only at hd hk
    have hkt : k ≤ p - 1 := by omega
    have := strip_one (p := p - 1) (n := m) (m := n) (k := j) (j := k) (by omega) hkt m5 hn (by rw [hd]; congr 2; omega)
    exact ⟨this.2, this.1⟩
end Fp
end Go.Proofs.YtclmnkilfijeaaaDoor
