import Derived.Test.YtjmkofdnlhfaiaaFpB
set_option linter.unusedVariables false
set_option linter.unusedSimpArgs false
namespace Go.Proofs.Ytjmkofdnlhfaiaa
namespace Fp
theorem log52 {A : Nat} (h1 : 4503599627370496 ≤ A) (h2 : A < 9007199254740992) : A.log2 = 52 := log2_eq (by simpa using h1) (by simpa using h2)
/-- the nearest float of a number that is long enough and not too small, as a rung -/
theorem nearest_rung {m t : Nat} {place : Int} (hm : m.log2 = t + 52) (h0 : m ≠ 0) (h1 : -1074 ≤ place + t) (h2 : place + t ≤ 0) (c : Nat) (hc : c = Ieee.Toward.even.cut false m t) (hcb : c ≤ 9007199254740992) :
    Ieee.double.nearest false m place = (place + t + 1074).toNat * 4503599627370496 + c := by
  unfold Ieee.Format.nearest
  have hl' : Ieee.double.leastPlace = -1074 := by decide
  have hfb : (Ieee.double.fractionBits : Int) = 52 := rfl
  have hb : Ieee.double.binade = 4503599627370496 := by decide
  have hin : Ieee.double.infRung = 9218868437227405312 := by decide
  simp only [hl', hfb, hb, hin, hm]
  rw [if_neg h0]
  have hmx : max (place + ((t + 52 : Nat) : Int) - 52) (-1074) = place + t := by omega
  rw [hmx]
  have e1 : (place - (place + t)).toNat = 0 := by omega
  have e2 : (place + t - place).toNat = t := by omega
  have e3 : (place + t - -1074).toNat = (place + t + 1074).toNat := by omega
  rw [e1, e2, e3, Nat.shiftLeft_zero, ← hc]
  simp only [Ieee.Format.word, Bool.false_eq_true, if_false]
  exact Nat.min_eq_left (by omega)
theorem odd_rung (L c : Nat) : (L * 4503599627370496 + c) % 2 = c % 2 := by omega
/-- a quotient of whole numbers is the float that is nearest -/
theorem div_near {n q : Nat} (h0 : 0 < n) (hn : n < 9007199254740992) (hq0 : 0 < q) (hq : q < 9007199254740992) :
    ∃ r, Ieee.double.div (FloatKind.f64.nearest (n : Int)) (FloatKind.f64.nearest (q : Int)) = some r ∧ Near r n q := by
  obtain ⟨a, ha, a1, a2, _, ra⟩ := read_nat h0 hn
  obtain ⟨b, hb, b1, b2, _, rb⟩ := read_nat hq0 hq
  unfold Ieee.Format.div
  rw [ra, rb]
  unfold Ieee.Datum.quotient
  have hfb : Ieee.double.fractionBits = 52 := rfl
  simp only [hfb, log52 a1 a2, log52 b1 b2]
  rw [if_neg (by omega)]
  simp only [Option.map_some]
  obtain ⟨A, hA⟩ : ∃ A, n * 2 ^ a = A := ⟨_, rfl⟩
  obtain ⟨B, hB⟩ : ∃ B, q * 2 ^ b = B := ⟨_, rfl⟩
  rw [hA] at a1 a2
  rw [hB] at b1 b2
  rw [hA, hB]
  have hsh : A <<< (52 + 2 + 52 - 52) = A * 18014398509481984 := by rw [Nat.shiftLeft_eq]
  rw [hsh]
  obtain ⟨Q, hQ⟩ : ∃ Q, A * 18014398509481984 / B = Q := ⟨_, rfl⟩
  obtain ⟨R, hR⟩ : ∃ R, A * 18014398509481984 % B = R := ⟨_, rfl⟩
  have hBp : 0 < B := by omega
  have hD : A * 18014398509481984 = Q * B + R := by
    rw [← hQ, ← hR, Nat.mul_comm (A * 18014398509481984 / B) B]; exact (Nat.div_add_mod _ _).symm
  have hRl : R < B := by rw [← hR]; exact Nat.mod_lt _ hBp
  have hQl : 9007199254740992 ≤ Q := by
    rw [← hQ, Nat.le_div_iff_mul_le hBp]; omega
  have hQh : Q < 36028797018963968 := by
    rw [← hQ, Nat.div_lt_iff_lt_mul hBp]; omega
  rw [hQ, hR]
  obtain ⟨st, hst⟩ : ∃ st, (R != 0).toNat = st := ⟨_, rfl⟩
  have hst' : st = if R = 0 then 0 else 1 := by
    rw [← hst]; by_cases q : R = 0 <;> simp [q]
  have hs1 : st ≤ 1 := by rw [hst']; split <;> omega
  rw [hst]
  obtain ⟨t, ht, hlog⟩ : ∃ t, (t = 2 ∨ t = 3) ∧ (2 * Q + st).log2 = t + 52 := by
    by_cases q : 2 * Q + st < 36028797018963968
    · exact ⟨2, .inl rfl, log2_eq (by simp; omega) (by simpa using q)⟩
    · exact ⟨3, .inr rfl, log2_eq (by simp; omega) (by simp; omega)⟩
  have hcut := cut_even (2 * Q + st) t (by omega)
  obtain ⟨c, hc⟩ : ∃ c, c = Ieee.Toward.even.cut false (2 * Q + st) t := ⟨_, rfl⟩
  have hc' := hc
  rw [hcut] at hc'
  have hlo := Nat.log2_self_le (show 2 * Q + st ≠ 0 by omega)
  have hhi := Nat.lt_log2_self (n := 2 * Q + st)
  rw [hlog] at hlo hhi
  have cb : 4503599627370496 ≤ c ∧ c ≤ 9007199254740992 := by
    rcases ht with rfl | rfl
    · simp only [Nat.reduceAdd, Nat.reducePow] at hc' hlo hhi
      split at hc' <;> omega
    · simp only [Nat.reduceAdd, Nat.reducePow] at hc' hlo hhi
      split at hc' <;> omega
  have hrb := round_bounds hBp hD hRl hst' ht hc' (by omega)
  have hL : 0 ≤ -(a : Int) - -(b : Int) - 54 - 1 + t + 1074 := by omega
  have hp54 : ((52 + 2 + 52 - 52 : Nat) : Int) = 54 := by omega
  obtain ⟨L, hLd⟩ : ∃ L : Nat, L = (-(a : Int) - -(b : Int) - 54 - 1 + t + 1074).toNat := ⟨_, rfl⟩
  refine ⟨L * 4503599627370496 + c, ?_, ?_⟩
  · have := nearest_rung (m := 2 * Q + st) (t := t) (place := -(a : Int) - -(b : Int) - 54 - 1) hlog (by omega) (by omega) (by omega) c hc cb.2
    rw [hLd, ← this]
    rfl
  · -- both sides are held against each other times 2^b
    have hpow : n * unit * 2 ^ b = A * 18014398509481984 * 2 ^ (L + 2 - t) := by
      have e1 : unit * 2 ^ b = 2 ^ (a + 54 + (L + 2 - t)) := by
        have hx : 1075 + b = a + 54 + (L + 2 - t) := by omega
        rw [← hx, Nat.pow_add]; rfl
      rw [Nat.mul_assoc, e1, Nat.pow_add, Nat.pow_add, ← hA]
      rw [show (18014398509481984 : Nat) = 2 ^ 54 from rfl]
      simp only [Nat.mul_assoc]
    have hLt : 2 ^ L = 2 ^ (t - 2) * 2 ^ (L + 2 - t) := by
      have hx : L = t - 2 + (L + 2 - t) := by omega
      rw [← Nat.pow_add, ← hx]
    have hV := V_mk L c cb.1 cb.2
    have hup := V_up L c cb.1 cb.2
    have hpb : 0 < 2 ^ b := Nat.two_pow_pos _
    have hpz : 0 < 2 ^ (L + 2 - t) := Nat.two_pow_pos _
    have low : (V (L * 4503599627370496 + c - 1) + V (L * 4503599627370496 + c)) ≤ (2 * c - 1) * 2 ^ L ∨ (V (L * 4503599627370496 + c - 1) + V (L * 4503599627370496 + c)) ≤ 2 * c * 2 ^ L ∧ c = 4503599627370496 := by
      by_cases hcl : c = 4503599627370496
      · right
        refine ⟨?_, hcl⟩
        have := V_least L
        rw [hV]; rw [hcl] at *; generalize 2 ^ L = z at *; omega
      · left
        rw [hV, V_down L c (by omega) cb.2, ← Nat.add_mul]
        exact Nat.mul_le_mul_right _ (by omega)
    have ho := odd_rung L c
    have cmp : ∀ x y : Nat, x * 2 ^ b ≤ y * 2 ^ b → x ≤ y := fun x y h => Nat.le_of_mul_le_mul_right h hpb
    have cmp' : ∀ x y : Nat, x * 2 ^ b < y * 2 ^ b → x < y := fun x y h => Nat.lt_of_mul_lt_mul_right h
    have eq1 : ∀ k : Nat, k * 2 ^ L * q * 2 ^ b = k * 2 ^ (t - 2) * B * 2 ^ (L + 2 - t) := fun k => by
      rw [hLt, ← hB]; ac_rfl
    have L1 : (V (L * 4503599627370496 + c - 1) + V (L * 4503599627370496 + c)) * q ≤ n * unit ∧ (c % 2 = 1 → (V (L * 4503599627370496 + c - 1) + V (L * 4503599627370496 + c)) * q < n * unit) := by
      rcases low with low | ⟨low, hcl⟩
      · have h1 : (V (L * 4503599627370496 + c - 1) + V (L * 4503599627370496 + c)) * q ≤ (2 * c - 1) * 2 ^ L * q := Nat.mul_le_mul_right _ low
        have h2 : (2 * c - 1) * 2 ^ L * q ≤ n * unit := cmp _ _ (by rw [eq1, hpow]; exact Nat.mul_le_mul_right _ hrb.1)
        refine ⟨Nat.le_trans h1 h2, fun od => Nat.lt_of_le_of_lt h1 (cmp' _ _ (by rw [eq1, hpow]; exact Nat.mul_lt_mul_of_pos_right (hrb.2.2 od).1 hpz))⟩
      · have h1 : (V (L * 4503599627370496 + c - 1) + V (L * 4503599627370496 + c)) * q ≤ (2 * c) * 2 ^ L * q := Nat.mul_le_mul_right _ low
        have h2 : (2 * c) * 2 ^ L * q ≤ n * unit := cmp _ _ (by
          rw [eq1, hpow]
          refine Nat.mul_le_mul_right _ ?_
          have hx : 2 * c * 2 ^ (t - 2) ≤ Q := by
            rcases ht with rfl | rfl
            · simp only [Nat.reduceAdd, Nat.reducePow] at hlo; simp; omega
            · simp only [Nat.reduceAdd, Nat.reducePow] at hlo; simp; omega
          have := Nat.mul_le_mul_right B hx
          omega)
        refine ⟨Nat.le_trans h1 h2, fun od => by omega⟩
    have H1 : n * unit ≤ (V (L * 4503599627370496 + c) + V (L * 4503599627370496 + c + 1)) * q ∧ (c % 2 = 1 → n * unit < (V (L * 4503599627370496 + c) + V (L * 4503599627370496 + c + 1)) * q) := by
      have h0 : (2 * c + 1) * 2 ^ L ≤ V (L * 4503599627370496 + c) + V (L * 4503599627370496 + c + 1) := by
        rw [hV, show 2 * c + 1 = c + (c + 1) by omega, Nat.add_mul]; omega
      have h1 : (2 * c + 1) * 2 ^ L * q ≤ (V (L * 4503599627370496 + c) + V (L * 4503599627370496 + c + 1)) * q := Nat.mul_le_mul_right _ h0
      have h2 : n * unit ≤ (2 * c + 1) * 2 ^ L * q := cmp _ _ (by rw [eq1, hpow]; exact Nat.mul_le_mul_right _ hrb.2.1)
      exact ⟨Nat.le_trans h2 h1, fun od => Nat.lt_of_lt_of_le (cmp' _ _ (by rw [eq1, hpow]; exact Nat.mul_lt_mul_of_pos_right (hrb.2.2 od).2 hpz)) h1⟩
    exact ⟨L1.1, H1.1, fun od => by rw [ho] at od; exact ⟨L1.2 od, H1.2 od⟩⟩
end Fp
end Go.Proofs.Ytjmkofdnlhfaiaa
