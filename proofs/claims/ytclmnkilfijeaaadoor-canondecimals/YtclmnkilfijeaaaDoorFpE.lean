import Derived.Test.YtclmnkilfijeaaaDoorFpD
set_option linter.unusedVariables false
set_option linter.unusedSimpArgs false
namespace Go.Proofs.YtclmnkilfijeaaaDoor
namespace Fp
theorem far_of {r p Wd : Nat} (hV : V (r + 1) ≤ V (r - 1) + Wd) (hw : Wd * 10 ^ p < 10 * unit) : ∀ D E, Near r (10 * D) (10 ^ p) → Near r (10 * E) (10 ^ p) → D = E := by
  have key : ∀ D E, Near r (10 * D) (10 ^ p) → Near r (10 * E) (10 ^ p) → ¬ D < E := by
    intro D E h1 h2 hl
    have a1 := h1.1
    have a2 := h2.2.1
    have e : (10 * E) * unit = (10 * D) * unit + 10 * unit + 10 * (E - D - 1) * unit := by
      rw [← Nat.add_mul, ← Nat.add_mul]; congr 1; omega
    have b : (V r + V (r + 1)) * 10 ^ p ≤ (V (r - 1) + V r) * 10 ^ p + Wd * 10 ^ p := by
      rw [← Nat.add_mul]; exact Nat.mul_le_mul_right _ (by omega)
    generalize 10 * (E - D - 1) * unit = z at *
    omega
  intro D E h1 h2
  have := key D E h1 h2
  have := key E D h2 h1
  omega
theorem conv_le {L a : Nat} (h : L + a = 1074) (hL : 10 ≤ L) (x D q : Nat) : x * 2 ^ L * q ≤ D * unit ↔ 4 * (x * 1024 * q) ≤ 4 * (D * 2 ^ (a + 11)) := by
  have e1 : x * 2 ^ L * q = x * 1024 * q * 2 ^ (L - 10) := by
    rw [show (2 : Nat) ^ L = 1024 * 2 ^ (L - 10) by rw [show (1024 : Nat) = 2 ^ 10 from rfl, ← Nat.pow_add]; congr 1; omega]
    ac_rfl
  have e2 : D * unit = D * 2 ^ (a + 11) * 2 ^ (L - 10) := by
    rw [unit, show 1075 = a + 11 + (L - 10) by omega, Nat.pow_add]; ac_rfl
  rw [e1, e2, mul_le_iff _ _ _ (Nat.two_pow_pos _)]
  omega
theorem conv_ge {L a : Nat} (h : L + a = 1074) (hL : 10 ≤ L) (x D q : Nat) : D * unit ≤ x * 2 ^ L * q ↔ 4 * (D * 2 ^ (a + 11)) ≤ 4 * (x * 1024 * q) := by
  have e1 : x * 2 ^ L * q = x * 1024 * q * 2 ^ (L - 10) := by
    rw [show (2 : Nat) ^ L = 1024 * 2 ^ (L - 10) by rw [show (1024 : Nat) = 2 ^ 10 from rfl, ← Nat.pow_add]; congr 1; omega]
    ac_rfl
  have e2 : D * unit = D * 2 ^ (a + 11) * 2 ^ (L - 10) := by
    rw [unit, show 1075 = a + 11 + (L - 10) by omega, Nat.pow_add]; ac_rfl
  rw [e1, e2, mul_le_iff _ _ _ (Nat.two_pow_pos _)]
  omega
/-- which D lie within -/
theorem iff_of {r o Nmin Nmax G q X Y D : Nat} (hG : 0 < G) (hN : 0 < Nmax) (ho : o = r % 2) (h1 : V (r - 1) + V r = X) (h2 : V r + V (r + 1) = Y)
    (c1 : X * q ≤ D * unit ↔ Nmin ≤ 4 * (D * G)) (c1' : D * unit ≤ X * q ↔ 4 * (D * G) ≤ Nmin) (c2 : D * unit ≤ Y * q ↔ 4 * (D * G) ≤ Nmax) (c2' : Y * q ≤ D * unit ↔ Nmax ≤ 4 * (D * G)) :
    (lowD o Nmin G ≤ D ∧ D ≤ highD o Nmax G) ↔ Near r D q := by
  unfold Near lowD highD
  rw [h1, h2]
  rcases Nat.mod_two_eq_zero_or_one r with k | k
  · rw [ho, k, Nat.add_zero, Nat.sub_zero, U_ceil _ _ _ hG, U_floor _ _ _ hG, ← c1, ← c2]
    constructor
    · rintro ⟨a, b⟩; exact ⟨a, b, fun q => by omega⟩
    · rintro ⟨a, b, _⟩; exact ⟨a, b⟩
  · rw [ho, k, U_ceil_odd _ _ _ hG, U_floor_odd _ _ _ hG hN]
    constructor
    · rintro ⟨a, b⟩
      have a' : ¬ (D * unit ≤ X * q) := by rw [c1']; omega
      have b' : ¬ (Y * q ≤ D * unit) := by rw [c2']; omega
      exact ⟨by omega, by omega, fun _ => ⟨by omega, by omega⟩⟩
    · rintro ⟨_, _, h⟩
      obtain ⟨a, b⟩ := h rfl
      have a' : ¬ (4 * (D * G) ≤ Nmin) := by rw [← c1']; omega
      have b' : ¬ (Nmax ≤ 4 * (D * G)) := by rw [← c2']; omega
      exact ⟨by omega, by omega⟩
theorem mid_of {o Nmin Nmax Nm G : Nat} (hG : 0 < G) (ho : o ≤ 1) (hN : 0 < Nmin) (hc : Nmin + Nmax = 2 * Nm) (hw : Nmin + 4 * G < Nmax) :
    lowD o Nmin G ≤ highD o Nmax G ∧ (lowD o Nmin G < highD o Nmax G → lowD o Nmin G ≤ rnd (U Nm G) ∧ rnd (U Nm G) ≤ highD o Nmax G) := by
  have hlo : ∀ D, (lowD o Nmin G ≤ D → Nmin ≤ 4 * (D * G)) ∧ (Nmin < 4 * (D * G) → lowD o Nmin G ≤ D) := by
    intro D
    unfold lowD
    rcases (show o = 0 ∨ o = 1 by omega) with rfl | rfl
    · rw [Nat.add_zero, U_ceil _ _ _ hG]; exact ⟨id, Nat.le_of_lt⟩
    · rw [U_ceil_odd _ _ _ hG]; exact ⟨Nat.le_of_lt, id⟩
  have hhi : ∀ D, (D ≤ highD o Nmax G → 4 * (D * G) ≤ Nmax) ∧ (4 * (D * G) < Nmax → D ≤ highD o Nmax G) := by
    intro D
    unfold highD
    rcases (show o = 0 ∨ o = 1 by omega) with rfl | rfl
    · rw [Nat.sub_zero, U_floor _ _ _ hG]; exact ⟨id, Nat.le_of_lt⟩
    · rw [U_floor_odd _ _ _ hG (by omega)]; exact ⟨Nat.le_of_lt, id⟩
  generalize lowD o Nmin G = a at *
  generalize highD o Nmax G = b at *
  have sm : ∀ D, (D + 1) * G = D * G + G := fun D => Nat.succ_mul D G
  refine ⟨?_, ?_⟩
  · rcases Nat.lt_or_ge b a with h | h
    · exfalso
      have x1 : ¬ (Nmin < 4 * (b * G)) := fun z => by have := (hlo b).2 z; omega
      have x2 : ¬ (4 * ((b + 1) * G) < Nmax) := fun z => by have := (hhi (b + 1)).2 z; omega
      rw [sm] at x2
      omega
    · exact h
  · intro h
    have y1 := (hhi (a + 1)).1 (by omega)
    have z2 : ¬ (4 * ((b + 1) * G) < Nmax) := fun z => by have := (hhi (b + 1)).2 z; omega
    have z1 := (hlo (b - 1)).1 (by omega)
    rw [sm] at y1 z2
    have eb : b * G = (b - 1) * G + G := by rw [← sm]; congr 1; omega
    constructor
    · apply U_round_ge _ _ _ hG
      rcases Nat.eq_zero_or_pos a with e | e
      · subst e; simp
      · have x1 : ¬ (Nmin < 4 * ((a - 1) * G)) := fun z => by have := (hlo (a - 1)).2 z; omega
        have ea : a * G = (a - 1) * G + G := by rw [← sm]; congr 1; omega
        omega
    · apply U_round_le _ _ _ hG
      omega
/-- how many digits, for a float that is no power of two, and for one -/
def pGen (a : Nat) : Nat := (a * 78913 + 262143) / 262144
def pPow (a : Nat) : Nat := (a * 631305 + 261663 + 2097151) / 2097152
theorem pGen_ok : ∀ a, a < 87 → 51 < a → 16 ≤ pGen a ∧ pGen a ≤ 27 ∧ 2 ^ a < 10 ^ pGen a ∧ 10 ^ pGen a < 10 * 2 ^ a := by decide
theorem pPow_ok : ∀ a, a < 87 → 51 < a → 16 ≤ pPow a ∧ pPow a ≤ 27 ∧ 2 * 2 ^ a < 3 * 10 ^ pPow a ∧ 3 * 10 ^ pPow a < 40 * 2 ^ a := by decide
theorem e00 (z k : Nat) (h : k ≤ z) : z - k + (z + k) = 2 * z := by omega
theorem good_gen {L a c : Nat} (h : L + a = 1074) (ha : 52 ≤ a) (ha' : a ≤ 86) (c1 : 4503599627370496 < c) (c2 : c < 9007199254740992) :
    Good (L * 4503599627370496 + c) (c % 2) (4 * ((c * 2048 - 1024) * 10 ^ pGen a)) (4 * ((c * 2048 + 1024) * 10 ^ pGen a)) (4 * (c * 2048 * 10 ^ pGen a)) (2 ^ (a + 11)) (pGen a) := by
  obtain ⟨p1, p2, p3, p4⟩ := pGen_ok a (by omega) (by omega)
  generalize pGen a = p at *
  have hG : 0 < 2 ^ (a + 11) := Nat.two_pow_pos _
  have hq : 0 < 10 ^ p := Nat.pow_pos (by omega)
  have v0 := V_mk L c (by omega) (by omega)
  have v1 := V_down L c (by omega) (by omega)
  have v2 := V_mk L (c + 1) (by omega) (by omega)
  rw [← Nat.add_assoc] at v2
  have x1 : c * 2048 - 1024 = (2 * c - 1) * 1024 := by omega
  have x2 : c * 2048 + 1024 = (2 * c + 1) * 1024 := by omega
  refine ⟨by omega, fun D => ?_, ?_, ?_⟩
  · refine iff_of hG (Nat.mul_pos (by omega) (Nat.mul_pos (by omega) hq)) (by omega) (X := (2 * c - 1) * 2 ^ L) (Y := (2 * c + 1) * 2 ^ L) ?_ ?_ ?_ ?_ ?_ ?_
    · rw [v0, v1, ← Nat.add_mul, show c - 1 + c = 2 * c - 1 by omega]
    · rw [v0, v2, ← Nat.add_mul, show c + (c + 1) = 2 * c + 1 by omega]
    · rw [x1]; exact conv_le h (by omega) _ _ _
    · rw [x1]; exact conv_ge h (by omega) _ _ _
    · rw [x2]; exact conv_ge h (by omega) _ _ _
    · rw [x2]; exact conv_le h (by omega) _ _ _
  · refine far_of (Wd := 2 * 2 ^ L) ?_ ?_
    · rw [v1, v2, ← Nat.add_mul]; exact Nat.mul_le_mul_right _ (by omega)
    · have := Nat.mul_lt_mul_of_pos_right p4 (show 0 < 2 * 2 ^ L from Nat.mul_pos (by omega) (Nat.two_pow_pos _))
      have e : 10 * 2 ^ a * (2 * 2 ^ L) = 10 * unit := by
        rw [unit, show 1075 = 1 + a + L by omega, Nat.pow_add, Nat.pow_add, Nat.pow_one]; ac_rfl
      rw [Nat.mul_comm]; omega
  · refine mid_of hG (by omega) (Nat.mul_pos (by omega) (Nat.mul_pos (by omega) hq)) ?_ ?_
    · rw [← Nat.mul_add, ← Nat.add_mul, e00 (c * 2048) 1024 (by omega)]
      generalize c * 2048 = z
      generalize 10 ^ p = y
      simp only [Nat.mul_assoc]
      omega
    · have e1 : (c * 2048 + 1024) * 10 ^ p = (c * 2048 - 1024) * 10 ^ p + 2048 * 10 ^ p := by rw [← Nat.add_mul, show c * 2048 - 1024 + 2048 = c * 2048 + 1024 by omega]
      have e2 : 2 ^ (a + 11) = 2048 * 2 ^ a := by rw [Nat.pow_add, Nat.mul_comm]
      rw [e1, e2]
      generalize (c * 2048 - 1024) * 10 ^ p = z
      omega
/-- of the powers of two: by going through them -/
theorem mid_pow : ∀ a, a < 87 → 51 < a → lowD 0 (4 * (9223372036854775296 * 10 ^ pPow a)) (2 ^ (a + 11)) ≤ highD 0 (4 * (9223372036854776832 * 10 ^ pPow a)) (2 ^ (a + 11)) ∧ (lowD 0 (4 * (9223372036854775296 * 10 ^ pPow a)) (2 ^ (a + 11)) < highD 0 (4 * (9223372036854776832 * 10 ^ pPow a)) (2 ^ (a + 11)) → lowD 0 (4 * (9223372036854775296 * 10 ^ pPow a)) (2 ^ (a + 11)) ≤ rnd (U (4 * (9223372036854775808 * 10 ^ pPow a)) (2 ^ (a + 11))) ∧ rnd (U (4 * (9223372036854775808 * 10 ^ pPow a)) (2 ^ (a + 11))) ≤ highD 0 (4 * (9223372036854776832 * 10 ^ pPow a)) (2 ^ (a + 11))) := by decide
theorem conv2_le {L a : Nat} (h : L + a = 1074) (hL : 10 ≤ L) (x D q : Nat) : x * 2 ^ (L - 1) * q ≤ D * unit ↔ 4 * (x * 512 * q) ≤ 4 * (D * 2 ^ (a + 11)) := by
  have := conv_le h hL x (2 * D) q
  rw [show (2 : Nat) ^ L = 2 * 2 ^ (L - 1) by rw [← Nat.pow_succ']; congr 1; omega] at this
  have e1 : x * (2 * 2 ^ (L - 1)) * q = 2 * (x * 2 ^ (L - 1) * q) := by ac_rfl
  have e2 : x * 1024 * q = 2 * (x * 512 * q) := by rw [show (1024 : Nat) = 2 * 512 from rfl]; ac_rfl
  rw [e1, e2, Nat.mul_assoc 2 D, Nat.mul_assoc 2 D] at this
  omega
theorem conv2_ge {L a : Nat} (h : L + a = 1074) (hL : 10 ≤ L) (x D q : Nat) : D * unit ≤ x * 2 ^ (L - 1) * q ↔ 4 * (D * 2 ^ (a + 11)) ≤ 4 * (x * 512 * q) := by
  have := conv_ge h hL x (2 * D) q
  rw [show (2 : Nat) ^ L = 2 * 2 ^ (L - 1) by rw [← Nat.pow_succ']; congr 1; omega] at this
  have e1 : x * (2 * 2 ^ (L - 1)) * q = 2 * (x * 2 ^ (L - 1) * q) := by ac_rfl
  have e2 : x * 1024 * q = 2 * (x * 512 * q) := by rw [show (1024 : Nat) = 2 * 512 from rfl]; ac_rfl
  rw [e1, e2, Nat.mul_assoc 2 D, Nat.mul_assoc 2 D] at this
  omega
theorem good_pow {L a : Nat} (h : L + a = 1074) (ha : 52 ≤ a) (ha' : a ≤ 86) :
    Good (L * 4503599627370496 + 4503599627370496) 0 (4 * (9223372036854775296 * 10 ^ pPow a)) (4 * (9223372036854776832 * 10 ^ pPow a)) (4 * (9223372036854775808 * 10 ^ pPow a)) (2 ^ (a + 11)) (pPow a) := by
  obtain ⟨p1, p2, p3, p4⟩ := pPow_ok a (by omega) (by omega)
  have hmid := mid_pow a (by omega) (by omega)
  generalize pPow a = p at *
  have hG : 0 < 2 ^ (a + 11) := Nat.two_pow_pos _
  have hq : 0 < 10 ^ p := Nat.pow_pos (by omega)
  have v0 := V_mk L 4503599627370496 (by omega) (by omega)
  have v1 := V_mk (L - 1) 9007199254740991 (by omega) (by omega)
  rw [show (L - 1) * 4503599627370496 + 9007199254740991 = L * 4503599627370496 + 4503599627370496 - 1 by omega] at v1
  have v2 := V_mk L 4503599627370497 (by omega) (by omega)
  rw [show L * 4503599627370496 + 4503599627370497 = L * 4503599627370496 + 4503599627370496 + 1 by omega] at v2
  have hL2 : (2 : Nat) ^ L = 2 * 2 ^ (L - 1) := by
    have q : 2 ^ (L - 1 + 1) = 2 * 2 ^ (L - 1) := Nat.pow_succ'
    rw [show L - 1 + 1 = L by omega] at q
    exact q
  refine ⟨by omega, fun D => ?_, ?_, hmid⟩
  · refine iff_of hG (Nat.mul_pos (by omega) (Nat.mul_pos (by omega) hq)) (by omega) (X := 18014398509481983 * 2 ^ (L - 1)) (Y := 18014398509481986 * 2 ^ (L - 1)) ?_ ?_ ?_ ?_ ?_ ?_
    · rw [v0, v1, hL2]; generalize 2 ^ (L - 1) = z; omega
    · rw [v0, v2, hL2]; generalize 2 ^ (L - 1) = z; omega
    · exact conv2_le h (by omega) 18014398509481983 _ _
    · exact conv2_ge h (by omega) 18014398509481983 _ _
    · exact conv2_ge h (by omega) 18014398509481986 _ _
    · exact conv2_le h (by omega) 18014398509481986 _ _
  · refine far_of (Wd := 3 * 2 ^ (L - 1)) ?_ ?_
    · rw [v1, v2, hL2]; generalize 2 ^ (L - 1) = z; omega
    · have := Nat.mul_lt_mul_of_pos_right p4 (show 0 < 2 ^ (L - 1) from Nat.two_pow_pos _)
      have e : 40 * 2 ^ a * 2 ^ (L - 1) = 10 * unit := by
        rw [unit, show 1075 = 2 + a + (L - 1) by omega, Nat.pow_add, Nat.pow_add, show (40 : Nat) = 10 * 2 ^ 2 from rfl]; ac_rfl
      rw [show 3 * 2 ^ (L - 1) * 10 ^ p = 3 * 10 ^ p * 2 ^ (L - 1) by ac_rfl]; omega
end Fp
end Go.Proofs.YtclmnkilfijeaaaDoor
