import Derived.Test.YtkipcdjadmocaaaBitP
set_option linter.unusedVariables false
set_option linter.unusedSimpArgs false
namespace Go.Proofs.Ytkipcdjadmocaaa
namespace B
theorem wd_and (p q : Nat → Bool) (j : Nat) : wd p j &&& wd q j = wd (fun i => p i && q i) j := by
  apply Nat.eq_of_testBit_eq
  intro k
  rw [Nat.testBit_and, wd_bit, wd_bit, wd_bit]
  by_cases hk : k < 64 <;> simp [hk]
theorem wd_or (p q : Nat → Bool) (j : Nat) : wd p j ||| wd q j = wd (fun i => p i || q i) j := by
  apply Nat.eq_of_testBit_eq
  intro k
  rw [Nat.testBit_or, wd_bit, wd_bit, wd_bit]
  by_cases hk : k < 64 <;> simp [hk]
theorem wd_andNot (p q : Nat → Bool) (j : Nat) : wd p j &&& (18446744073709551615 - wd q j) = wd (fun i => p i && !q i) j := by
  have hq := wd_lt q j
  apply Nat.eq_of_testBit_eq
  intro k
  rw [Nat.testBit_and, show 18446744073709551615 - wd q j = 2 ^ 64 - (wd q j + 1) by omega, Nat.testBit_two_pow_sub_succ (by omega), wd_bit, wd_bit, wd_bit]
  by_cases hk : k < 64 <;> simp [hk]
theorem wd_congr (p q : Nat → Bool) (j : Nat) (h : ∀ i, 64 * j ≤ i → i < 64 * j + 64 → p i = q i) : wd p j = wd q j := by
  apply Nat.eq_of_testBit_eq
  intro k
  rw [wd_bit, wd_bit]
  by_cases hk : k < 64
  · rw [h (64 * j + k) (by omega) (by omega)]
  · simp [hk]
theorem wd_inj (p q : Nat → Bool) (j : Nat) (h : wd p j = wd q j) (i : Nat) (h1 : 64 * j ≤ i) (h2 : i < 64 * j + 64) : p i = q i := by
  have e := congrArg (fun z => z.testBit (i - 64 * j)) h
  simp only [wd_bit] at e
  rw [show 64 * j + (i - 64 * j) = i by omega] at e
  simpa [show i - 64 * j < 64 by omega] using e
/-- the bits that the room reaches -/
def rch (room : Nat) : Nat → Bool := fun i => decide (i < room)
theorem rch_all (room m : Nat) (h : 64 * m + 64 ≤ room) : wd (rch room) m = 18446744073709551615 := by
  apply Nat.eq_of_testBit_eq
  intro k
  rw [wd_bit, show (18446744073709551615 : Nat) = 2 ^ 64 - 1 by rfl, Nat.testBit_two_pow_sub_one]
  by_cases hk : k < 64
  · simp [hk, rch]; omega
  · simp [hk]
theorem rch_none (room m : Nat) (h : room ≤ 64 * m) : wd (rch room) m = 0 := by
  apply Nat.eq_of_testBit_eq
  intro k
  rw [wd_bit, Nat.zero_testBit]
  simp [rch]; omega
theorem rch_some (room m : Nat) (h1 : 64 * m < room) (h2 : room < 64 * m + 64) : wd (rch room) m = 2 ^ (room - 64 * m) - 1 := by
  apply Nat.eq_of_testBit_eq
  intro k
  rw [wd_bit, Nat.testBit_two_pow_sub_one]
  by_cases hk : k < 64
  · simp only [rch, hk, decide_true, Bool.true_and]
    congr 1
    rw [eq_iff_iff]
    omega
  · simp [hk]; omega
/-- the set that is laid: what L makes of both, as far as the room reaches -/
def laid (L : Bool → Bool → Bool) (room : Nat) (p q : Nat → Bool) : Nat → Bool := fun i => L (p i) (q i) && decide (i < room)
/-- its words up to m are done -/
def upto (p p' : Nat → Bool) (m : Nat) : Nat → Bool := fun i => if i < 64 * m then p' i else p i
theorem upto_zero (p p' : Nat → Bool) : upto p p' 0 = p := by funext i; simp [upto]
theorem upto_wd_ge (p p' : Nat → Bool) (m j : Nat) (h : m ≤ j) : wd (upto p p' m) j = wd p j :=
  wd_congr _ _ _ (fun i h1 h2 => by simp only [upto]; rw [if_neg (by omega)])
theorem upto_wd_lt (p p' : Nat → Bool) (m j : Nat) (h : j < m) : wd (upto p p' m) j = wd p' j :=
  wd_congr _ _ _ (fun i h1 h2 => by simp only [upto]; rw [if_pos (by omega)])
theorem upto_step (p p' : Nat → Bool) (m j : Nat) (h : j ≠ m) : wd (upto p p' (m + 1)) j = wd (upto p p' m) j := by
  rcases Nat.lt_or_ge j m with q | q
  · rw [upto_wd_lt _ _ _ _ q, upto_wd_lt _ _ _ _ (by omega)]
  · rw [upto_wd_ge _ _ _ _ q, upto_wd_ge _ _ _ _ (by omega)]
/-- has a word of the first n turned? -/
def chg (p p' : Nat → Bool) : Nat → Bool
  | 0 => false
  | n + 1 => chg p p' n || (((wd p' n : Nat) : Int) != ((wd p n : Nat) : Int))
theorem cast_ne (a b : Nat) (h : ((a : Int) != (b : Int)) = false) : a = b := by
  have h2 : (a : Int) = (b : Int) := by simpa using h
  omega
theorem chg_false (p p' : Nat → Bool) : ∀ n, chg p p' n = false ↔ ∀ i, i < 64 * n → p' i = p i := by
  intro n
  induction n with
  | zero => simp [chg]
  | succ n ih =>
    simp only [chg, Bool.or_eq_false_iff, ih]
    constructor
    · rintro ⟨h1, h2⟩ i hi
      rcases Nat.lt_or_ge i (64 * n) with q | q
      · exact h1 i q
      · have e : wd p' n = wd p n := cast_ne _ _ h2
        exact wd_inj p' p n e i q (by omega)
    · intro h
      refine ⟨fun i hi => h i (by omega), ?_⟩
      have e : wd p' n = wd p n := wd_congr _ _ _ (fun i h1 h2 => h i (by omega))
      simp [e]
end B
end Go.Proofs.Ytkipcdjadmocaaa
