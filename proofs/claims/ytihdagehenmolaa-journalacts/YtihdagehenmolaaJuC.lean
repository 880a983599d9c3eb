import Derived.Test.YtihdagehenmolaaJuP
set_option linter.unusedVariables false
set_option linter.unusedSimpArgs false
namespace Go.Proofs.Ytihdagehenmolaa
namespace J
/-- the bits of a text, the lowest of each byte first -/
def mb (l : List UInt8) (i : Nat) : Bool := (l.getD (i / 8) 0).toNat.testBit (i % 8)
theorem mb_out {l : List UInt8} {i : Nat} (h : 8 * l.length ≤ i) : mb l i = false := by
  unfold mb
  rw [List.getD_eq_getElem?_getD, List.getElem?_eq_none (by omega)]
  simp
theorem stp_lin (a c : Nat) : stp (a ^^^ (2 * c)) = stp a ^^^ c := by
  have e1 : (a ^^^ (2 * c)) % 2 = a % 2 := by
    have := Nat.xor_mod_two_pow (a := a) (b := 2 * c) (n := 1)
    simp at this
    exact this
  have e2 : (a ^^^ (2 * c)) / 2 = a / 2 ^^^ c := by
    have := Nat.xor_div_two_pow (a := a) (b := 2 * c) (n := 1)
    simpa using this
  unfold stp
  rw [e1, e2]
  split
  · rw [Nat.xor_assoc, Nat.xor_comm c, ← Nat.xor_assoc]
  · rfl
/-- bit by bit -/
def fb (r b : Nat) : Nat → Nat
  | 0 => r
  | k + 1 => stp (fb r b k ^^^ (b.testBit k).toNat)
theorem one_bit (i : Nat) : Nat.testBit 1 (i + 1) = false := Nat.testBit_lt_two_pow (by simp)
theorem split2 (n : Nat) : n = (n.testBit 0).toNat ^^^ (2 * (n / 2)) := by
  apply Nat.eq_of_testBit_eq
  intro i
  rw [Nat.testBit_xor]
  cases i with
  | zero =>
    rw [Nat.testBit_zero (x := 2 * (n / 2)), Nat.mul_mod_right]
    cases h : n.testBit 0 <;> simp
  | succ i =>
    rw [show 2 * (n / 2) = (n / 2) * 2 ^ 1 by omega, Nat.testBit_mul_two_pow, ← Nat.testBit_div_two]
    cases h : n.testBit 0 <;> simp [one_bit]
theorem stps_fb (r b k : Nat) : stps k (r ^^^ b) = fb r b k ^^^ (b / 2 ^ k) := by
  induction k with
  | zero => simp [stps, fb]
  | succ k ih =>
    show stp (stps k (r ^^^ b)) = stp (fb r b k ^^^ (b.testBit k).toNat) ^^^ (b / 2 ^ (k + 1))
    rw [ih]
    have e1 : (b / 2 ^ k).testBit 0 = b.testBit k := by
      rw [Nat.testBit_div_two_pow]; simp
    have e2 : b / 2 ^ k / 2 = b / 2 ^ (k + 1) := by rw [Nat.div_div_eq_div_mul, Nat.pow_succ]
    have e3 := split2 (b / 2 ^ k)
    rw [e1, e2] at e3
    rw [e3, ← Nat.xor_assoc, stp_lin]
theorem byt_fb (r : Nat) (b : UInt8) : byt r b = fb r b.toNat 8 := by
  unfold byt
  rw [stps_fb, Nat.div_eq_of_lt (by have := u8_lt b; omega), Nat.xor_zero]
/-- the sum's register, bit by bit -/
def pb (l : List UInt8) : Nat → Nat
  | 0 => 4294967295
  | i + 1 => stp (pb l i ^^^ (mb l i).toNat)
theorem pb_lt (l : List UInt8) (i : Nat) : pb l i < 4294967296 := by
  induction i with
  | zero => show 4294967295 < 4294967296; decide
  | succ i ih => exact stp_lt (Nat.xor_lt_two_pow (n := 32) ih (by cases mb l i <;> decide))
theorem pb_fb (l : List UInt8) (k j : Nat) (hj : j ≤ 8) : pb l (8 * k + j) = fb (pb l (8 * k)) (l.getD k 0).toNat j := by
  induction j with
  | zero => rfl
  | succ j ih =>
    show stp (pb l (8 * k + j) ^^^ (mb l (8 * k + j)).toNat) = stp (fb _ _ j ^^^ _)
    rw [ih (by omega)]
    unfold mb
    rw [show (8 * k + j) / 8 = k by omega, show (8 * k + j) % 8 = j by omega]
theorem pb_cs (l : List UInt8) (k : Nat) (hk : k ≤ l.length) : pb l (8 * k) = cs 4294967295 (l.take k) := by
  induction k with
  | zero => rfl
  | succ k ih =>
    rw [show 8 * (k + 1) = 8 * k + 8 by omega, pb_fb l k 8 (Nat.le_refl _), ih (by omega), List.take_add_one, cs_add, List.getElem?_eq_getElem (by omega), ← byt_fb]
    rw [List.getD_eq_getElem?_getD, List.getElem?_eq_getElem (by omega)]
    rfl
/-- the document's division -/
def rb (l : List UInt8) (i : Nat) : Nat := (if i < 32 then !mb l i else mb l i).toNat
def rs (x b : Nat) : Nat := if 4294967296 ≤ 2 * x + b then (2 * x + b) ^^^ 4374732215 else 2 * x + b
def rst (l : List UInt8) : Nat → Nat
  | 0 => 0
  | i + 1 => rs (rst l i) (rb l i)
theorem rb_le (l : List UInt8) (i : Nat) : rb l i ≤ 1 := by unfold rb; exact Bool.toNat_le _
theorem bit_2 (x : Nat) (b : Bool) (k : Nat) : (2 * x + b.toNat).testBit k = if k = 0 then b else x.testBit (k - 1) := by
  cases k with
  | zero =>
    rw [if_pos rfl, Nat.testBit_zero]
    cases b <;> simp <;> omega
  | succ k =>
    rw [if_neg (by omega), ← Nat.testBit_div_two]
    congr 1
    cases b <;> simp <;> omega
theorem rst_head (l : List UInt8) (k : Nat) (hk : k ≤ 32) : rst l k < 2 ^ k ∧ ∀ j, j < k → (rst l k).testBit (k - 1 - j) = !mb l j := by
  induction k with
  | zero => exact ⟨Nat.one_pos, fun j hj => by omega⟩
  | succ k ih =>
    obtain ⟨h1, h2⟩ := ih (by omega)
    have hp : 2 ^ k ≤ 2 ^ 31 := Nat.pow_le_pow_right (by decide) (by omega)
    have hb := rb_le l k
    have e : rst l (k + 1) = 2 * rst l k + (!mb l k).toNat := by
      show rs (rst l k) (rb l k) = _
      have : rb l k = (!mb l k).toNat := by unfold rb; rw [if_pos (by omega)]
      unfold rs
      rw [if_neg (by omega), this]
    rw [e]
    refine ⟨by rw [Nat.pow_succ]; have := Bool.toNat_le (!mb l k); omega, fun j hj => ?_⟩
    rw [bit_2]
    by_cases q : j = k
    · rw [if_pos (by omega), q]
    · rw [if_neg (by omega), show k + 1 - 1 - j - 1 = k - 1 - j by omega]
      exact h2 j (by omega)
theorem poly_bits : ∀ j, j < 32 → (3988292384 : Nat).testBit j = (4374732215 : Nat).testBit (31 - j) := by decide
theorem allones : ∀ j, j < 32 → (4294967295 : Nat).testBit j = true := by decide
theorem top_iff {x : Nat} (hx : x < 4294967296) (b : Bool) : (4294967296 ≤ 2 * x + b.toNat) ↔ x.testBit 31 = true := by
  have e : x.testBit 31 = decide (2147483648 ≤ x) := by
    by_cases h : 2147483648 ≤ x
    · rw [decide_eq_true h]
      have : x = 2147483648 + (x - 2147483648) := by omega
      rw [this]
      have := Nat.testBit_two_pow_add_eq (x - 2147483648) 31
      rw [show (2 : Nat) ^ 31 = 2147483648 from rfl] at this
      rw [this, bit31 (by omega)]
      rfl
    · rw [decide_eq_false h, bit31 (by omega)]
  rw [e, decide_eq_true_eq]
  have := Bool.toNat_le b
  omega
theorem rs_bit {x : Nat} (hx : x < 4294967296) (b : Bool) (k : Nat) (hk : k < 32) : (rs x b.toNat).testBit k = ((if k = 0 then b else x.testBit (k - 1)) ^^ (x.testBit 31 && (4374732215 : Nat).testBit k)) := by
  unfold rs
  by_cases h : 4294967296 ≤ 2 * x + b.toNat
  · rw [if_pos h, Nat.testBit_xor, bit_2, (top_iff hx b).1 h, Bool.true_and]
  · rw [if_neg h, bit_2]
    have : x.testBit 31 = false := by
      cases q : x.testBit 31
      · rfl
      · exact absurd ((top_iff hx b).2 q) h
    rw [this, Bool.false_and, Bool.xor_false]
theorem rs_lt {x : Nat} (hx : x < 4294967296) (b : Bool) : rs x b.toNat < 4294967296 := by
  unfold rs
  by_cases h : 4294967296 ≤ 2 * x + b.toNat
  · rw [if_pos h]
    have hb := Bool.toNat_le b
    have e : 2 * x + b.toNat < 2 ^ 33 := by omega
    have e2 : (2 * x + b.toNat) ^^^ 4374732215 < 2 ^ 33 := Nat.xor_lt_two_pow e (by decide)
    have e3 : ((2 * x + b.toNat) ^^^ 4374732215).testBit 32 = false := by
      rw [Nat.testBit_xor, bit_2, if_neg (by decide), (top_iff hx b).1 h]
      decide
    refine Nat.lt_of_not_le fun q => ?_
    have e4 : ((2 * x + b.toNat) ^^^ 4374732215).testBit 32 = true := by
      generalize (2 * x + b.toNat) ^^^ 4374732215 = y at *
      have : y = 4294967296 + (y - 4294967296) := by omega
      rw [this]
      have := Nat.testBit_two_pow_add_eq (y - 4294967296) 32
      rw [show (2 : Nat) ^ 32 = 4294967296 from rfl] at this
      rw [this, Nat.testBit_lt_two_pow (by omega)]
      rfl
    rw [e3] at e4
    cases e4
  · rw [if_neg h]; omega
theorem low_iff (n : Nat) : (n % 2 = 1) ↔ n.testBit 0 = true := by rw [Nat.testBit_zero, decide_eq_true_eq]
theorem stp_bit (r j : Nat) : (stp r).testBit j = (r.testBit (j + 1) ^^ (r.testBit 0 && (3988292384 : Nat).testBit j)) := by
  unfold stp
  by_cases h : r % 2 = 1
  · rw [if_pos h, Nat.testBit_xor, Nat.testBit_div_two, (low_iff r).1 h, Bool.true_and]
  · rw [if_neg h, Nat.testBit_div_two]
    have : r.testBit 0 = false := by
      cases q : r.testBit 0
      · rfl
      · exact absurd ((low_iff r).2 q) h
    rw [this, Bool.false_and, Bool.xor_false]
theorem bit_toNat (b : Bool) (j : Nat) : b.toNat.testBit j = (b && decide (j = 0)) := by
  cases b
  · simp
  · cases j <;> simp [one_bit]
/-- BOTH REGISTERS -/
theorem regs (l : List UInt8) (i : Nat) : rst l (i + 32) < 4294967296 ∧ ∀ j, j < 32 → (rst l (i + 32)).testBit (31 - j) = ((pb l i).testBit j ^^ mb l (i + j)) := by
  induction i with
  | zero =>
    obtain ⟨h1, h2⟩ := rst_head l 32 (Nat.le_refl _)
    refine ⟨by simpa using h1, fun j hj => ?_⟩
    rw [Nat.zero_add, Nat.zero_add, h2 j hj]
    show _ = ((4294967295 : Nat).testBit j ^^ _)
    rw [allones j hj, Bool.true_xor]
  | succ i ih =>
    obtain ⟨h1, h2⟩ := ih
    have e : rst l (i + 1 + 32) = rs (rst l (i + 32)) (mb l (i + 32)).toNat := by
      rw [show i + 1 + 32 = (i + 32) + 1 by omega]
      show rs _ (rb l (i + 32)) = _
      unfold rb
      rw [if_neg (by omega)]
    have ht := h2 0 (by decide)
    rw [Nat.sub_zero, Nat.add_zero i] at ht
    refine ⟨by rw [e]; exact rs_lt h1 _, fun j hj => ?_⟩
    rw [e, rs_bit h1 _ _ (by omega), ht, ← poly_bits j hj]
    show _ = ((stp (pb l i ^^^ (mb l i).toNat)).testBit j ^^ _)
    rw [stp_bit, Nat.testBit_xor, Nat.testBit_xor, bit_toNat, bit_toNat, decide_eq_false (Nat.succ_ne_zero j), Bool.and_false, Bool.xor_false, decide_eq_true rfl, Bool.and_true]
    by_cases q : j = 31
    · subst q
      rw [if_pos rfl, Nat.testBit_lt_two_pow (x := pb l i) (i := 31 + 1) (pb_lt l i), show i + 1 + 31 = i + 32 by omega, Bool.false_xor, Bool.xor_comm]
    · rw [if_neg (by omega), show 31 - j - 1 = 31 - (j + 1) by omega, h2 (j + 1) (by omega), show i + 1 + j = i + (j + 1) by omega]
      generalize (pb l i).testBit (j + 1) = a
      generalize mb l (i + (j + 1)) = b
      generalize (((pb l i).testBit 0 ^^ mb l i) && (3988292384 : Nat).testBit j) = c
      cases a <;> cases b <;> cases c <;> rfl
/-- the lowest so many bits, turned round -/
def trn (n : Nat) : Nat → Nat
  | 0 => 0
  | k + 1 => 2 * trn n k + n / 2 ^ k % 2
theorem trn_bits (n k : Nat) : trn n k < 2 ^ k ∧ ∀ j, j < k → (trn n k).testBit j = n.testBit (k - 1 - j) := by
  induction k with
  | zero => exact ⟨Nat.one_pos, fun j hj => by omega⟩
  | succ k ih =>
    obtain ⟨h1, h2⟩ := ih
    have e0 : n / 2 ^ k % 2 = (n.testBit k).toNat := by
      rw [Nat.toNat_testBit]
    have e : trn n (k + 1) = 2 * trn n k + (n.testBit k).toNat := by rw [← e0]; rfl
    rw [e]
    refine ⟨by rw [Nat.pow_succ]; have := Bool.toNat_le (n.testBit k); omega, fun j hj => ?_⟩
    rw [bit_2]
    by_cases q : j = 0
    · rw [if_pos q, q]; congr 1
    · rw [if_neg q, h2 (j - 1) (by omega)]; congr 1; omega
/-- THE DOCUMENT'S SUM IS THE PROGRAM'S -/
theorem sum_eq (l : List UInt8) : 4294967295 - trn (rst l (8 * l.length + 32)) 32 = sm l := by
  obtain ⟨h1, h2⟩ := regs l (8 * l.length)
  obtain ⟨h3, h4⟩ := trn_bits (rst l (8 * l.length + 32)) 32
  have hc := pb_cs l l.length (Nat.le_refl _)
  rw [List.take_length] at hc
  have e : trn (rst l (8 * l.length + 32)) 32 = cs 4294967295 l := by
    rw [← hc]
    apply Nat.eq_of_testBit_eq
    intro j
    by_cases hj : j < 32
    · rw [h4 j hj, show 32 - 1 - j = 31 - j by omega, h2 j hj, mb_out (by omega), Bool.xor_false]
    · have hp : 2 ^ 32 ≤ 2 ^ j := Nat.pow_le_pow_right (by decide) (by omega)
      have := pb_lt l (8 * l.length)
      rw [Nat.testBit_lt_two_pow (by omega), Nat.testBit_lt_two_pow (by omega)]
  rw [e]
  unfold sm
  have hl := cs_lt l (r := 4294967295) (by decide)
  generalize cs 4294967295 l = y at *
  apply Nat.eq_of_testBit_eq
  intro j
  have := Nat.testBit_two_pow_sub_succ (x := y) (n := 32) hl j
  rw [show (2 : Nat) ^ 32 - (y + 1) = 4294967295 - y by omega] at this
  rw [this, Nat.testBit_xor]
  by_cases hj : j < 32
  · rw [allones j hj, decide_eq_true hj, Bool.true_and, Bool.true_xor]
  · have hp : 2 ^ 32 ≤ 2 ^ j := Nat.pow_le_pow_right (by decide) (by omega)
    rw [decide_eq_false hj, Bool.false_and, Nat.testBit_lt_two_pow (x := y) (by omega), Nat.testBit_lt_two_pow (x := 4294967295) (by omega)]
    rfl
end J
end Go.Proofs.Ytihdagehenmolaa
