import Derived.Laws.BitsAllLaws
set_option linter.unusedVariables false
set_option linter.unusedSimpArgs false
namespace Go.Proofs.Ytkipcdjadmocaaa
namespace B
/-- the word of n bits whose bit i says whether off + i is in -/
def wdN (p : Nat → Bool) : Nat → Nat → Nat
  | 0, _ => 0
  | n + 1, off => (p off).toNat + 2 * wdN p n (off + 1)
theorem wdN_bit (p : Nat → Bool) : ∀ n off i, (wdN p n off).testBit i = (decide (i < n) && p (off + i)) := by
  intro n
  induction n with
  | zero => intro off i; simp [wdN]
  | succ n ih =>
    intro off i
    cases i with
    | zero => cases h : p off <;> simp [wdN, Nat.testBit_zero, h] <;> omega
    | succ i =>
      rw [Nat.testBit_succ]
      have e : wdN p (n + 1) off / 2 = wdN p n (off + 1) := by cases h : p off <;> simp [wdN, h] <;> omega
      rw [e, ih]
      rw [show off + 1 + i = off + (i + 1) by omega]
      simp
theorem wdN_lt (p : Nat → Bool) : ∀ n off, wdN p n off < 2 ^ n := by
  intro n
  induction n with
  | zero => intro off; simp [wdN]
  | succ n ih =>
    intro off
    have := ih (off + 1)
    rw [Nat.pow_succ]
    cases h : p off <;> simp [wdN, h] <;> omega
/-- the word j of a set -/
def wd (p : Nat → Bool) (j : Nat) : Nat := wdN p 64 (64 * j)
theorem wd_lt (p : Nat → Bool) (j : Nat) : wd p j < 18446744073709551616 := wdN_lt p 64 (64 * j)
theorem wd_bit (p : Nat → Bool) (j i : Nat) : (wd p j).testBit i = (decide (i < 64) && p (64 * j + i)) := wdN_bit p 64 (64 * j) i
/-- how many are in, of n from off on -/
def cnt (p : Nat → Bool) : Nat → Nat → Nat
  | 0, _ => 0
  | n + 1, off => (p off).toNat + cnt p n (off + 1)
theorem cnt_add (p : Nat → Bool) : ∀ n m off, cnt p (n + m) off = cnt p n off + cnt p m (off + n) := by
  intro n
  induction n with
  | zero => intro m off; simp [cnt]
  | succ n ih =>
    intro m off
    rw [show n + 1 + m = (n + m) + 1 by omega]
    simp only [cnt]
    rw [ih, show off + 1 + n = off + (n + 1) by omega]
    omega
theorem cnt_le (p : Nat → Bool) : ∀ n off, cnt p n off ≤ n := by
  intro n
  induction n with
  | zero => intro off; simp [cnt]
  | succ n ih => intro off; have := ih (off + 1); have := Bool.toNat_le (p off); simp only [cnt]; omega
theorem cnt_none (p : Nat → Bool) : ∀ n off, (∀ i, off ≤ i → i < off + n → p i = false) → cnt p n off = 0 := by
  intro n
  induction n with
  | zero => intro off h; rfl
  | succ n ih =>
    intro off h
    simp only [cnt]
    rw [h off (by omega) (by omega), ih (off + 1) (fun i h1 h2 => h i (by omega) (by omega))]
    rfl
theorem cnt_congr (p q : Nat → Bool) : ∀ n off, (∀ i, off ≤ i → i < off + n → p i = q i) → cnt p n off = cnt q n off := by
  intro n
  induction n with
  | zero => intro off h; rfl
  | succ n ih =>
    intro off h
    simp only [cnt]
    rw [h off (by omega) (by omega), ih (off + 1) (fun i h1 h2 => h i (by omega) (by omega))]

/-! the count of a word's bits, as the machine's trick has it -/
/-- ones in a number of f bits -/
def pop : Nat → Nat → Nat
  | 0, _ => 0
  | f + 1, x => x % 2 + pop f (x / 2)
theorem pop_wdN (p : Nat → Bool) : ∀ n off, pop n (wdN p n off) = cnt p n off := by
  intro n
  induction n with
  | zero => intro off; rfl
  | succ n ih =>
    intro off
    have e : wdN p (n + 1) off / 2 = wdN p n (off + 1) := by cases h : p off <;> simp [wdN, h] <;> omega
    have e2 : wdN p (n + 1) off % 2 = (p off).toNat := by cases h : p off <;> simp [wdN, h] <;> omega
    simp only [pop, cnt]
    rw [e, e2, ih]
/-- and of two numbers, a byte off -/
theorem and_byte (a b m c : Nat) (hb : b < 256) (hc : c < 256) : (a * 256 + b) &&& (m * 256 + c) = (a &&& m) * 256 + (b &&& c) := by
  have h : b &&& c < 256 := Nat.lt_of_le_of_lt Nat.and_le_left hb
  apply Nat.eq_of_testBit_eq
  intro i
  rw [Nat.testBit_and]
  have key : ∀ x y : Nat, y < 256 → (x * 256 + y).testBit i = if i < 8 then y.testBit i else x.testBit (i - 8) := fun x y hy => by
    have := Nat.testBit_two_pow_mul_add x (i := 8) (b := y) (by simpa using hy) i
    rw [show 2 ^ 8 * x = x * 256 by omega] at this
    exact this
  rw [key a b hb, key m c hc, key _ _ h]
  split <;> rw [Nat.testBit_and]
theorem dec1 : ∀ r : Fin 2, ∀ b : Fin 256, ((r.val * 128 + b.val / 2) &&& 85) + (b.val &&& 85) = (b.val / 2 &&& 85) + (b.val &&& 85) ∧ (b.val / 2 &&& 85) + (b.val &&& 85) < 256 := by decide +kernel
/-- masks of k bytes -/
def msk (c : Nat) : Nat → Nat
  | 0 => 0
  | k + 1 => msk c k * 256 + c
def p1 (b : Nat) : Nat := (b / 2 &&& 85) + (b &&& 85)
def p2 (b : Nat) : Nat := (b / 4 &&& 51) + (b &&& 51)
def p3 (b : Nat) : Nat := (b / 16 + b) &&& 15
def f1 (k x : Nat) : Nat := (x / 2 &&& msk 85 k) + (x &&& msk 85 k)
def f2 (k x : Nat) : Nat := (x / 4 &&& msk 51 k) + (x &&& msk 51 k)
def f3 (k x : Nat) : Nat := (x / 16 + x) &&& msk 15 k
theorem d1 : ∀ r : Fin 2, ∀ b : Fin 256, ((r.val * 128 + b.val / 2) &&& 85) = (b.val / 2 &&& 85) := by decide +kernel
theorem d2 : ∀ r : Fin 4, ∀ b : Fin 256, ((r.val * 64 + b.val / 4) &&& 51) = (b.val / 4 &&& 51) := by decide +kernel
theorem f1_step (k a b : Nat) (hb : b < 256) : f1 (k + 1) (a * 256 + b) = f1 k a * 256 + p1 b := by
  unfold f1 p1
  rw [show msk 85 (k + 1) = msk 85 k * 256 + 85 from rfl]
  rw [show (a * 256 + b) / 2 = (a / 2) * 256 + ((a % 2) * 128 + b / 2) by omega]
  rw [and_byte _ _ _ _ (by omega) (by omega), and_byte _ _ _ _ hb (by omega)]
  rw [d1 ⟨a % 2, by omega⟩ ⟨b, hb⟩]
  simp only
  omega
theorem f2_step (k a b : Nat) (hb : b < 256) : f2 (k + 1) (a * 256 + b) = f2 k a * 256 + p2 b := by
  unfold f2 p2
  rw [show msk 51 (k + 1) = msk 51 k * 256 + 51 from rfl]
  rw [show (a * 256 + b) / 4 = (a / 4) * 256 + ((a % 4) * 64 + b / 4) by omega]
  rw [and_byte _ _ _ _ (by omega) (by omega), and_byte _ _ _ _ hb (by omega)]
  rw [d2 ⟨a % 4, by omega⟩ ⟨b, hb⟩]
  simp only
  omega
theorem d3 : ∀ r : Fin 5, ∀ b : Fin 69, ((r.val * 16 + b.val / 16 + b.val) &&& 15) = p3 b.val := by decide +kernel
theorem f3_step (k a b : Nat) (hb : b ≤ 68) (ha : a % 16 ≤ 4) : f3 (k + 1) (a * 256 + b) = f3 k a * 256 + p3 b := by
  unfold f3
  rw [show msk 15 (k + 1) = msk 15 k * 256 + 15 from rfl]
  rw [show (a * 256 + b) / 16 + (a * 256 + b) = (a / 16 + a) * 256 + ((a % 16) * 16 + b / 16 + b) by omega]
  rw [and_byte _ _ _ _ (by omega) (by omega)]
  rw [d3 ⟨a % 16, by omega⟩ ⟨b, by omega⟩]
theorem p12 : ∀ b : Fin 256, p1 b.val < 256 ∧ p2 (p1 b.val) ≤ 68 ∧ p2 (p1 b.val) % 16 ≤ 4 ∧ p3 (p2 (p1 b.val)) = pop 8 b.val := by decide +kernel
/-- the three steps together, byte by byte -/
def g (k x : Nat) : Nat := f3 k (f2 k (f1 k x))
theorem nib (k x : Nat) : f2 k (f1 k x) % 16 ≤ 4 := by
  cases k with
  | zero => simp [f2, f1, msk]
  | succ k =>
    have hx : x = x / 256 * 256 + x % 256 := by omega
    have hb : x % 256 < 256 := by omega
    obtain ⟨h1, h2, h3, h4⟩ := p12 ⟨x % 256, hb⟩
    rw [hx, f1_step k _ _ hb, f2_step k _ _ h1]
    simp only at h2 h3 ⊢
    omega
theorem g_step (k a b : Nat) (hb : b < 256) : g (k + 1) (a * 256 + b) = g k a * 256 + pop 8 b := by
  obtain ⟨h1, h2, h3, h4⟩ := p12 ⟨b, hb⟩
  unfold g
  rw [f1_step k _ _ hb, f2_step k _ _ h1, f3_step k _ _ h2 (nib k a)]
  rw [show p3 (p2 (p1 b)) = pop 8 b from h4]
theorem pop_add : ∀ m n x, pop (m + n) x = pop m x + pop n (x / 2 ^ m) := by
  intro m
  induction m with
  | zero => intro n x; simp [pop]
  | succ m ih =>
    intro n x
    rw [show m + 1 + n = (m + n) + 1 by omega]
    simp only [pop]
    rw [ih, Nat.div_div_eq_div_mul, Nat.pow_succ, Nat.mul_comm 2]
    omega
theorem pop_mod : ∀ m x, pop m (x % 2 ^ m) = pop m x := by
  intro m
  induction m with
  | zero => intro x; rfl
  | succ m ih =>
    intro x
    simp only [pop]
    have e1 : x % 2 ^ (m + 1) % 2 = x % 2 := Nat.mod_mod_of_dvd _ ⟨2 ^ m, by rw [Nat.pow_succ, Nat.mul_comm]⟩
    have e2 : x % 2 ^ (m + 1) / 2 = x / 2 % 2 ^ m := by
      rw [Nat.pow_succ, Nat.mul_comm, Nat.mod_mul_right_div_self]
    rw [e1, e2, ih]
theorem pop8_le : ∀ b : Fin 256, pop 8 b.val ≤ 8 := by decide +kernel
/-- the bytes of x, for any two functions that go byte by byte -/
theorem eight_of (P : Nat → Nat) (G : Nat → Nat → Nat) (h1 : ∀ y, P (y % 256) = P y) (h2 : ∀ y, P y ≤ 8) (h3 : ∀ k y, G (k + 1) y = G k (y / 256) * 256 + P y) (h4 : ∀ y, G 0 y = 0) (x : Nat) :
    ∃ q0 q1 q2 q3 q4 q5 q6 q7 : Nat, (q0 ≤ 8 ∧ q1 ≤ 8 ∧ q2 ≤ 8 ∧ q3 ≤ 8) ∧ (q4 ≤ 8 ∧ q5 ≤ 8 ∧ q6 ≤ 8 ∧ q7 ≤ 8) ∧
      P x + (P (x / 256) + (P (x / 256 / 256) + (P (x / 256 / 256 / 256) + (P (x / 256 / 256 / 256 / 256) + (P (x / 256 / 256 / 256 / 256 / 256) + (P (x / 256 / 256 / 256 / 256 / 256 / 256) + P (x / 256 / 256 / 256 / 256 / 256 / 256 / 256))))))) = q0 + q1 + q2 + q3 + q4 + q5 + q6 + q7 ∧
      G 8 x = q0 + q1 * 256 + q2 * 65536 + q3 * 16777216 + q4 * 4294967296 + q5 * 1099511627776 + q6 * 281474976710656 + q7 * 72057594037927936 := by
  have s0 := h3 7 x
  have s1 := h3 6 (x / 256)
  have s2 := h3 5 (x / 256 / 256)
  have s3 := h3 4 (x / 256 / 256 / 256)
  have s4 := h3 3 (x / 256 / 256 / 256 / 256)
  have s5 := h3 2 (x / 256 / 256 / 256 / 256 / 256)
  have s6 := h3 1 (x / 256 / 256 / 256 / 256 / 256 / 256)
  have s7 := h3 0 (x / 256 / 256 / 256 / 256 / 256 / 256 / 256)
  refine ⟨P (x), P (x / 256), P (x / 256 / 256), P (x / 256 / 256 / 256), P (x / 256 / 256 / 256 / 256), P (x / 256 / 256 / 256 / 256 / 256), P (x / 256 / 256 / 256 / 256 / 256 / 256), P (x / 256 / 256 / 256 / 256 / 256 / 256 / 256), ⟨h2 x, h2 _, h2 _, h2 _⟩, ⟨h2 _, h2 _, h2 _, h2 _⟩, ?_, ?_⟩
  rotate_left
  · rw [s0, s1, s2, s3, s4, s5, s6, s7, h4]
    generalize P (x / 256 / 256 / 256 / 256 / 256 / 256 / 256) = a7
    generalize P (x / 256 / 256 / 256 / 256 / 256 / 256) = a6
    generalize P (x / 256 / 256 / 256 / 256 / 256) = a5
    generalize P (x / 256 / 256 / 256 / 256) = a4
    generalize P (x / 256 / 256 / 256) = a3
    generalize P (x / 256 / 256) = a2
    generalize P (x / 256) = a1
    generalize P x = a0
    clear s0 s1 s2 s3 s4 s5 s6 s7 h1 h2 h3 h4
    omega
  · simp only [Nat.add_assoc]
theorem pop_bytes (x : Nat) : pop 64 x = pop 8 x + (pop 8 (x / 256) + (pop 8 (x / 256 / 256) + (pop 8 (x / 256 / 256 / 256) + (pop 8 (x / 256 / 256 / 256 / 256) + (pop 8 (x / 256 / 256 / 256 / 256 / 256) + (pop 8 (x / 256 / 256 / 256 / 256 / 256 / 256) + pop 8 (x / 256 / 256 / 256 / 256 / 256 / 256 / 256))))))) := by
  rw [pop_add 8 56, pop_add 8 48, pop_add 8 40, pop_add 8 32, pop_add 8 24, pop_add 8 16, pop_add 8 8]
theorem g_eight (x : Nat) : ∃ q0 q1 q2 q3 q4 q5 q6 q7 : Nat, (q0 ≤ 8 ∧ q1 ≤ 8 ∧ q2 ≤ 8 ∧ q3 ≤ 8) ∧ (q4 ≤ 8 ∧ q5 ≤ 8 ∧ q6 ≤ 8 ∧ q7 ≤ 8) ∧ pop 64 x = q0 + q1 + q2 + q3 + q4 + q5 + q6 + q7 ∧
    g 8 x = q0 + q1 * 256 + q2 * 65536 + q3 * 16777216 + q4 * 4294967296 + q5 * 1099511627776 + q6 * 281474976710656 + q7 * 72057594037927936 := by
  have hm : ∀ y, pop 8 (y % 256) = pop 8 y := fun y => pop_mod 8 y
  have h := eight_of (pop 8) g hm (fun y => by rw [← hm y]; exact pop8_le ⟨y % 256, Nat.mod_lt _ (by omega)⟩)
    (fun k y => by
      have := g_step k (y / 256) (y % 256) (Nat.mod_lt _ (by omega))
      rw [show y / 256 * 256 + y % 256 = y by omega, hm y] at this
      exact this) (fun y => by simp [g, f3, msk]) x
  rw [← pop_bytes x] at h
  exact h
/-- the last three steps -/
theorem div_of (m q R : Nat) (h : q < m) : (q + m * R) / m = R := by
  rw [Nat.add_mul_div_left _ _ (by omega), Nat.div_eq_of_lt h, Nat.zero_add]
theorem div_eq (m q R y : Nat) (hy : y = q + m * R) (h : q < m) : y / m = R := by subst hy; exact div_of m q R h
theorem lin1 (y q0 q1 q2 q3 r2 r3 r4 : Nat) (hr3 : r3 = q3 + 256 * r4) (hr2 : r2 = q2 + 256 * r3) (hy : y = q0 + 256 * (q1 + 256 * r2)) : y + (q1 + 256 * r2) = (q0 + q1 + 256 * (q1 + q2)) + 65536 * (r2 + r3) := by omega
theorem lin2 (q0 q1 q2 q3 q4 q5 q6 q7 r2 r3 r4 r5 r6 : Nat) (hr6 : r6 = q6 + 256 * q7) (hr5 : r5 = q5 + 256 * r6) (hr4 : r4 = q4 + 256 * r5) (hr3 : r3 = q3 + 256 * r4) (hr2 : r2 = q2 + 256 * r3) : (q0 + q1 + 256 * (q1 + q2)) + 65536 * (r2 + r3) + (r2 + r3) = (q0 + q1 + q2 + q3 + 256 * (q1 + q2 + q3 + q4) + 65536 * (q2 + q3 + q4 + q5) + 16777216 * (q3 + q4 + q5 + q6)) + 4294967296 * (r4 + r5 + r6 + q7) := by omega
theorem lin3 (q0 q1 q2 q3 q4 q5 q6 q7 r4 r5 r6 : Nat) (hr6 : r6 = q6 + 256 * q7) (hr5 : r5 = q5 + 256 * r6) (hr4 : r4 = q4 + 256 * r5) : (q0 + q1 + q2 + q3 + 256 * (q1 + q2 + q3 + q4) + 65536 * (q2 + q3 + q4 + q5) + 16777216 * (q3 + q4 + q5 + q6)) + 4294967296 * (r4 + r5 + r6 + q7) + (r4 + r5 + r6 + q7) = (q0 + q1 + q2 + q3 + q4 + q5 + q6 + q7) + 128 * (2 * ((q1 + q2 + q3 + q4 + q5 + q6 + q7) + 256 * (q2 + q3 + q4 + q5 + q6 + q7) + 65536 * (q3 + q4 + q5 + q6 + q7)) + 33554432 * (r4 + r5 + r6 + q7)) := by omega
theorem lin4 (q0 q1 q2 q3 q4 q5 q6 q7 r4 r5 r6 : Nat) (h : q0 ≤ 8 ∧ q1 ≤ 8 ∧ q2 ≤ 8 ∧ q3 ≤ 8) (h' : q4 ≤ 8 ∧ q5 ≤ 8 ∧ q6 ≤ 8 ∧ q7 ≤ 8) (hr6 : r6 = q6 + 256 * q7) (hr5 : r5 = q5 + 256 * r6) (hr4 : r4 = q4 + 256 * r5) : 2 * ((q1 + q2 + q3 + q4 + q5 + q6 + q7) + 256 * (q2 + q3 + q4 + q5 + q6 + q7) + 65536 * (q3 + q4 + q5 + q6 + q7)) + 33554432 * (r4 + r5 + r6 + q7) < 72057594037927936 := by omega
/-- what the three last steps make of eight bytes -/
theorem sum_lin (q0 q1 q2 q3 q4 q5 q6 q7 y : Nat) (h : q0 ≤ 8 ∧ q1 ≤ 8 ∧ q2 ≤ 8 ∧ q3 ≤ 8) (h' : q4 ≤ 8 ∧ q5 ≤ 8 ∧ q6 ≤ 8 ∧ q7 ≤ 8)
    (r2 r3 r4 r5 r6 : Nat) (hr6 : r6 = q6 + 256 * q7) (hr5 : r5 = q5 + 256 * r6) (hr4 : r4 = q4 + 256 * r5) (hr3 : r3 = q3 + 256 * r4) (hr2 : r2 = q2 + 256 * r3) (hy : y = q0 + 256 * (q1 + 256 * r2)) :
    ∃ a b c d : Nat, a = y + y / 256 ∧ b = a + a / 65536 ∧ c = b + b / 4294967296 ∧ c = (q0 + q1 + q2 + q3 + q4 + q5 + q6 + q7) + 128 * d ∧ d < 72057594037927936 := by
  have e1 : y / 256 = q1 + 256 * r2 := div_eq 256 q0 (q1 + 256 * r2) y hy (by omega)
  obtain ⟨a, ha⟩ : ∃ a, a = y + y / 256 := ⟨_, rfl⟩
  have e2 : a = (q0 + q1 + 256 * (q1 + q2)) + 65536 * (r2 + r3) := by rw [ha, e1]; exact lin1 y q0 q1 q2 q3 r2 r3 r4 hr3 hr2 hy
  have e3 : a / 65536 = r2 + r3 := div_eq 65536 _ (r2 + r3) a e2 (by omega)
  obtain ⟨b, hb⟩ : ∃ b, b = a + a / 65536 := ⟨_, rfl⟩
  have e4 : b = (q0 + q1 + q2 + q3 + 256 * (q1 + q2 + q3 + q4) + 65536 * (q2 + q3 + q4 + q5) + 16777216 * (q3 + q4 + q5 + q6)) + 4294967296 * (r4 + r5 + r6 + q7) := by
    rw [hb, e3, e2]; exact lin2 q0 q1 q2 q3 q4 q5 q6 q7 r2 r3 r4 r5 r6 hr6 hr5 hr4 hr3 hr2
  have e5 : b / 4294967296 = r4 + r5 + r6 + q7 := div_eq 4294967296 _ (r4 + r5 + r6 + q7) b e4 (by omega)
  refine ⟨a, b, b + b / 4294967296, 2 * ((q1 + q2 + q3 + q4 + q5 + q6 + q7) + 256 * (q2 + q3 + q4 + q5 + q6 + q7) + 65536 * (q3 + q4 + q5 + q6 + q7)) + 33554432 * (r4 + r5 + r6 + q7), ha, hb, rfl, ?_, ?_⟩
  · rw [e5, e4]; exact lin3 q0 q1 q2 q3 q4 q5 q6 q7 r4 r5 r6 hr6 hr5 hr4
  · exact lin4 q0 q1 q2 q3 q4 q5 q6 q7 r4 r5 r6 h h' hr6 hr5 hr4
theorem sum_of (y pp : Nat) (hq : ∃ q0 q1 q2 q3 q4 q5 q6 q7 : Nat, (q0 ≤ 8 ∧ q1 ≤ 8 ∧ q2 ≤ 8 ∧ q3 ≤ 8) ∧ (q4 ≤ 8 ∧ q5 ≤ 8 ∧ q6 ≤ 8 ∧ q7 ≤ 8) ∧ pp = q0 + q1 + q2 + q3 + q4 + q5 + q6 + q7 ∧
    y = q0 + q1 * 256 + q2 * 65536 + q3 * 16777216 + q4 * 4294967296 + q5 * 1099511627776 + q6 * 281474976710656 + q7 * 72057594037927936) :
    ∃ a b c : Nat, a = y + y / 256 ∧ b = a + a / 65536 ∧ c = b + b / 4294967296 ∧ c % 128 = pp ∧ c < 9223372036854775808 := by
  obtain ⟨q0, q1, q2, q3, q4, q5, q6, q7, h1, h2, hp, hg⟩ := hq
  obtain ⟨r6, hr6⟩ : ∃ r, r = q6 + 256 * q7 := ⟨_, rfl⟩
  obtain ⟨r5, hr5⟩ : ∃ r, r = q5 + 256 * r6 := ⟨_, rfl⟩
  obtain ⟨r4, hr4⟩ : ∃ r, r = q4 + 256 * r5 := ⟨_, rfl⟩
  obtain ⟨r3, hr3⟩ : ∃ r, r = q3 + 256 * r4 := ⟨_, rfl⟩
  obtain ⟨r2, hr2⟩ : ∃ r, r = q2 + 256 * r3 := ⟨_, rfl⟩
  obtain ⟨a, b, c, d, ha, hb, hc, e, hd⟩ := sum_lin q0 q1 q2 q3 q4 q5 q6 q7 y h1 h2 r2 r3 r4 r5 r6 hr6 hr5 hr4 hr3 hr2 (by omega)
  refine ⟨a, b, c, ha, hb, hc, ?_, ?_⟩
  · clear ha hb hc hg hr2 hr3 hr4 hr5 hr6; omega
  · clear hg ha hb hc hp hr2 hr3 hr4 hr5 hr6; omega
theorem sum_eight (x : Nat) : ∃ a b c : Nat, a = g 8 x + g 8 x / 256 ∧ b = a + a / 65536 ∧ c = b + b / 4294967296 ∧ c % 128 = pop 64 x ∧ c < 9223372036854775808 := sum_of (g 8 x) (pop 64 x) (g_eight x)
end B
end Go.Proofs.Ytkipcdjadmocaaa
