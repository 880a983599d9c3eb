import Derived.Test.YtfkoacjfihaajaaMf1
set_option linter.unusedVariables false
set_option linter.unusedSimpArgs false
namespace Go.Proofs.Ytfkoacjfihaajaa
namespace Fl
theorem d_inf : Ieee.double.infRung = 9218868437227405312 := by decide
theorem d_least : Ieee.double.leastPlace = -1074 := by decide
theorem d_frac : Ieee.double.fractionBits = 52 := rfl
theorem d_bin : (2 : Nat) ^ 52 = 4503599627370496 := by decide
theorem d_bin1 : (2 : Nat) ^ 53 = 9007199254740992 := by decide
/-- a number with its sign -/
def sg (s : Bool) (n : Nat) : Int := if s then -(n : Int) else n
theorem sg_abs (s : Bool) (n : Nat) : (sg s n).natAbs = n := by cases s <;> simp [sg]
theorem signed_eq (s : Bool) (m k : Nat) : Ieee.signed s m k = sg s (m * 2 ^ k) := by
  unfold Ieee.signed sg; rw [Nat.shiftLeft_eq]
theorem sg_mul (s : Bool) (m k : Nat) : sg s (m * k) = sg s m * (k : Int) := by
  cases s
  · simp [sg]
  · simp [sg, Int.neg_mul]
/-- a word that is a number: its value, in units of 2^-1074 -/
structure Fin (x : Nat) (v : Int) : Prop where
  ex : ∃ s r, x = Ieee.double.word s r ∧ r < 9218868437227405312 ∧ v = sg s (V 52 r)
theorem Fin.read {x : Nat} {v : Int} (h : Fin x v) : ∃ s m e, Ieee.double.read x = .number s m (-1074 + (e : Nat)) ∧ v = sg s (m * 2 ^ e) ∧ m < 9007199254740992 := by
  obtain ⟨s, r, rfl, hr, rfl⟩ := h.ex
  obtain ⟨m, e, h1, h2, h3⟩ := read_word Ieee.double s (r := r) (by rw [d_inf]; exact hr)
  rw [d_least] at h1
  exact ⟨s, m, e, h1, by rw [h2]; rfl, h3⟩
theorem fin_mk {s : Bool} {r : Nat} (h : r < 9218868437227405312) : Fin (Ieee.double.word s r) (sg s (V 52 r)) := ⟨s, r, rfl, h, rfl⟩
/-- a value that a float has -/
def Rep (n : Nat) : Prop := ∃ r, r < 9218868437227405312 ∧ V 52 r = n
theorem rep_mk {c L : Nat} (hc : c < 9007199254740992) (hL : L ≤ 2045) : Rep (c * 2 ^ L) := by
  refine ⟨rn 52 0 (c * 2 ^ L), ?_, ?_⟩
  · rcases Nat.eq_zero_or_pos c with e | e
    · subst e; rw [Nat.zero_mul, rn_zero]; omega
    · have hl : c.log2 ≤ 52 := by
        have := (Nat.log2_lt (by omega : c ≠ 0) (k := 53)).2 hc
        omega
      have ht : (c * 2 ^ L).log2 - 52 - 0 ≤ L := by rw [log2_mul L (by omega)]; omega
      unfold rn
      obtain ⟨t, he⟩ : ∃ t, t = (c * 2 ^ L).log2 - 52 - 0 := ⟨_, rfl⟩
      rw [← he] at ht ⊢
      obtain ⟨k, hk⟩ : ∃ k, L = k + t := ⟨L - t, by omega⟩
      rw [Nat.add_zero, hk, Nat.pow_add, ← Nat.mul_assoc, cut_mul]
      have hlt : c * 2 ^ k < 2 ^ 53 := by
        have h0 := Nat.lt_log2_self (n := c * 2 ^ L)
        rw [hk, Nat.pow_add, ← Nat.mul_assoc] at h0
        have h1 : (c * 2 ^ k * 2 ^ t).log2 + 1 ≤ 53 + t := by
          rw [hk, Nat.pow_add, ← Nat.mul_assoc] at he
          omega
        have h2 := Nat.lt_of_lt_of_le h0 (Nat.pow_le_pow_right (by omega : 0 < 2) h1)
        rw [Nat.pow_add] at h2
        exact Nat.lt_of_mul_lt_mul_right h2
      rw [d_bin1] at hlt
      rw [d_bin]
      have : t * 4503599627370496 ≤ 2045 * 4503599627370496 := Nat.mul_le_mul_right _ (by omega)
      omega
  · have := V_rn 52 0 (c * 2 ^ L)
    rw [Nat.pow_zero, Nat.mul_one] at this
    rw [this]
    rcases Nat.eq_zero_or_pos c with e | e
    · subst e; rw [Nat.zero_mul, cut_zero_n, Nat.zero_mul]
    · have hl : c.log2 ≤ 52 := by
        have := (Nat.log2_lt (by omega : c ≠ 0) (k := 53)).2 hc
        omega
      have ht : (c * 2 ^ L).log2 - 52 - 0 ≤ L := by rw [log2_mul L (by omega)]; omega
      generalize (c * 2 ^ L).log2 - 52 - 0 = t at *
      obtain ⟨k, hk⟩ : ∃ k, L = k + t := ⟨L - t, by omega⟩
      rw [Nat.add_zero, hk, Nat.pow_add, ← Nat.mul_assoc, cut_mul]
theorem rep_rung {r : Nat} (h : r < 9218868437227405312) : Rep (V 52 r) := ⟨r, h, rfl⟩
theorem Fin.rep {x : Nat} {v : Int} (h : Fin x v) : Rep v.natAbs := by
  obtain ⟨s, r, rfl, hr, rfl⟩ := h.ex
  rw [sg_abs]; exact ⟨r, hr, rfl⟩
/-- what is written of a number whose value a float has -/
theorem word_rep {n : Nat} (h : Rep n) (D : Nat) (s : Bool) : Fin (Ieee.double.word s (min (rn 52 D (n * 2 ^ D)) 9218868437227405312)) (sg s n) := by
  obtain ⟨r, hr, rfl⟩ := h
  rw [rn_V, Nat.min_eq_left (by omega)]
  exact fin_mk hr
theorem sg_of {z : Int} {s : Bool} (h1 : z < 0 → s = true) (h2 : 0 < z → s = false) : sg s z.natAbs = z := by
  unfold sg
  cases s
  · have : ¬ z < 0 := fun q => by have := h1 q; cases this
    simp; omega
  · have : ¬ 0 < z := fun q => by have := h2 q; cases this
    simp; omega
theorem sum_fin {s t : Bool} {m n e f : Nat} : ∃ g : Bool, ∃ k b : Nat, Ieee.Datum.sum (.number s m (-1074 + (e : Nat))) (.number t n (-1074 + (f : Nat))) = some (.number g k (-1074 + (b : Nat))) ∧ k * 2 ^ b = (sg s (m * 2 ^ e) + sg t (n * 2 ^ f)).natAbs ∧ (sg s (m * 2 ^ e) + sg t (n * 2 ^ f) < 0 → g = true) ∧ (0 < sg s (m * 2 ^ e) + sg t (n * 2 ^ f) → g = false) := by
  obtain ⟨b, hb⟩ : ∃ b, b = min e f := ⟨_, rfl⟩
  have e1 : sg s (m * 2 ^ e) = sg s (m * 2 ^ (e - b)) * (2 ^ b : Nat) := by rw [← sg_mul, Nat.mul_assoc, ← Nat.pow_add, show e - b + b = e by omega]
  have e2 : sg t (n * 2 ^ f) = sg t (n * 2 ^ (f - b)) * (2 ^ b : Nat) := by rw [← sg_mul, Nat.mul_assoc, ← Nat.pow_add, show f - b + b = f by omega]
  have hp : 0 < 2 ^ b := Nat.two_pow_pos b
  unfold Ieee.Datum.sum
  simp only [signed_eq]
  rw [show min ((-1074 : Int) + (e : Nat)) (-1074 + (f : Nat)) = -1074 + (b : Nat) by omega, show ((-1074 : Int) + (e : Nat) - (-1074 + (b : Nat))).toNat = e - b by omega, show ((-1074 : Int) + (f : Nat) - (-1074 + (b : Nat))).toNat = f - b by omega]
  refine ⟨_, _, b, rfl, ?_, ?_, ?_⟩
  · rw [e1, e2, ← Int.add_mul, Int.natAbs_mul, Int.natAbs_natCast]
  · intro h
    rw [e1, e2, ← Int.add_mul] at h
    generalize sg s (m * 2 ^ (e - b)) + sg t (n * 2 ^ (f - b)) = tot at *
    have : tot < 0 := by
      rcases Int.lt_or_le tot 0 with q | q
      · exact q
      · have := Int.mul_nonneg q (show (0 : Int) ≤ ((2 ^ b : Nat) : Int) by omega); omega
    rw [if_neg (by omega)]; simpa using this
  · intro h
    rw [e1, e2, ← Int.add_mul] at h
    generalize sg s (m * 2 ^ (e - b)) + sg t (n * 2 ^ (f - b)) = tot at *
    have : 0 < tot := by
      rcases Int.lt_or_le 0 tot with q | q
      · exact q
      · have := Int.mul_nonneg (show (0 : Int) ≤ -tot by omega) (show (0 : Int) ≤ ((2 ^ b : Nat) : Int) by omega)
        rw [Int.neg_mul] at this; omega
    rw [if_neg (by omega)]; simp; omega
/-- a sum, rounded -/
theorem add_rn {x y : Nat} {v u : Int} (hx : Fin x v) (hy : Fin y u) : ∃ g : Bool, Ieee.double.add x y = some (Ieee.double.word g (min (rn 52 0 (v + u).natAbs) 9218868437227405312)) ∧ (v + u < 0 → g = true) ∧ (0 < v + u → g = false) := by
  obtain ⟨s, m, e, rx, rfl, _⟩ := hx.read
  obtain ⟨t, n, f, ry, rfl, _⟩ := hy.read
  obtain ⟨g, k, b, hs, hk, h1, h2⟩ := sum_fin (s := s) (t := t) (m := m) (n := n) (e := e) (f := f)
  refine ⟨g, ?_, h1, h2⟩
  unfold Ieee.Format.add
  rw [rx, ry, hs, Option.map_some]
  show some (Ieee.double.nearest g k (-1074 + (b : Nat))) = _
  rw [nearest_units Ieee.double g k b _ (-1074) 0 rfl (by rw [d_least]; rfl), hk, d_inf, d_frac]
theorem Fin.neg_read {y : Nat} {u : Int} (h : Fin y u) : ∃ t n f, (Ieee.double.read y).opposite = .number t n (-1074 + (f : Nat)) ∧ -u = sg t (n * 2 ^ f) ∧ n < 9007199254740992 := by
  obtain ⟨t, n, f, ry, rfl, hn⟩ := h.read
  refine ⟨!t, n, f, by rw [ry]; rfl, ?_, hn⟩
  cases t <;> simp [sg]
theorem sub_rn {x y : Nat} {v u : Int} (hx : Fin x v) (hy : Fin y u) : ∃ g : Bool, Ieee.double.sub x y = some (Ieee.double.word g (min (rn 52 0 (v - u).natAbs) 9218868437227405312)) ∧ (v - u < 0 → g = true) ∧ (0 < v - u → g = false) := by
  obtain ⟨s, m, e, rx, rfl, _⟩ := hx.read
  obtain ⟨t, n, f, ry, hu, _⟩ := hy.neg_read
  obtain ⟨g, k, b, hs, hk, h1, h2⟩ := sum_fin (s := s) (t := t) (m := m) (n := n) (e := e) (f := f)
  rw [← hu, ← Int.sub_eq_add_neg] at hk h1 h2
  refine ⟨g, ?_, h1, h2⟩
  unfold Ieee.Format.sub
  rw [rx, ry, hs, Option.map_some]
  show some (Ieee.double.nearest g k (-1074 + (b : Nat))) = _
  rw [nearest_units Ieee.double g k b _ (-1074) 0 rfl (by rw [d_least]; rfl), hk, d_inf, d_frac]
theorem add_ex {x y : Nat} {v u : Int} (hx : Fin x v) (hy : Fin y u) (h : Rep (v + u).natAbs) : ∃ r, Ieee.double.add x y = some r ∧ Fin r (v + u) := by
  obtain ⟨g, e, h1, h2⟩ := add_rn hx hy
  refine ⟨_, e, ?_⟩
  have := word_rep h 0 g
  rw [Nat.pow_zero, Nat.mul_one, sg_of h1 h2] at this
  exact this
theorem sub_ex {x y : Nat} {v u : Int} (hx : Fin x v) (hy : Fin y u) (h : Rep (v - u).natAbs) : ∃ r, Ieee.double.sub x y = some r ∧ Fin r (v - u) := by
  obtain ⟨g, e, h1, h2⟩ := sub_rn hx hy
  refine ⟨_, e, ?_⟩
  have := word_rep h 0 g
  rw [Nat.pow_zero, Nat.mul_one, sg_of h1 h2] at this
  exact this
/-- the unit: 1.0 -/
def Q : Nat := 2 ^ 1074
theorem Q_def {e : Nat} (h : e = 1074) : Q = 2 ^ e := by unfold Q; exact congrArg _ h.symm
theorem Q_split {a b : Nat} (h : a + b = 1074) : Q = 2 ^ a * 2 ^ b := by rw [← Nat.pow_add]; exact Q_def h
theorem Q_pos : 0 < Q := by
  obtain ⟨e, he⟩ : ∃ e : Nat, e = 1074 := ⟨_, rfl⟩
  rw [Q_def he]; exact Nat.two_pow_pos e
theorem sg_xor (s t : Bool) (a b : Nat) : sg (s ^^ t) (a * b) = sg s a * sg t b := by
  cases s <;> cases t <;> simp [sg, Int.neg_mul, Int.mul_neg]
theorem mul_ex {x y : Nat} {v u z : Int} (hx : Fin x v) (hy : Fin y u) (hz : v * u = z * (Q : Int)) (h : Rep z.natAbs) (h0 : z ≠ 0) : ∃ r, Ieee.double.mul x y = some r ∧ Fin r z := by
  obtain ⟨s, m, e, rx, rfl, _⟩ := hx.read
  obtain ⟨t, n, f, ry, rfl, _⟩ := hy.read
  unfold Ieee.Format.mul
  rw [rx, ry]
  unfold Ieee.Datum.product
  simp only [Option.map_some]
  refine ⟨_, rfl, ?_⟩
  show Fin (Ieee.double.nearest (s ^^ t) (m * n) _) z
  obtain ⟨D, hD⟩ : ∃ D : Nat, D = 1074 := ⟨_, rfl⟩
  rw [nearest_units Ieee.double (s ^^ t) (m * n) (e + f) _ (-1074 - (D : Int)) D (by omega) (by rw [d_least]; omega), d_inf, d_frac]
  rw [← sg_xor] at hz
  have e1 : m * 2 ^ e * (n * 2 ^ f) = m * n * 2 ^ (e + f) := by rw [Nat.pow_add]; ac_rfl
  rw [e1] at hz
  have e2 : m * n * 2 ^ (e + f) = z.natAbs * 2 ^ D := by
    have := congrArg Int.natAbs hz
    rw [sg_abs, Int.natAbs_mul, Int.natAbs_natCast, Q_def hD] at this
    exact this
  have e3 : sg (s ^^ t) z.natAbs = z := by
    have h1 : sg (s ^^ t) z.natAbs * (Q : Int) = z * (Q : Int) := by rw [← hz, ← sg_mul, e2, Q_def hD]
    exact Int.eq_of_mul_eq_mul_right (by have := Q_pos; omega) h1
  rw [e2]
  have := word_rep h D (s ^^ t)
  rw [e3] at this
  exact this
theorem order_fin {x y : Nat} {v u : Int} (hx : Fin x v) (hy : Fin y u) : Ieee.double.order x y = some (compare v u) := by
  obtain ⟨s, m, e, rx, rfl, _⟩ := hx.read
  obtain ⟨t, n, f, ry, rfl, _⟩ := hy.read
  obtain ⟨b, hb⟩ : ∃ b, b = min e f := ⟨_, rfl⟩
  have e1 : sg s (m * 2 ^ e) = sg s (m * 2 ^ (e - b)) * (2 ^ b : Nat) := by rw [← sg_mul, Nat.mul_assoc, ← Nat.pow_add, show e - b + b = e by omega]
  have e2 : sg t (n * 2 ^ f) = sg t (n * 2 ^ (f - b)) * (2 ^ b : Nat) := by rw [← sg_mul, Nat.mul_assoc, ← Nat.pow_add, show f - b + b = f by omega]
  have hp : 0 < 2 ^ b := Nat.two_pow_pos b
  unfold Ieee.Format.order
  rw [rx, ry]
  unfold Ieee.Datum.order
  simp only [signed_eq]
  rw [show min ((-1074 : Int) + (e : Nat)) (-1074 + (f : Nat)) = -1074 + (b : Nat) by omega, show ((-1074 : Int) + (e : Nat) - (-1074 + (b : Nat))).toNat = e - b by omega, show ((-1074 : Int) + (f : Nat) - (-1074 + (b : Nat))).toNat = f - b by omega, e1, e2]
  generalize sg s (m * 2 ^ (e - b)) = A
  generalize sg t (n * 2 ^ (f - b)) = C
  have hp' : (0 : Int) < ((2 ^ b : Nat) : Int) := by omega
  generalize ((2 ^ b : Nat) : Int) = P at *
  congr 1
  rcases Int.lt_trichotomy A C with k | k | k
  · rw [Int.compare_eq_lt.2 k, Int.compare_eq_lt.2 (Int.mul_lt_mul_of_pos_right k hp')]
  · subst k; rw [Int.compare_eq_eq.2 rfl, Int.compare_eq_eq.2 rfl]
  · rw [Int.compare_eq_gt.2 k, Int.compare_eq_gt.2 (Int.mul_lt_mul_of_pos_right k hp')]
/-- a whole number as a float -/
theorem int_fin {n : Int} (h : n.natAbs < 9007199254740992) : Fin (FloatKind.f64.nearest n) (n * (Q : Int)) := by
  unfold FloatKind.nearest FloatKind.encode
  show Fin (Ieee.double.nearest (decide (n < 0)) n.natAbs 0) _
  obtain ⟨D, hD⟩ : ∃ D : Nat, D = 1074 := ⟨_, rfl⟩
  rw [nearest_units Ieee.double _ n.natAbs D 0 (-1074) 0 (by omega) (by rw [d_least]; rfl), d_inf, d_frac]
  have := word_rep (rep_mk (c := n.natAbs) (L := D) h (by omega)) 0 (decide (n < 0))
  rw [Nat.pow_zero, Nat.mul_one] at this
  have e : sg (decide (n < 0)) (n.natAbs * 2 ^ D) = n * (Q : Int) := by
    rw [sg_mul, Q_def hD, sg_of]
    · intro q; simpa using q
    · intro q; simp; omega
  rw [← e]; exact this
theorem int_fin_nat {n : Nat} (h : n < 9007199254740992) : Fin (FloatKind.f64.nearest (n : Int)) ((n : Int) * (Q : Int)) := int_fin (by simpa using h)
/-- a quotient that a float has -/
theorem div_ex {x y : Nat} {v u z : Int} (hx : Fin x v) (hy : Fin y u) (hz : v * (Q : Int) = z * u) (h : Rep z.natAbs) (h0 : z ≠ 0) (hu : u ≠ 0) : ∃ r, Ieee.double.div x y = some r ∧ Fin r z := by
  obtain ⟨s, m, e, rx, rfl, _⟩ := hx.read
  obtain ⟨t, n, f, ry, rfl, _⟩ := hy.read
  obtain ⟨rz, hrz, hV⟩ := h
  have hn0 : n ≠ 0 := by intro q; subst q; exact hu (by cases t <;> simp [sg])
  have hm0 : m ≠ 0 := by
    intro q; subst q
    rw [Nat.zero_mul, show sg s 0 = 0 by cases s <;> rfl, Int.zero_mul] at hz
    rcases Int.mul_eq_zero.1 hz.symm with q | q
    · exact h0 q
    · exact hu q
  unfold Ieee.Format.div
  rw [rx, ry]
  unfold Ieee.Datum.quotient
  simp only
  rw [if_neg hn0, Option.map_some]
  obtain ⟨more, hmore⟩ : ∃ k, k = Ieee.double.fractionBits + 2 + n.log2 - m.log2 := ⟨_, rfl⟩
  rw [← hmore]
  -- the value, as a mantissa on a step
  obtain ⟨c, L, hc, hcL⟩ : ∃ c L, c < 9007199254740992 ∧ z.natAbs = c * 2 ^ L := by
    rw [← hV]
    rcases parts 52 rz with q | ⟨L, c, rfl, q1, q2⟩
    · exact ⟨rz, 0, by rw [d_bin] at q; omega, by rw [V_low q]; simp⟩
    · exact ⟨c, L, q2, V_mk 52 L c q1 (by omega)⟩
  obtain ⟨D, hD⟩ : ∃ D : Nat, D = 1074 := ⟨_, rfl⟩
  have key : m * 2 ^ (e + D) = c * n * 2 ^ (L + f) := by
    have := congrArg Int.natAbs hz
    rw [Int.natAbs_mul, Int.natAbs_mul, sg_abs, sg_abs, Int.natAbs_natCast, hcL, Q_def hD] at this
    rw [Nat.pow_add, Nat.pow_add, ← Nat.mul_assoc, this]; ac_rfl
  have hbig : n * 9007199254740992 < m * 2 ^ more := by
    have a1 := Nat.log2_self_le hm0
    have a2 := Nat.lt_log2_self (n := n)
    have a3 : 2 ^ (n.log2 + 1 + 53) ≤ 2 ^ (m.log2 + more) := Nat.pow_le_pow_right (by omega) (by rw [hmore, d_frac]; omega)
    have a4 : 2 ^ m.log2 * 2 ^ more ≤ m * 2 ^ more := Nat.mul_le_mul_right _ a1
    rw [← Nat.pow_add] at a4
    have a5 : n * 2 ^ 53 < 2 ^ (n.log2 + 1) * 2 ^ 53 := Nat.mul_lt_mul_of_pos_right a2 (by decide)
    rw [← Nat.pow_add, d_bin1] at a5
    omega
  obtain ⟨E, hE⟩ : ∃ E, L + f + more = e + D + E := by
    rcases Nat.lt_or_ge (L + f + more) (e + D) with q | q
    · exfalso
      obtain ⟨d, hd⟩ : ∃ d, e + D = L + f + more + d := ⟨e + D - (L + f + more), by omega⟩
      have h1 : m * 2 ^ more * 2 ^ d * 2 ^ (L + f) = c * n * 2 ^ (L + f) := by
        rw [← key, hd, Nat.mul_assoc, Nat.mul_assoc, ← Nat.pow_add, ← Nat.pow_add]
        congr 2; omega
      have h2 := Nat.eq_of_mul_eq_mul_right (Nat.two_pow_pos _) h1
      have h3 : m * 2 ^ more ≤ m * 2 ^ more * 2 ^ d := Nat.le_mul_of_pos_right _ (Nat.two_pow_pos _)
      have h4 : c * n ≤ n * 9007199254740992 := by rw [Nat.mul_comm n]; exact Nat.mul_le_mul_right _ (by omega)
      omega
    · exact ⟨L + f + more - (e + D), by omega⟩
  have hdv : m <<< more = c * 2 ^ E * n := by
    rw [Nat.shiftLeft_eq]
    have h1 : m * 2 ^ more * 2 ^ (e + D) = c * 2 ^ E * n * 2 ^ (e + D) := by
      calc m * 2 ^ more * 2 ^ (e + D) = m * 2 ^ (e + D) * 2 ^ more := by ac_rfl
        _ = c * n * 2 ^ (L + f + more) := by rw [key, Nat.mul_assoc, ← Nat.pow_add]
        _ = c * n * (2 ^ (e + D) * 2 ^ E) := by rw [hE, Nat.pow_add]
        _ = _ := by ac_rfl
    exact Nat.eq_of_mul_eq_mul_right (Nat.two_pow_pos _) h1
  rw [hdv, Nat.mul_div_cancel _ (Nat.pos_of_ne_zero hn0), Nat.mul_mod_left]
  refine ⟨_, rfl, ?_⟩
  show Fin (Ieee.double.nearest (s ^^ t) (2 * (c * 2 ^ E) + 0) _) z
  have hsgn : sg (s ^^ t) z.natAbs = z := by
    apply sg_of
    · intro q
      have h1 : sg s (m * 2 ^ e) * (Q : Int) = z * sg t (n * 2 ^ f) := hz
      have p1 : 0 < m * 2 ^ e * Q := Nat.mul_pos (Nat.mul_pos (Nat.pos_of_ne_zero hm0) (Nat.two_pow_pos _)) Q_pos
      have p2 : 0 < n * 2 ^ f := Nat.mul_pos (Nat.pos_of_ne_zero hn0) (Nat.two_pow_pos _)
      rw [← sg_mul] at h1
      generalize m * 2 ^ e * Q = A at *
      generalize n * 2 ^ f = B at *
      cases s <;> cases t
      · simp [sg] at h1 ⊢
        have := Int.mul_pos (show (0 : Int) < -z by omega) (show (0 : Int) < (B : Int) by omega)
        rw [Int.neg_mul] at this; omega
      · rfl
      · rfl
      · simp [sg, Int.mul_neg] at h1 ⊢
        have := Int.mul_pos (show (0 : Int) < -z by omega) (show (0 : Int) < (B : Int) by omega)
        rw [Int.neg_mul] at this; omega
    · intro q
      have h1 : sg s (m * 2 ^ e) * (Q : Int) = z * sg t (n * 2 ^ f) := hz
      have p1 : 0 < m * 2 ^ e * Q := Nat.mul_pos (Nat.mul_pos (Nat.pos_of_ne_zero hm0) (Nat.two_pow_pos _)) Q_pos
      have p2 : 0 < n * 2 ^ f := Nat.mul_pos (Nat.pos_of_ne_zero hn0) (Nat.two_pow_pos _)
      rw [← sg_mul] at h1
      generalize m * 2 ^ e * Q = A at *
      generalize n * 2 ^ f = B at *
      have := Int.mul_pos q (show (0 : Int) < (B : Int) by omega)
      cases s <;> cases t
      · rfl
      · simp [sg, Int.mul_neg] at h1 ⊢; omega
      · simp [sg, Int.mul_neg] at h1 ⊢; omega
      · rfl
  rw [Nat.add_zero, show 2 * (c * 2 ^ E) = c * 2 ^ (E + 1) by rw [Nat.pow_succ]; ac_rfl, nearest_shift]
  rw [nearest_units Ieee.double (s ^^ t) c L _ (-1074) 0 (by omega) (by rw [d_least]; rfl), d_inf, d_frac, ← hcL]
  have := word_rep ⟨rz, hrz, hV⟩ 0 (s ^^ t)
  rw [Nat.pow_zero, Nat.mul_one, hsgn] at this
  exact this
end Fl
end Go.Proofs.Ytfkoacjfihaajaa
