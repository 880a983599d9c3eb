import Derived.Test.YtkipcdjadmocaaaChgP
import Derived.Test.YtkipcdjadmocaaaMade
set_option linter.unusedVariables false
set_option linter.unusedSimpArgs false
namespace Go.Proofs.Ytkipcdjadmocaaa
namespace B
theorem cnt_mono (p q : Nat → Bool) : ∀ n off, (∀ i, p i = true → q i = true) → cnt p n off ≤ cnt q n off := by
  intro n
  induction n with
  | zero => intro off h; simp [cnt]
  | succ n ih =>
    intro off h
    have h1 := ih (off + 1) h
    have h2 : (p off).toNat ≤ (q off).toNat := by
      cases hp : p off
      · exact Nat.zero_le _
      · rw [h off hp]; exact Nat.le_refl _
    simp only [cnt]
    omega
theorem cnt_same (p q : Nat → Bool) : ∀ n off, (∀ i, p i = true → q i = true) → cnt p n off = cnt q n off → ∀ i, off ≤ i → i < off + n → p i = q i := by
  intro n
  induction n with
  | zero => intro off h e i h1 h2; omega
  | succ n ih =>
    intro off h e i h1 h2
    have hm := cnt_mono p q n (off + 1) h
    have h0 := h off
    simp only [cnt] at e
    cases hp : p off <;> cases hq : q off
    · rcases Nat.eq_or_lt_of_le h1 with q1 | q1
      · subst q1; rw [hp, hq]
      · exact ih (off + 1) h (by simp [hp, hq] at e; exact e) i (by omega) (by omega)
    · simp [hp, hq] at e; omega
    · rw [h0 hp] at hq; cases hq
    · rcases Nat.eq_or_lt_of_le h1 with q1 | q1
      · subst q1; rw [hp, hq]
      · exact ih (off + 1) h (by simp [hp, hq] at e; exact e) i (by omega) (by omega)
theorem cnt_four (a b c d : Nat → Bool) : ∀ n off, (∀ i, (a i).toNat + (b i).toNat = (c i).toNat + (d i).toNat) → cnt a n off + cnt b n off = cnt c n off + cnt d n off := by
  intro n
  induction n with
  | zero => intro off h; rfl
  | succ n ih =>
    intro off h
    have h1 := ih (off + 1) h
    have h2 := h off
    simp only [cnt]
    omega
end B
section
variable {R : Nat}
def Out (R : Nat) (p : Nat → Bool) : Prop := ∀ i, R ≤ i → p i = false
theorem chg_iff {p q : Nat → Bool} (hp : Out R p) (hq : Out R q) : B.chg p q (nw R) = false ↔ ∀ i, q i = p i := by
  rw [B.chg_false]
  constructor
  · intro h i
    by_cases hi : i < 64 * nw R
    · exact h i hi
    · have : R ≤ i := by unfold nw at hi; omega
      rw [hp i this, hq i this]
  · intro h i _; exact h i
theorem chg_up {p q : Nat → Bool} (hp : Out R p) (hq : Out R q) (h : ∀ i, p i = true → q i = true) : B.chg p q (nw R) = decide (B.cnt p R 0 < B.cnt q R 0) := by
  have hm := B.cnt_mono p q R 0 h
  cases hc : B.chg p q (nw R)
  · have he := (chg_iff hp hq).1 hc
    have : B.cnt p R 0 = B.cnt q R 0 := B.cnt_congr p q R 0 (fun i _ _ => (he i).symm)
    simp [this]
  · have : B.cnt p R 0 ≠ B.cnt q R 0 := by
      intro e
      have hs := B.cnt_same p q R 0 h e
      have : B.chg p q (nw R) = false := (chg_iff hp hq).2 (fun i => by
        by_cases hi : i < R
        · exact (hs i (by omega) (by omega)).symm
        · rw [hp i (by omega), hq i (by omega)])
      rw [hc] at this; cases this
    simp; omega
theorem bne_comm' (a b : Int) : (a != b) = (b != a) := by
  rw [Bool.eq_iff_iff]
  simp only [bne_iff_ne, ne_eq]
  exact ⟨fun h e => h e.symm, fun h e => h e.symm⟩
theorem chg_comm (p q : Nat → Bool) : ∀ n, B.chg p q n = B.chg q p n := by
  intro n
  induction n with
  | zero => rfl
  | succ n ih =>
    simp only [B.chg]
    rw [ih, bne_comm']
theorem chg_down {p q : Nat → Bool} (hp : Out R p) (hq : Out R q) (h : ∀ i, q i = true → p i = true) : B.chg p q (nw R) = decide (B.cnt q R 0 < B.cnt p R 0) := by
  rw [chg_comm]; exact chg_up hq hp h
def bOr (a b : Bool) : Bool := a || b
def bAnd (a b : Bool) : Bool := a && b
def bLess (a b : Bool) : Bool := a && !b
theorem laid_out (L : Bool → Bool → Bool) (p q : Nat → Bool) : Out R (B.laid L R p q) := fun i hi => by simp only [B.laid]; rw [decide_eq_false (by omega)]; simp
theorem laid_at (L : Bool → Bool → Bool) (h0 : L false false = false) {p q : Nat → Bool} (hp : Out R p) (hq : Out R q) (i : Nat) : B.laid L R p q i = L (p i) (q i) := by
  simp only [B.laid]
  by_cases hi : i < R
  · simp [hi]
  · rw [hp i (by omega), hq i (by omega), h0]; simp
theorem hasB_laid (L : Bool → Bool → Bool) (h0 : L false false = false) {p q : Nat → Bool} (hp : Out R p) (hq : Out R q) (i : Int) : hasB (B.laid L R p q) i = L (hasB p i) (hasB q i) := by
  unfold hasB
  rw [laid_at L h0 hp hq]
  by_cases hi : 0 ≤ i
  · simp [hi]
  · simp [hi, h0]
/-- all that BitsAlgebra asks of the counts -/
theorem alg (p q : Nat → Bool) (hp : Out R p) (hq : Out R q) :
    B.chg p (B.laid bOr R p q) (nw R) = decide (B.cnt p R 0 < B.cnt (B.laid bOr R p q) R 0) ∧
    B.chg p (B.laid bAnd R p q) (nw R) = decide (B.cnt (B.laid bAnd R p q) R 0 < B.cnt p R 0) ∧
    B.chg p (B.laid bLess R p q) (nw R) = decide (B.cnt (B.laid bLess R p q) R 0 < B.cnt p R 0) ∧
    B.chg (B.laid bLess R p q) (B.laid bAnd R (B.laid bLess R p q) (B.laid bAnd R p q)) (nw R) = decide (0 < B.cnt (B.laid bLess R p q) R 0) ∧
    B.cnt (B.laid bAnd R (B.laid bLess R p q) (B.laid bAnd R p q)) R 0 = 0 ∧
    B.cnt (B.laid bOr R p q) R 0 + B.cnt (B.laid bAnd R p q) R 0 = B.cnt p R 0 + B.cnt q R 0 ∧
    B.cnt (B.laid bLess R p q) R 0 + B.cnt (B.laid bAnd R p q) R 0 = B.cnt p R 0 ∧
    B.chg (B.laid bLess R p q) (B.laid bOr R (B.laid bLess R p q) (B.laid bAnd R p q)) (nw R) = decide (0 < B.cnt (B.laid bAnd R p q) R 0) ∧
    B.cnt (B.laid bOr R (B.laid bLess R p q) (B.laid bAnd R p q)) R 0 = B.cnt p R 0 := by
  have eo : ∀ i, B.laid bOr R p q i = (p i || q i) := laid_at bOr rfl hp hq
  have ea : ∀ i, B.laid bAnd R p q i = (p i && q i) := laid_at bAnd rfl hp hq
  have el : ∀ i, B.laid bLess R p q i = (p i && !q i) := laid_at bLess rfl hp hq
  have oo : Out R (B.laid bOr R p q) := laid_out _ _ _
  have oa : Out R (B.laid bAnd R p q) := laid_out _ _ _
  have ol : Out R (B.laid bLess R p q) := laid_out _ _ _
  have e1 : ∀ i, B.laid bAnd R (B.laid bLess R p q) (B.laid bAnd R p q) i = false := fun i => by
    rw [laid_at bAnd rfl ol oa, el, ea]; cases p i <;> cases q i <;> rfl
  have e2 : ∀ i, B.laid bOr R (B.laid bLess R p q) (B.laid bAnd R p q) i = p i := fun i => by
    rw [laid_at bOr rfl ol oa, el, ea]; cases p i <;> cases q i <;> rfl
  have o1 : Out R (B.laid bAnd R (B.laid bLess R p q) (B.laid bAnd R p q)) := laid_out _ _ _
  have o2 : Out R (B.laid bOr R (B.laid bLess R p q) (B.laid bAnd R p q)) := laid_out _ _ _
  have c1 : B.cnt (B.laid bAnd R (B.laid bLess R p q) (B.laid bAnd R p q)) R 0 = 0 := B.cnt_none _ _ _ (fun i _ _ => e1 i)
  have c2 : B.cnt (B.laid bOr R (B.laid bLess R p q) (B.laid bAnd R p q)) R 0 = B.cnt p R 0 := B.cnt_congr _ _ _ _ (fun i _ _ => e2 i)
  have c3 : B.cnt (B.laid bLess R p q) R 0 + B.cnt (B.laid bAnd R p q) R 0 = B.cnt p R 0 := by
    have := B.cnt_four (B.laid bLess R p q) (B.laid bAnd R p q) p (fun _ => false) R 0 (fun i => by rw [el, ea]; cases p i <;> cases q i <;> rfl)
    rw [this, B.cnt_none (fun _ => false) R 0 (fun _ _ _ => rfl)]; omega
  refine ⟨chg_up hp oo (fun i h => by rw [eo, h]; rfl), chg_down hp oa (fun i h => by rw [ea] at h; revert h; cases p i <;> simp), chg_down hp ol (fun i h => by rw [el] at h; revert h; cases p i <;> simp), ?_, c1, ?_, c3, ?_, c2⟩
  · rw [chg_down ol o1 (fun i h => by rw [e1] at h; cases h), c1]
  · exact B.cnt_four _ _ _ _ R 0 (fun i => by rw [eo, ea]; cases p i <;> cases q i <;> rfl)
  · rw [chg_up ol o2 (fun i h => by rw [e2]; rw [el] at h; revert h; cases p i <;> simp), c2, ← c3]
    congr 1
    rw [eq_iff_iff]
    omega
end
end Go.Proofs.Ytkipcdjadmocaaa
