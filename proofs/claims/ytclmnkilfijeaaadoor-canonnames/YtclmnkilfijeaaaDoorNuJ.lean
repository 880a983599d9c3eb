import Derived.Test.YtclmnkilfijeaaaDoorNuI
import Derived.Lib.ItoaLen
import Derived.Lib.LaidTab
import GoSem.PinnedTables
set_option linter.unusedVariables false
set_option linter.unusedSimpArgs false
namespace Go.Proofs.YtclmnkilfijeaaaDoor
open Go.RowKit
def tH (p : Nat) : Nat := (Go.Pinned.pow10Rows.getD (p + 348) (0, 0)).1
def tL (p : Nat) : Nat := (Go.Pinned.pow10Rows.getD (p + 348) (0, 0)).2
/-- what the tables hold that are asked -/
structure Tb (w : World) : Prop where
  h3 : 3 < w.heap.size
  u10 : Lib.TabIs Tryd.prog w "internal/strconv.uint64pow10" .u64 Lib.pow10Tab
  pw : ∀ p, p ≤ 340 → PwAt w p (tH p) (tL p)
theorem g2 : Tryd.prog.globalNamed "internal/strconv.uint64pow10" = some 2 := by kernel_rfl
theorem Tb.turn {w w' : World} {S : Nat → Prop} (h : Tb w) (t : Turn S w w') (hS : ∀ k, k < 4 → ¬ S k) : Tb w' := by
  have h3 := h.h3
  refine ⟨Nat.lt_of_lt_of_le h3 t.size, ?_, fun p hp => (h.pw p hp).turn t h3 (hS 3 (by omega))⟩
  have := h.u10
  unfold Lib.TabIs World.var? at *
  rw [g2] at *
  simp only [Option.bind_some] at *
  rw [t.block 2 (by omega) (hS 2 (by omega))]
  exact this
def tOk (p : Nat) : Bool := decide (9223372036854775808 ≤ tH p) && decide (tH p < 18446744073709551616) && decide (tL p < 18446744073709551616) && (decide (p < 16) || decide (27 < p) || (tH p == Fp.hN p && tL p == 0))
theorem tOk_all : (List.range 341).all tOk = true := by decide +kernel
theorem tOk_at (p : Nat) (h : p ≤ 340) : tOk p = true := (List.all_eq_true.1 tOk_all) p (List.mem_range.2 (by omega))
theorem tOk_bounds (p : Nat) (h : p ≤ 340) : 9223372036854775808 ≤ tH p ∧ tH p < 18446744073709551616 ∧ tL p < 18446744073709551616 := by
  have := tOk_at p h
  unfold tOk at this
  simp only [Bool.and_eq_true, decide_eq_true_eq] at this
  exact ⟨this.1.1.1, this.1.1.2, this.1.2⟩
theorem tOk_exact (p : Nat) (h1 : 16 ≤ p) (h2 : p ≤ 27) : tH p = Fp.hN p ∧ tL p = 0 := by
  have := tOk_at p (by omega)
  unfold tOk at this
  simp only [Bool.and_eq_true, Bool.or_eq_true, decide_eq_true_eq, beq_iff_eq] at this
  rcases this.2 with (q | q) | q
  · omega
  · omega
  · exact q
theorem bitLen_is (x k : Nat) (h1 : 2 ^ k ≤ x) (h2 : x < 2 ^ (k + 1)) (hk : k < 64) : Lib.bitLen x = k + 1 := by
  have h64 : x < 2 ^ 64 := Nat.lt_of_lt_of_le h2 (Nat.pow_le_pow_right (by omega) (by omega))
  rw [Lib.bitLen_shift k x h1 h64]
  have : x / 2 ^ k = 1 := by
    rw [Nat.div_eq_iff (Nat.two_pow_pos _)]
    rw [Nat.pow_succ] at h2
    omega
  rw [this]
  rfl
/-- the shelf's numeral is no longer than it must be -/
theorem nDigits_le (d k : Nat) (hk : 1 ≤ k) (h : d < 10 ^ k) : Lib.nDigits d ≤ k := by
  induction k generalizing d with
  | zero => omega
  | succ k ih =>
    by_cases h10 : d < 10
    · rw [Lib.nDigits_small h10]; omega
    · rw [Lib.nDigits_big h10]
      have hk1 : 1 ≤ k := by
        rcases Nat.eq_zero_or_pos k with e | e
        · subst e; simp at h; omega
        · exact e
      have := ih (d / 10) hk1 (by rw [Nat.div_lt_iff_lt_mul (by omega)]; rw [Nat.pow_succ] at h; exact h)
      omega
theorem usc_ge {x h l s : Nat} (hx : 4611686018427387904 ≤ x) (hx2 : x < 18446744073709551616) (hh : 9223372036854775808 ≤ h) (hh2 : h < 18446744073709551616) (hs : s ≤ 60) : 1 ≤ Fp.usc x h l s ∧ (9223372036854775808 ≤ x → 3 ≤ Fp.usc x h l s) := by
  have h1 : 2305843009213693952 ≤ x * h / 18446744073709551616 := by
    rw [Nat.le_div_iff_mul_le (by omega)]
    exact Nat.le_trans (by decide) (Nat.mul_le_mul hx hh)
  have h1' : 9223372036854775808 ≤ x → 4611686018427387904 ≤ x * h / 18446744073709551616 := fun q => by
    rw [Nat.le_div_iff_mul_le (by omega)]
    exact Nat.le_trans (by decide) (Nat.mul_le_mul q hh)
  have h2 : x * h / 18446744073709551616 < 18446744073709551616 := by rw [Nat.div_lt_iff_lt_mul (by omega)]; exact Nat.mul_lt_mul'' hx2 hh2
  unfold Fp.usc
  simp only
  generalize x * h / 18446744073709551616 = hi at *
  have hp : 2 ^ s ≤ 2 ^ 60 := Nat.pow_le_pow_right (by omega) hs
  have e60 : (2 : Nat) ^ 60 = 1152921504606846976 := by decide
  have k1 : ∀ y, 2305843009213693951 ≤ y → 1 ≤ y / 2 ^ s := fun y hy => by rw [Nat.le_div_iff_mul_le (Nat.two_pow_pos _)]; omega
  have k3 : ∀ y, 4611686018427387903 ≤ y → 3 ≤ y / 2 ^ s := fun y hy => by rw [Nat.le_div_iff_mul_le (Nat.two_pow_pos _)]; omega
  split
  · exact ⟨Nat.le_trans (k1 hi (by omega)) Nat.left_le_or, fun q => Nat.le_trans (k3 hi (by have := h1' q; omega)) Nat.left_le_or⟩
  · refine ⟨Nat.le_trans (k1 _ ?_) Nat.left_le_or, fun q => Nat.le_trans (k3 _ ?_) Nat.left_le_or⟩
    · split <;> omega
    · have := h1' q
      split <;> omega
theorem pick_pos {o u1 u2 u3 p : Nat} (h1 : 1 ≤ u1) (h3 : 3 ≤ u3) : 1 ≤ (Fp.pickU o u1 u2 u3 p).1 := by
  unfold Fp.pickU
  split
  · simp only; omega
  · split
    · simp only; unfold Fp.rnd; omega
    · simp only; omega
end Go.Proofs.YtclmnkilfijeaaaDoor
