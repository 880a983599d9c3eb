import Derived.Test.YtfkoacjfihaajaaCoB
import Derived.Test.YtfkoacjfihaajaaLeW
set_option linter.unusedVariables false
set_option linter.unusedSimpArgs false
namespace Go.Proofs.Ytfkoacjfihaajaa
open Go.RowKit
namespace N
open Fl M
theorem rn_scale (F D k v : Nat) : rn F (D + k) (v * 2 ^ k) = rn F D v := by
  rcases Nat.eq_zero_or_pos v with e | e
  · subst e; rw [Nat.zero_mul, rn_zero, rn_zero]
  · unfold rn
    rw [log2_mul k (by omega), show v.log2 + k - F - (D + k) = v.log2 - F - D by omega, ← Nat.add_assoc, cut_scale]
/-- the square of a whole number, rounded -/
def sq (n : Nat) : Nat := rn 52 0 (n * n * Q)
theorem sq_lt {n : Nat} (h : n ≤ 17592186044416) : sq n < 9218868437227405312 := by
  obtain ⟨E, hE⟩ : ∃ E : Nat, E = 1074 := ⟨_, rfl⟩
  have h2 : n * n * Q ≤ 1 * 2 ^ (88 + E) := by
    rw [Nat.pow_add, ← Q_def hE, Nat.one_mul]
    refine Nat.mul_le_mul_right _ ?_
    have := Nat.mul_le_mul h h
    exact Nat.le_trans this (by decide)
  exact (rn_le (rep_mk (c := 1) (L := 88 + E) (by omega) (by omega)) h2).2
theorem mul_self {x n : Nat} {a : Int} (hx : Fin x (a * (Q : Int))) (ha : a.natAbs = n) (h : n ≤ 17592186044416) : Ieee.double.mul x x = some (sq n) := by
  obtain ⟨s, m, e, rx, hv, _⟩ := hx.read
  unfold Ieee.Format.mul
  rw [rx]
  unfold Ieee.Datum.product
  simp only [Option.map_some]
  show some (Ieee.double.nearest (s ^^ s) (m * m) _) = _
  obtain ⟨D, hD⟩ : ∃ D : Nat, D = 1074 := ⟨_, rfl⟩
  rw [nearest_units Ieee.double (s ^^ s) (m * m) (e + e) _ (-1074 - (D : Int)) (0 + D) (by omega) (by rw [d_least]; omega), d_inf, d_frac]
  have e1 : m * 2 ^ e = n * Q := by
    have := congrArg Int.natAbs hv
    rw [sg_abs, Int.natAbs_mul, Int.natAbs_natCast, ha] at this
    exact this.symm
  have e2 : m * m * 2 ^ (e + e) = n * n * Q * 2 ^ D := by
    rw [← Q_def hD, Nat.pow_add]
    calc m * m * (2 ^ e * 2 ^ e) = (m * 2 ^ e) * (m * 2 ^ e) := by ac_rfl
      _ = _ := by rw [e1]; generalize Q = q; ac_rfl
  rw [e2, rn_scale, Bool.xor_self, word_false]
  have := sq_lt h
  unfold sq at this ⊢
  rw [Nat.min_eq_left (by omega)]
theorem rn_up (v : Nat) : V 52 (rn 52 0 v) * 9007199254740992 ≤ v * 9007199254740992 + v := by
  have h := V_rn 52 0 v
  rw [Nat.pow_zero, Nat.mul_one] at h
  rw [h]
  simp only [Nat.add_zero, Nat.sub_zero]
  obtain ⟨t, ht⟩ : ∃ t, t = v.log2 - 52 := ⟨_, rfl⟩
  rw [← ht]
  rcases Nat.eq_zero_or_pos t with e | e
  · rw [e, cut_zero]; omega
  · have hv : v ≠ 0 := by intro q; subst q; simp at ht; omega
    have h1 := (cut_half v t).1
    have h2 : 2 ^ (52 + t) ≤ v := Nat.le_trans (Nat.pow_le_pow_right (by omega) (by omega)) (Nat.log2_self_le hv)
    rw [Nat.pow_add, d_bin] at h2
    generalize cut v t * 2 ^ t = X at *
    generalize 2 ^ t = g at *
    omega
theorem sq_up {n : Nat} (h : n ≤ 17592186044416) : V 52 (sq n) ≤ n * n * Q + n * Q := by
  have h1 := rn_up (n * n * Q)
  have h2 : n * n * Q ≤ n * Q * 9007199254740992 := by
    have : n * n ≤ n * 9007199254740992 := Nat.mul_le_mul_left _ (by omega)
    calc n * n * Q ≤ n * 9007199254740992 * Q := Nat.mul_le_mul_right _ this
      _ = _ := by generalize Q = q; ac_rfl
  have h3 : V 52 (sq n) * 9007199254740992 ≤ (n * n * Q + n * Q) * 9007199254740992 := by
    rw [Nat.add_mul]
    unfold sq
    omega
  exact Nat.le_of_mul_le_mul_right h3 (by omega)
theorem sq_mono {a b : Nat} (h : a ≤ b) : sq a ≤ sq b := rn_mono 52 0 (Nat.mul_le_mul_right _ (Nat.mul_le_mul h h))
theorem sq_zero : sq 0 = 0 := by unfold sq; rw [Nat.zero_mul, rn_zero]
/-- how far from none, at most -/
theorem lean_le {a b n : Nat} (h : a + b ≤ n) (hn : n ≤ 17592186044416) : rn 52 0 (V 52 (sq a) + V 52 (sq b)) ≤ sq n := by
  have rv : ∀ r, rn 52 0 (V 52 r) = r := fun r => by have := rn_V 52 0 r; rwa [Nat.pow_zero, Nat.mul_one] at this
  rcases Nat.eq_zero_or_pos a with ha | ha
  · subst ha
    rw [sq_zero, show V 52 0 = 0 from rfl, Nat.zero_add, rv]
    exact sq_mono (by omega)
  · rcases Nat.eq_zero_or_pos b with hb | hb
    · subst hb
      rw [sq_zero, show V 52 0 = 0 from rfl, Nat.add_zero, rv]
      exact sq_mono (by omega)
    · have h1 := sq_up (n := a) (by omega)
      have h2 := sq_up (n := b) (by omega)
      refine Nat.le_trans ?_ (sq_mono h)
      refine rn_mono 52 0 ?_
      have key : a * a + a + (b * b + b) ≤ (a + b) * (a + b) := by
        have m1 : a ≤ a * b := Nat.le_mul_of_pos_right _ hb
        have m2 : b ≤ a * b := Nat.le_mul_of_pos_left _ ha
        have e : (a + b) * (a + b) = a * a + a * b + (a * b + b * b) := by rw [Nat.add_mul, Nat.mul_add, Nat.mul_add, Nat.mul_comm b a]
        omega
      have := Nat.mul_le_mul_right Q key
      simp only [Nat.add_mul] at this ⊢
      omega
theorem lean_sum {a b : Nat} (ha : a + b ≤ 17592186044416) : Ieee.double.add (sq a) (sq b) = some (rn 52 0 (V 52 (sq a) + V 52 (sq b))) := by
  have := lean_le ha (Nat.le_refl _)
  have h2 := sq_lt (n := 17592186044416) (Nat.le_refl _)
  exact add_pos (sq_lt (by omega)) (sq_lt (by omega)) (by omega)
theorem opO_mul (x y : Nat) : opO .mul (some x) (some y) = Ieee.double.mul x y := rfl
theorem opO_add (x y : Nat) : opO .add (some x) (some y) = Ieee.double.add x y := rfl
/-- the Lean of whole parts -/
theorem lean_whole {x y : Nat} {a b : Int} {m n : Nat} (hx : Fin x (a * (Q : Int))) (hy : Fin y (b * (Q : Int))) (ha : a.natAbs = m) (hb : b.natAbs = n) (h : m + n ≤ 17592186044416) : lnO (vl x) (vl y) = some (rn 52 0 (V 52 (sq m) + V 52 (sq n))) := by
  unfold lnO
  rw [vl_fin hx, vl_fin hy, opO_mul, opO_mul, mul_self hx ha (by omega), mul_self hy hb (by omega), opO_add, lean_sum h]
/-- one later -/
theorem later_ci (m : Int) (h : -9223372036854775808 ≤ m ∧ m ≤ 9223372036854775807) : cr (wrap64 (m + 1)) = - ci m ∧ ci (wrap64 (m + 1)) = cr m := by
  have hw : wrap64 (m + 1) % 4 = (m + 1) % 4 := by unfold wrap64; omega
  unfold cr ci
  rw [hw]
  have h1 := Int.emod_nonneg m (b := 4) (by omega)
  have h2 := Int.emod_lt_of_pos m (b := 4) (by omega)
  have : m % 4 = 0 ∨ m % 4 = 1 ∨ m % 4 = 2 ∨ m % 4 = 3 := by omega
  rcases this with q | q | q | q
  · have : (m + 1) % 4 = 1 := by omega
    simp [this, q]
  · have : (m + 1) % 4 = 2 := by omega
    simp [this, q]
  · have : (m + 1) % 4 = 3 := by omega
    simp [this, q]
  · have : (m + 1) % 4 = 0 := by omega
    simp [this, q]
def later (l : List Int) : List Int := l.map fun m => wrap64 (m + 1)
theorem later_re : ∀ l : List Int, (∀ m ∈ l, -9223372036854775808 ≤ m ∧ m ≤ 9223372036854775807) → re (later l) = - im l ∧ im (later l) = re l
  | [], _ => ⟨rfl, rfl⟩
  | m :: l, h => by
    have ih := later_re l (fun x hx => h x (List.mem_cons_of_mem _ hx))
    have k := later_ci m (h m (List.mem_cons_self ..))
    have e1 : re (later (m :: l)) = cr (wrap64 (m + 1)) + re (later l) := by simp [re, later]
    have e2 : im (later (m :: l)) = ci (wrap64 (m + 1)) + im (later l) := by simp [im, later]
    have e3 : re (m :: l) = cr m + re l := by simp [re]
    have e4 : im (m :: l) = ci m + im l := by simp [im]
    rw [e1, e2, e3, e4, ih.1, ih.2, k.1, k.2]
    omega
theorem four_more (m : Int) (h : -9223372036854775808 ≤ m ∧ m ≤ 9223372036854775807) : re [m, wrap64 (m + 1), wrap64 (m + 2), wrap64 (m + 3)] = 0 ∧ im [m, wrap64 (m + 1), wrap64 (m + 2), wrap64 (m + 3)] = 0 := by
  have w1 : wrap64 (m + 1) % 4 = (m + 1) % 4 := by unfold wrap64; omega
  have w2 : wrap64 (m + 2) % 4 = (m + 2) % 4 := by unfold wrap64; omega
  have w3 : wrap64 (m + 3) % 4 = (m + 3) % 4 := by unfold wrap64; omega
  have h1 := Int.emod_nonneg m (b := 4) (by omega)
  have h2 := Int.emod_lt_of_pos m (b := 4) (by omega)
  have : m % 4 = 0 ∨ m % 4 = 1 ∨ m % 4 = 2 ∨ m % 4 = 3 := by omega
  simp only [re, im, List.map_cons, List.map_nil, cr, ci, w1, w2, w3]
  rcases this with q | q | q | q
  · have a : (m + 1) % 4 = 1 := by omega
    have b : (m + 2) % 4 = 2 := by omega
    have c : (m + 3) % 4 = 3 := by omega
    simp [a, b, c, q]
  · have a : (m + 1) % 4 = 2 := by omega
    have b : (m + 2) % 4 = 3 := by omega
    have c : (m + 3) % 4 = 0 := by omega
    simp [a, b, c, q]
  · have a : (m + 1) % 4 = 3 := by omega
    have b : (m + 2) % 4 = 0 := by omega
    have c : (m + 3) % 4 = 1 := by omega
    simp [a, b, c, q]
  · have a : (m + 1) % 4 = 0 := by omega
    have b : (m + 2) % 4 = 1 := by omega
    have c : (m + 3) % 4 = 2 := by omega
    simp [a, b, c, q]
theorem run_ceql {a b c d : Nat} (h1 : FloatKind.f64.format.order a c = some .eq) (h2 : FloatKind.f64.format.order b d = some .eq) (w : World) : (binOp .eql 51 (.complex .f64 a b) (.complex .f64 c d)).run Try.prog w = .ok (.bool true) w := by
  simp [binOp, Op.complexOp, Op.Complex.cmp, Op.floatCmp, asBool, h1, h2]
end N
end Go.Proofs.Ytfkoacjfihaajaa
