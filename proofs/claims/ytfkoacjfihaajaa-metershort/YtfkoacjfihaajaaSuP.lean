import Derived.Test.YtfkoacjfihaajaaHaW
import Derived.Test.YtfkoacjfihaajaaAlP
set_option linter.unusedVariables false
set_option linter.unusedSimpArgs false
namespace Go.Proofs.Ytfkoacjfihaajaa
open Go.RowKit
namespace M
open Fl N
theorem hvn_exact {r A k : Nat} : ∀ d, V 52 r = A * 2 ^ (k + d) → 53 ≤ k → V 52 (hvn d r) = A * 2 ^ k
  | 0, h, _ => h
  | d + 1, h, hk => by
    have ih := hvn_exact (r := r) (A := A) (k := k + 1) d (by rw [h]; congr 2; omega) (by omega)
    show V 52 (hv (hvn d r)) = A * 2 ^ k
    generalize hvn d r = q at *
    rcases Nat.eq_zero_or_pos A with e | e
    · subst e
      rw [Nat.zero_mul] at ih ⊢
      have : q = 0 := V_inj 52 (ih.trans (V_low (by decide)).symm)
      subst this; rfl
    · have h1 : 9007199254740992 ≤ V 52 q := by
        rw [ih, ← d_bin1]
        exact Nat.le_trans (Nat.pow_le_pow_right (by omega) (by omega)) (Nat.le_mul_of_pos_left _ e)
      have h2 := V_hv (V_big.1 h1)
      rw [ih, Nat.pow_succ, ← Nat.mul_assoc] at h2
      exact Nat.eq_of_mul_eq_mul_right (by omega) h2
/-- a rate in units of 2^-p -/
structure Un (r A p : Nat) : Prop where
  lt : r < 9218868437227405312
  val : ∀ k, k + p = 1074 → V 52 r = A * 2 ^ k
theorem Un.zero : Un 0 0 0 := ⟨by omega, fun k _ => by rw [Nat.zero_mul]; rfl⟩
theorem rep_exact {X : Nat} (h : Rep X) : V 52 (rn 52 0 X) = X ∧ rn 52 0 X < 9218868437227405312 := by
  obtain ⟨r, hr, rfl⟩ := h
  have := rn_V 52 0 r
  rw [Nat.pow_zero, Nat.mul_one] at this
  rw [this]; exact ⟨rfl, hr⟩
/-- a note, periods later -/
theorem Un.step {r A p p' n : Nat} (h : Un r A p) (hp : p ≤ p') (hp' : p' ≤ 20) (hA : A + n * 2 ^ p' < 9007199254740992) (hn : n ≤ 9007199254740991) : ∃ r', Ieee.double.add (hvn (p' - p) r) (FloatKind.f64.nearest (n : Int)) = some r' ∧ Un r' (A + n * 2 ^ p') p' := by
  obtain ⟨k, hk⟩ : ∃ k, k + p' = 1074 := ⟨1074 - p', by omega⟩
  have h1 : V 52 (hvn (p' - p) r) = A * 2 ^ k := hvn_exact (p' - p) (by rw [h.val (k + (p' - p)) (by omega)]) (by omega)
  have h2 : V 52 (fi n) = n * 2 ^ p' * 2 ^ k := by rw [V_fi hn, Nat.mul_assoc, Q_split (a := p') (b := k) (by omega)]
  obtain ⟨e1, e2, _⟩ := near_fi (n := n) (by omega)
  have h3 : V 52 (hvn (p' - p) r) + V 52 (fi n) = (A + n * 2 ^ p') * 2 ^ k := by rw [h1, h2, Nat.add_mul]
  have hr := rep_exact (rep_mk (c := A + n * 2 ^ p') (L := k) hA (by omega))
  refine ⟨_, by rw [e1]; exact add_pos (hvn_lt h.lt _) e2 (by rw [h3]; exact hr.2), ?_, ?_⟩
  · rw [h3]; exact hr.2
  · intro k' hk'
    obtain rfl : k' = k := by omega
    rw [h3]; exact hr.1
/-- the sum of two -/
theorem Un.sum {ra rb rc A B p : Nat} (ha : Un ra A p) (hb : Un rb B p) (hc : Un rc (A + B) p) (hp : p ≤ 20) : Ieee.double.add ra rb = some rc := by
  obtain ⟨k, hk⟩ : ∃ k, k + p = 1074 := ⟨1074 - p, by omega⟩
  have e : V 52 ra + V 52 rb = V 52 rc := by rw [ha.val k hk, hb.val k hk, hc.val k hk, Nat.add_mul]
  have e2 : rn 52 0 (V 52 ra + V 52 rb) = rc := by
    rw [e]
    have := rn_V 52 0 rc
    rwa [Nat.pow_zero, Nat.mul_one] at this
  rw [add_pos ha.lt hb.lt (by rw [e2]; exact hc.lt), e2]
theorem mega : Fin 4697254411347427328 (1048576 * (Q : Int)) := by
  have := int_fin_nat (n := 1048576) (by omega)
  rw [show FloatKind.f64.nearest ((1048576 : Nat) : Int) = 4697254411347427328 by decide +kernel] at this
  exact this
/-- what is left of the first note -/
theorem Un.first {rc C p n : Nat} (h : Un rc C p) (hp : p ≤ 20) (hn : n < 1000) (hC : n ≤ C) : ∃ q, Ieee.double.div (FloatKind.f64.nearest (n : Int)) 4697254411347427328 = some q ∧ (FloatKind.f64.format.order rc q = some .gt ∨ FloatKind.f64.format.order rc q = some .eq) := by
  obtain ⟨E, hE⟩ : ∃ E : Nat, E = 1054 := ⟨_, rfl⟩
  have hQ : Q = 1048576 * 2 ^ E := Q_split (a := 20) (b := E) (by omega)
  have d : FO (opO .quo (vl (FloatKind.f64.nearest (n : Int))) (vl 4697254411347427328)) ((n : Int) * ((2 ^ E : Nat) : Int)) := by
    refine FO.div (FO.vl (int_fin_nat (by omega))) (FO.vl mega) ?_ ?_ ?_
    · have : (Q : Int) = 1048576 * ((2 ^ E : Nat) : Int) := by rw [hQ]; rw [Int.natCast_mul]; rfl
      rw [this]
      generalize ((2 ^ E : Nat) : Int) = q
      simp only [Int.mul_assoc, Int.mul_left_comm, Int.mul_comm]
    · rw [Int.natAbs_mul, Int.natAbs_natCast, Int.natAbs_natCast]
      exact rep_mk (by omega) (by omega)
    · have := Q_pos; omega
  obtain ⟨q, hq, fq⟩ := d
  rw [vl_fin (int_fin_nat (by omega)), vl_fin mega] at hq
  refine ⟨q, hq, ?_⟩
  have ho := order_fin (fin_pos h.lt) fq
  obtain ⟨k, hk⟩ : ∃ k, k + p = 1074 := ⟨1074 - p, by omega⟩
  have hle : n * 2 ^ E ≤ V 52 rc := by
    rw [h.val k hk]
    exact Nat.mul_le_mul hC (Nat.pow_le_pow_right (by omega) (by omega))
  rw [← Int.natCast_mul] at ho
  generalize n * 2 ^ E = X at *
  rcases Nat.eq_or_lt_of_le hle with e | e
  · rw [← e, Int.compare_eq_eq.2 rfl] at ho; exact .inr ho
  · rw [Int.compare_eq_gt.2 (by omega)] at ho; exact .inl ho
/-- three meters -/
structure Ms (w0 : World) (ca cb cc h L ra rb rc : Nat) (w : World) : Prop where
  ma : Mt ca h L ra w
  mb : Mt cb h L rb w
  mc : Mt cc h L rc w
  bel : Below w0.heap.size w0 w
  ba : w0.heap.size ≤ ca
  ab : ca < cb
  bc : cb < cc
/-- the numbers behind k rounds -/
structure Nu (k h L A B ra rb rc n0 : Nat) : Prop where
  ua : Un ra A (L / h)
  ub : Un rb B (L / h)
  uc : Un rc (A + B) (L / h)
  lo : L ≤ (k - 1) * h / 15
  ha : A ≤ k * 1000 * 2 ^ (L / h)
  hb : B ≤ k * 1000 * 2 ^ (L / h)
  fst : 0 < k → n0 ≤ A
theorem per {k h : Nat} (hh : 1 ≤ h) (hk : k ≤ 299) : k * h / 15 / h ≤ 19 := by
  have h1 : k * h / 15 / h = k / 15 := by rw [Nat.div_div_eq_div_mul, Nat.mul_comm 15 h, Nat.mul_comm k h, Nat.mul_div_mul_left _ _ (by omega)]
  omega
theorem pow_le {p : Nat} (h : p ≤ 19) : 2 ^ p ≤ 524288 := by
  have := Nat.pow_le_pow_right (n := 2) (by omega) h
  exact this
end M
end Go.Proofs.Ytfkoacjfihaajaa
