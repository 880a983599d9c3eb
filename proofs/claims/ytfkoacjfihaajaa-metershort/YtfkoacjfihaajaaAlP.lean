import Derived.Test.YtfkoacjfihaajaaMeA
import Derived.Test.YtfkoacjfihaajaaMw3
set_option linter.unusedVariables false
set_option linter.unusedSimpArgs false
namespace Go.Proofs.Ytfkoacjfihaajaa
namespace N
open Fl M
theorem fin0_read {x : Nat} (h : Fin x 0) : ∃ s e, Ieee.double.read x = .number s 0 (-1074 + (e : Nat)) := by
  obtain ⟨s, m, e, h1, h2, _⟩ := h.read
  have : m = 0 := by
    have h3 : (sg s (m * 2 ^ e)).natAbs = 0 := by rw [← h2]; rfl
    rw [sg_abs] at h3
    rcases Nat.mul_eq_zero.1 h3 with q | q
    · exact q
    · have := Nat.two_pow_pos e; omega
  subst this
  exact ⟨s, e, h1⟩
theorem near0 (s : Bool) (p : Int) : Fin (Ieee.double.nearest s 0 p) 0 := by
  unfold Ieee.Format.nearest
  rw [if_pos rfl]
  exact ⟨s, 0, rfl, by omega, by cases s <;> rfl⟩
theorem mul_zero {x y : Nat} {u : Int} (hx : Fin x 0) (hy : Fin y u) : ∃ r, Ieee.double.mul x y = some r ∧ Fin r 0 := by
  obtain ⟨s, e, h1⟩ := fin0_read hx
  obtain ⟨t, n, f, h2, _⟩ := hy.read
  unfold Ieee.Format.mul
  rw [h1, h2]
  unfold Ieee.Datum.product
  simp only [Option.map_some, Nat.zero_mul]
  exact ⟨_, rfl, near0 _ _⟩
theorem div_zero {x y : Nat} {u : Int} (hx : Fin x 0) (hy : Fin y u) (hu : u ≠ 0) : ∃ r, Ieee.double.div x y = some r ∧ Fin r 0 := by
  obtain ⟨s, e, h1⟩ := fin0_read hx
  obtain ⟨t, n, f, h2, h3, _⟩ := hy.read
  have hn0 : n ≠ 0 := by intro q; subst q; exact hu (by rw [h3]; cases t <;> simp [sg])
  unfold Ieee.Format.div
  rw [h1, h2]
  unfold Ieee.Datum.quotient
  simp only
  rw [if_neg hn0, Option.map_some]
  refine ⟨_, rfl, ?_⟩
  rw [Nat.zero_shiftLeft, Nat.zero_div, Nat.zero_mod]
  exact near0 _ _
/-- a float that is there, and its value -/
def FO (o : Option Nat) (v : Int) : Prop := ∃ r, o = some r ∧ Fin r v
theorem FO.vl {x : Nat} {v : Int} (h : Fin x v) : FO (vl x) v := ⟨x, vl_fin h, h⟩
theorem FO.add {a b : Option Nat} {v u : Int} (ha : FO a v) (hb : FO b u) (h : Rep (v + u).natAbs) : FO (opO .add a b) (v + u) := by
  obtain ⟨x, rfl, hx⟩ := ha
  obtain ⟨y, rfl, hy⟩ := hb
  obtain ⟨r, e, hr⟩ := add_ex hx hy h
  exact ⟨r, e, hr⟩
theorem FO.sub {a b : Option Nat} {v u : Int} (ha : FO a v) (hb : FO b u) (h : Rep (v - u).natAbs) : FO (opO .sub a b) (v - u) := by
  obtain ⟨x, rfl, hx⟩ := ha
  obtain ⟨y, rfl, hy⟩ := hb
  obtain ⟨r, e, hr⟩ := sub_ex hx hy h
  exact ⟨r, e, hr⟩
theorem FO.mul {a b : Option Nat} {v u z : Int} (ha : FO a v) (hb : FO b u) (hz : v * u = z * (Q : Int)) (h : Rep z.natAbs) : FO (opO .mul a b) z := by
  obtain ⟨x, rfl, hx⟩ := ha
  obtain ⟨y, rfl, hy⟩ := hb
  by_cases h0 : z = 0
  · subst h0
    rw [Int.zero_mul] at hz
    rcases Int.mul_eq_zero.1 hz with q | q
    · subst q
      obtain ⟨r, e, hr⟩ := mul_zero hx hy
      exact ⟨r, e, hr⟩
    · subst q
      obtain ⟨r, e, hr⟩ := mul_zero hy hx
      refine ⟨r, ?_, hr⟩
      show Ieee.double.mul x y = some r
      rw [← e]
      unfold Ieee.Format.mul
      obtain ⟨s, m, e1, h1, _⟩ := hx.read
      obtain ⟨t, n, e2, h2, _⟩ := hy.read
      rw [h1, h2]
      unfold Ieee.Datum.product
      simp only [Option.map_some]
      rw [Nat.mul_comm, Int.add_comm, Bool.xor_comm]
  · obtain ⟨r, e, hr⟩ := mul_ex hx hy hz h h0
    exact ⟨r, e, hr⟩
theorem FO.div {a b : Option Nat} {v u z : Int} (ha : FO a v) (hb : FO b u) (hz : v * (Q : Int) = z * u) (h : Rep z.natAbs) (hu : u ≠ 0) : FO (opO .quo a b) z := by
  obtain ⟨x, rfl, hx⟩ := ha
  obtain ⟨y, rfl, hy⟩ := hb
  by_cases h0 : z = 0
  · subst h0
    rw [Int.zero_mul] at hz
    have hv : v = 0 := by
      rcases Int.mul_eq_zero.1 hz with q | q
      · exact q
      · have := Q_pos; omega
    subst hv
    obtain ⟨r, e, hr⟩ := div_zero hx hy hu
    exact ⟨r, e, hr⟩
  · obtain ⟨r, e, hr⟩ := div_ex hx hy hz h h0 hu
    exact ⟨r, e, hr⟩
theorem FO.lk {o : Option Nat} {v : Int} {x : Nat} (h : FO o v) (hx : lk x o) : Fin x v := by
  obtain ⟨r, rfl, hr⟩ := h
  obtain ⟨rfl, _⟩ := vl_num hx
  exact hr
theorem rep_int {K : Int} (h : K.natAbs ≤ 9007199254740991) : Rep (K * (Q : Int)).natAbs := by
  rw [Int.natAbs_mul, Int.natAbs_natCast]; exact rep_Q h
theorem natAbs_le {n : Int} {j : Nat} (h : n.natAbs ≤ 1073741824) (hj : j ≤ 4097) : ((j : Int) * n).natAbs ≤ 9007199254740991 := by
  rw [Int.natAbs_mul, Int.natAbs_natCast]
  have := Nat.mul_le_mul hj h
  omega
theorem sum_alike {x : Nat} {n : Int} (hx : Fin x (n * (Q : Int))) (hn : n.natAbs ≤ 1073741824) : ∀ k, k ≤ 4096 → FO (smO (List.replicate k x)) ((k : Int) * n * (Q : Int))
  | 0, _ => ⟨0, rfl, by rw [show ((0 : Nat) : Int) * n * (Q : Int) = 0 by simp]; exact fin_zero⟩
  | k + 1, hk => by
    have ih := sum_alike hx hn k (by omega)
    have e : smO (List.replicate (k + 1) x) = opO .add (smO (List.replicate k x)) (vl x) := by
      unfold smO; rw [List.replicate_succ', List.foldl_append]; rfl
    have e2 : ((k + 1 : Nat) : Int) * n * (Q : Int) = (k : Int) * n * (Q : Int) + n * (Q : Int) := by
      rw [Int.natCast_add, Int.natCast_one, Int.add_mul, Int.add_mul, Int.one_mul]
    rw [e, e2]
    refine ih.add (FO.vl hx) ?_
    rw [← e2]
    exact rep_int (natAbs_le hn (by omega))
theorem rep0 : Rep (0 : Int).natAbs := ⟨0, by omega, rfl⟩
theorem alike {x k : Nat} {n : Int} (hx : Fin x (n * (Q : Int))) (hn : n.natAbs ≤ 1073741824) (hk : k ≤ 4096) (h0 : 0 < k) : FO (mnO (List.replicate k x)) (n * (Q : Int)) ∧ FO (spO (List.replicate k x)) 0 := by
  have hq := Q_pos
  have hc : Fin (cnt (List.replicate k x)) ((k : Int) * (Q : Int)) := by
    unfold cnt; rw [List.length_replicate]; exact int_fin_nat (by omega)
  have hcn : (k : Int) * (Q : Int) ≠ 0 := by
    intro q
    rcases Int.mul_eq_zero.1 q with q | q <;> omega
  have m1 : FO (mnO (List.replicate k x)) (n * (Q : Int)) := by
    unfold mnO
    refine (sum_alike hx hn k hk).div (FO.vl hc) ?_ (rep_int (by omega)) hcn
    generalize (Q : Int) = q
    simp only [Int.mul_assoc, Int.mul_left_comm, Int.mul_comm]
  refine ⟨m1, ?_⟩
  have sq : ∀ j, FO (sqO (mnO (List.replicate k x)) (List.replicate j x)) 0 := by
    intro j
    induction j with
    | zero => exact ⟨0, rfl, fin_zero⟩
    | succ j ih =>
      have e : sqO (mnO (List.replicate k x)) (List.replicate (j + 1) x) = opO .add (sqO (mnO (List.replicate k x)) (List.replicate j x)) (opO .mul (opO .sub (vl x) (mnO (List.replicate k x))) (opO .sub (vl x) (mnO (List.replicate k x)))) := by
        unfold sqO; rw [List.replicate_succ', List.foldl_append]; rfl
      rw [e]
      have d : FO (opO .sub (vl x) (mnO (List.replicate k x))) 0 := by
        have := (FO.vl hx).sub m1 (by rw [Int.sub_self]; exact rep0)
        rw [Int.sub_self] at this
        exact this
      have d2 : FO (opO .mul (opO .sub (vl x) (mnO (List.replicate k x))) (opO .sub (vl x) (mnO (List.replicate k x)))) 0 := d.mul d (by simp) rep0
      have := ih.add d2 (by rw [Int.add_zero]; exact rep0)
      rw [Int.add_zero] at this
      exact this
  unfold spO
  exact (sq k).div (FO.vl hc) (by simp) rep0 hcn
/-- of two -/
theorem two_mean {x y : Nat} {a b : Int} (hx : Fin x (a * (Q : Int))) (hy : Fin y (b * (Q : Int))) (ha : 0 ≤ a ∧ a < 1048576) (hb : 0 ≤ b ∧ b < 1048576) : ∃ q : Int, (Q : Int) = 4 * q ∧ FO (mnO [x, y]) ((a + b) * (2 * q)) ∧ FO (spO [x, y]) ((a - b) * (a - b) * q) ∧ Rep ((a - b) * (a - b) * q).natAbs ∧ 0 < q := by
  obtain ⟨E, hE⟩ : ∃ E : Nat, E = 1072 := ⟨_, rfl⟩
  refine ⟨((2 ^ E : Nat) : Int), ?_, ?_⟩
  · rw [Q_split (a := 2) (b := E) (by omega)]; rw [Int.natCast_mul]; rfl
  have hQ : (Q : Int) = 4 * ((2 ^ E : Nat) : Int) := by rw [Q_split (a := 2) (b := E) (by omega)]; rw [Int.natCast_mul]; rfl
  have hp : 0 < ((2 ^ E : Nat) : Int) := by have := Nat.two_pow_pos E; omega
  have rq : ∀ K : Int, K.natAbs ≤ 9007199254740991 → ∀ j : Nat, j ≤ 8 → Rep (K * ((2 ^ (E + j) : Nat) : Int)).natAbs := by
    intro K hK j hj
    rw [Int.natAbs_mul, Int.natAbs_natCast]
    exact rep_mk (by omega) (by omega)
  have rq0 : ∀ K : Int, K.natAbs ≤ 9007199254740991 → Rep (K * ((2 ^ E : Nat) : Int)).natAbs := fun K hK => rq K hK 0 (by omega)
  have rq1 : ∀ K : Int, K.natAbs ≤ 9007199254740991 → Rep (K * (2 * ((2 ^ E : Nat) : Int))).natAbs := fun K hK => by
    have := rq K hK 1 (by omega)
    rw [Nat.pow_succ, Int.natCast_mul, Int.mul_comm ((2 ^ E : Nat) : Int)] at this
    exact this
  have hsq : ((a - b) * (a - b)).natAbs ≤ 1099511627776 := by
    rw [Int.natAbs_mul]
    have h1 : (a - b).natAbs ≤ 1048576 := by omega
    exact Nat.mul_le_mul h1 h1
  obtain ⟨q, hq⟩ : ∃ q : Int, q = ((2 ^ E : Nat) : Int) := ⟨_, rfl⟩
  rw [← hq] at hQ hp rq0 rq1 ⊢
  obtain ⟨S, hS⟩ : ∃ S : Int, S = (a - b) * (a - b) := ⟨_, rfl⟩
  rw [← hS] at hsq ⊢
  have hc : Fin (cnt [x, y]) (2 * (Q : Int)) := int_fin_nat (n := 2) (by omega)
  have hcn : 2 * (Q : Int) ≠ 0 := by omega
  have s1 : FO (smO [x, y]) ((a + b) * (Q : Int)) := by
    show FO (opO .add (opO .add (some 0) (vl x)) (vl y)) _
    have t1 : FO (opO .add (some 0) (vl x)) (0 + a * (Q : Int)) := FO.add ⟨0, rfl, fin_zero⟩ (FO.vl hx) (by rw [Int.zero_add]; exact rep_int (by omega))
    rw [Int.zero_add] at t1
    have := t1.add (FO.vl hy) (by rw [← Int.add_mul]; exact rep_int (by omega))
    rw [← Int.add_mul] at this
    exact this
  have m1 : FO (mnO [x, y]) ((a + b) * (2 * q)) := by
    refine s1.div (FO.vl hc) ?_ (rq1 _ (by omega)) hcn
    rw [hQ, show (4 : Int) * q = 2 * (2 * q) by omega]
    generalize a + b = s
    simp only [Int.mul_assoc, Int.mul_left_comm, Int.mul_comm]
  refine ⟨m1, ?_, rq0 S (by omega), hp⟩
  have d1 : FO (opO .sub (vl x) (mnO [x, y])) ((a - b) * (2 * q)) := by
    have e : a * (Q : Int) - (a + b) * (2 * q) = (a - b) * (2 * q) := by
      rw [hQ, Int.add_mul, Int.sub_mul, show a * (4 * q) = a * (2 * q) + a * (2 * q) by rw [← Int.mul_add]; congr 1; omega]
      omega
    have := (FO.vl hx).sub m1 (by rw [e]; exact rq1 _ (by omega))
    rw [e] at this
    exact this
  have d2 : FO (opO .sub (vl y) (mnO [x, y])) ((b - a) * (2 * q)) := by
    have e : b * (Q : Int) - (a + b) * (2 * q) = (b - a) * (2 * q) := by
      rw [hQ, Int.add_mul, Int.sub_mul, show b * (4 * q) = b * (2 * q) + b * (2 * q) by rw [← Int.mul_add]; congr 1; omega]
      omega
    have := (FO.vl hy).sub m1 (by rw [e]; exact rq1 _ (by omega))
    rw [e] at this
    exact this
  have p1 : FO (opO .mul (opO .sub (vl x) (mnO [x, y])) (opO .sub (vl x) (mnO [x, y]))) (S * q) := by
    refine d1.mul d1 ?_ (rq0 S (by omega))
    rw [hQ, hS, show (4 : Int) * q = 2 * (2 * q) by omega]
    simp only [Int.mul_assoc, Int.mul_left_comm, Int.mul_comm]
  have p2 : FO (opO .mul (opO .sub (vl y) (mnO [x, y])) (opO .sub (vl y) (mnO [x, y]))) (S * q) := by
    refine d2.mul d2 ?_ (rq0 S (by omega))
    have e : S = (b - a) * (b - a) := by rw [hS, show b - a = -(a - b) by omega, Int.neg_mul_neg]
    rw [hQ, e, show (4 : Int) * q = 2 * (2 * q) by omega]
    simp only [Int.mul_assoc, Int.mul_left_comm, Int.mul_comm]
  have s2 : FO (sqO (mnO [x, y]) [x, y]) (S * (2 * q)) := by
    show FO (opO .add (opO .add (some 0) (opO .mul (opO .sub (vl x) (mnO [x, y])) (opO .sub (vl x) (mnO [x, y])))) (opO .mul (opO .sub (vl y) (mnO [x, y])) (opO .sub (vl y) (mnO [x, y])))) _
    have t1 := FO.add ⟨0, rfl, fin_zero⟩ p1 (by rw [Int.zero_add]; exact rq0 S (by omega))
    rw [Int.zero_add] at t1
    have e : S * q + S * q = S * (2 * q) := by rw [← Int.mul_add]; congr 1; omega
    have := t1.add p2 (by rw [e]; exact rq1 S (by omega))
    rw [e] at this
    exact this
  unfold spO
  refine s2.div (FO.vl hc) ?_ (rq0 S (by omega)) hcn
  rw [hQ]
  simp only [Int.mul_assoc, Int.mul_left_comm, Int.mul_comm]
end N
end Go.Proofs.Ytfkoacjfihaajaa
