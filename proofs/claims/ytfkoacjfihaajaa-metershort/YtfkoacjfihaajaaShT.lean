import Derived.Test.YtfkoacjfihaajaaShS
set_option linter.unusedVariables false
set_option linter.unusedSimpArgs false
namespace Go.Proofs.Ytfkoacjfihaajaa
open Go.RowKit
namespace N
open Fl M
theorem bound_of {P1 P2 K1 K2 e : Nat} (he : e = 1177) (hk1 : K1 = 1201) (hk2 : K2 = 1050) (h1 : Fin P1 ((2 ^ K1 : Nat) : Int)) (h2 : Fin P2 ((2 ^ K2 : Nat) : Int)) : ∃ a b, Ieee.double.sub 4611686018427387904 P2 = some a ∧ Ieee.double.mul P1 a = some b ∧ Fin b ((Bd e : Nat) : Int) := by
  have hQ : Q = 16777216 * 2 ^ K2 := Q_split (a := 24) (b := K2) (by omega)
  have e1 : 2 * (Q : Int) - ((2 ^ K2 : Nat) : Int) = ((33554431 * 2 ^ K2 : Nat) : Int) := by rw [hQ]; omega
  obtain ⟨a, s1, f1⟩ := sub_ex two_fin h2 (by rw [e1, Int.natAbs_natCast]; exact rep_mk (by omega) (by omega))
  rw [e1] at f1
  have e2 : ((2 ^ K1 : Nat) : Int) * ((33554431 * 2 ^ K2 : Nat) : Int) = ((Bd e : Nat) : Int) * (Q : Int) := by
    obtain ⟨E, hE⟩ : ∃ E : Nat, E = 1074 := ⟨_, rfl⟩
    have e3 : 2 ^ K1 * (33554431 * 2 ^ K2) = Bd e * 2 ^ E := by
      unfold Bd
      rw [Nat.mul_assoc, ← Nat.pow_add, Nat.mul_left_comm, ← Nat.pow_add, show K1 + K2 = e + E by omega]
    rw [Q_def hE, ← Int.natCast_mul, ← Int.natCast_mul, e3]
  have : FO (opO .mul (some P1) (some a)) ((Bd e : Nat) : Int) := by
    refine FO.mul ⟨_, rfl, h1⟩ ⟨_, rfl, f1⟩ e2 ?_
    rw [Int.natAbs_natCast]; exact rep_mk (by omega) (by omega)
  obtain ⟨b, s2, f2⟩ := this
  exact ⟨a, b, s1, s2, f2⟩
theorem opO_div (x y : Nat) : opO .quo (some x) (some y) = Ieee.double.div x y := rfl
theorem opO_mul' (x y : Nat) : opO .mul (some x) (some y) = Ieee.double.mul x y := rfl
/-- what stands at the search's end -/
structure Ta (SZ UN : Nat) (R : Nat) (qb U rb U' yb : Nat) : Prop where
  dv : Ieee.double.div SZ UN = some qb
  cv : floatToIntVal .f64 qb .i64 = some ((U : Nat) : Int)
  sb : Ieee.double.sub qb (FloatKind.f64.nearest ((U : Nat) : Int)) = some rb
  four : (FloatKind.f64.format.order rb 4602678819172646912 = some .gt ∧ U' = U + 1) ∨ (FloatKind.f64.format.order rb 4602678819172646912 = some .eq ∧ U % 2 = 1 ∧ U' = U + 1) ∨ (FloatKind.f64.format.order rb 4602678819172646912 = some .eq ∧ U % 2 = 0 ∧ U' = U) ∨ (FloatKind.f64.format.order rb 4602678819172646912 = some .lt ∧ U' = U)
  ml : Ieee.double.mul (FloatKind.f64.nearest ((U' : Nat) : Int)) UN = some yb
  fy : Fin yb (R : Int)
  un : U ≤ 16777216
theorem tail_of {SZ UN S k e D : Nat} (hD : D = 925) (he : e = 1177) (hS : Fin SZ (S : Int)) (hb : S < Bd e) (hk : k ≤ 253) (hk0 : k = 0 ∨ ∀ K, K = 948 + k → 2 ^ K ≤ S) (hk1 : ∀ K, K = 949 + k → S < 2 ^ K) (hU : ∀ K, K = 925 + k → Fin UN ((2 ^ K : Nat) : Int)) : ∃ qb U rb U' yb, Ta SZ UN (vs D (rn 23 D S)) qb U rb U' yb := by
  obtain ⟨G, hG⟩ : ∃ G, G = 925 + k := ⟨_, rfl⟩
  have hUN := hU G hG
  obtain ⟨g, hg⟩ : ∃ g, g = 2 ^ G := ⟨_, rfl⟩
  rw [← hg] at hUN
  have hgp : 0 < g := by rw [hg]; exact Nat.two_pow_pos _
  obtain ⟨z, en⟩ := en_of (g := g) he hS hb (fun K hK => by rw [hg, hK, hG]) hk hk0 hk1
  have hlog := log_end hD hk0 hk1
  have hR : vs D (rn 23 D S) = cg S g * g := by
    unfold vs
    rw [V_rn, hlog, show k + D = G by omega, hg]; rfl
  -- the quotient
  have hdiv : FO (opO .quo (some SZ) (some UN)) (z : Int) := by
    refine FO.div ⟨_, rfl, hS⟩ ⟨_, rfl, hUN⟩ ?_ (by rw [Int.natAbs_natCast]; exact en.rz) (by omega)
    rw [← Int.natCast_mul, ← Int.natCast_mul, en.hz]
  obtain ⟨qb, dv, fq⟩ := hdiv
  have hcv : floatToIntVal .f64 qb .i64 = some ((S / g : Nat) : Int) := by
    have h1 := toInt_fin fq
    have h2 : z / Q = S / g := by
      have : z * g / (Q * g) = S * Q / (g * Q) := by rw [← en.hz, Nat.mul_comm Q g]
      rw [Nat.mul_div_mul_right _ _ hgp, Nat.mul_div_mul_right _ _ Q_pos] at this
      exact this
    unfold floatToIntVal
    rw [h1, h2]
    have := en.un
    generalize S / g = u at *
    simp only
    rw [if_pos ⟨by show (-9223372036854775808 : Int) ≤ _; omega, by show _ ≤ (9223372036854775807 : Int); omega⟩]
  have hun := en.un
  have hle := en.le
  have hrr := en.rr
  obtain ⟨H, hH⟩ : ∃ H, Q = 2 * H := by
    obtain ⟨E, hE⟩ : ∃ E : Nat, E = 1073 := ⟨_, rfl⟩
    exact ⟨2 ^ E, Q_split (a := 1) (b := E) (by omega)⟩
  have hrest := en.rest hgp hH
  have fU := int_fin_nat (n := S / g) (by omega)
  have e1 : (z : Int) - ((S / g : Nat) : Int) * (Q : Int) = ((z - S / g * Q : Nat) : Int) := by
    rw [← Int.natCast_mul]
    omega
  obtain ⟨rb, sb, fr⟩ := sub_ex fq fU (by rw [e1, Int.natAbs_natCast]; exact hrr)
  rw [e1] at fr
  have ho := order_fin fr (half_fin hH)
  rw [show Ieee.double.order rb 4602678819172646912 = FloatKind.f64.format.order rb 4602678819172646912 from rfl] at ho
  have hcg : cg S g = S / g + (if g < 2 * (S % g) ∨ (g = 2 * (S % g) ∧ S / g % 2 = 1) then 1 else 0) := rfl
  -- the product
  have hmul : ∀ U', U' = cg S g → ∃ yb, Ieee.double.mul (FloatKind.f64.nearest ((U' : Nat) : Int)) UN = some yb ∧ Fin yb ((vs D (rn 23 D S) : Nat) : Int) := by
    intro U' hU'
    have hub : U' ≤ 16777217 := by rw [hU', hcg]; split <;> omega
    have fU' := int_fin_nat (n := U') (by omega)
    have : FO (opO .mul (some (FloatKind.f64.nearest ((U' : Nat) : Int))) (some UN)) ((vs D (rn 23 D S) : Nat) : Int) := by
      refine FO.mul ⟨_, rfl, fU'⟩ ⟨_, rfl, hUN⟩ ?_ ?_
      · rw [hR, ← hU', Int.natCast_mul]
        generalize (Q : Int) = q
        simp only [Int.mul_assoc, Int.mul_left_comm, Int.mul_comm]
      · rw [Int.natAbs_natCast]; exact vs_rep hD (rn_short hD he hb)
    obtain ⟨yb, a, b⟩ := this
    exact ⟨yb, a, b⟩
  generalize z - S / g * Q = RR at *
  rcases Nat.lt_trichotomy H RR with q | q | q
  · have h1 := hrest.1.1 q
    obtain ⟨yb, m1, m2⟩ := hmul (S / g + 1) (by rw [hcg, if_pos (.inl h1)])
    refine ⟨qb, S / g, rb, S / g + 1, yb, dv, hcv, sb, .inl ⟨?_, rfl⟩, m1, m2, hun⟩
    rw [ho, Int.compare_eq_gt.2 (by omega)]
  · have h1 := hrest.2.1 q.symm
    have ho' : FloatKind.f64.format.order rb 4602678819172646912 = some .eq := by rw [ho, q, Int.compare_eq_eq.2 rfl]
    rcases Nat.mod_two_eq_zero_or_one (S / g) with p | p
    · obtain ⟨yb, m1, m2⟩ := hmul (S / g) (by rw [hcg, if_neg (by omega)]; rfl)
      exact ⟨qb, S / g, rb, S / g, yb, dv, hcv, sb, .inr (.inr (.inl ⟨ho', p, rfl⟩)), m1, m2, hun⟩
    · obtain ⟨yb, m1, m2⟩ := hmul (S / g + 1) (by rw [hcg, if_pos (.inr ⟨h1, p⟩)])
      exact ⟨qb, S / g, rb, S / g + 1, yb, dv, hcv, sb, .inr (.inl ⟨ho', p, rfl⟩), m1, m2, hun⟩
  · have h1 : ¬ g < 2 * (S % g) := fun y => by have := hrest.1.2 y; omega
    have h2 : ¬ g = 2 * (S % g) := fun y => by have := hrest.2.2 y; omega
    obtain ⟨yb, m1, m2⟩ := hmul (S / g) (by rw [hcg, if_neg (by omega)]; rfl)
    refine ⟨qb, S / g, rb, S / g, yb, dv, hcv, sb, .inr (.inr (.inr ⟨?_, rfl⟩)), m1, m2, hun⟩
    rw [ho, Int.compare_eq_lt.2 (by omega)]
end N
end Go.Proofs.Ytfkoacjfihaajaa
