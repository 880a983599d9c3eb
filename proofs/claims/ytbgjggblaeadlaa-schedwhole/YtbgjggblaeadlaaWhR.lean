import Derived.Test.YtbgjggblaeadlaaWhQ
set_option linter.unusedVariables false
set_option linter.unusedSimpArgs false
namespace Go.Proofs.Ytbgjggblaeadlaa
open Go.RowKit
namespace X
open C F A
theorem pf_pos : ∀ l : List Int, 0 < pf l := by
  intro l
  induction l with
  | nil => show 0 < 1; omega
  | cons v t ih => exact Nat.mul_pos (by omega) ih
theorem pf_rep {x : Int} {L : List Int} (h : x ∉ L) : ∀ c, pf (L ++ List.replicate c x) = pf L * fa c := by
  intro c
  induction c with
  | zero => simp [fa]
  | succ c ih =>
    rw [List.replicate_succ, pf_mid, ih]
    have e : (L ++ List.replicate c x).count x = c := by
      rw [List.count_append, List.count_eq_zero_of_not_mem h, List.count_replicate_self]; omega
    rw [e]
    show (c + 1) * (pf L * fa c) = pf L * ((c + 1) * fa c)
    rw [Nat.mul_left_comm]
/-- how many lists the program's product says -/
def mn (zs : List Int) : Nat → Nat
  | 0 => 1
  | k + 1 => mn zs k * bn (sm (zs.take k)) (max (zs.getD k 0) 0).toNat
theorem mn_pf (zs : List Int) : ∀ k, k ≤ zs.length → sm (zs.take k) ≤ 8 → mn zs k * pf (fz zs k) = fa (sm (zs.take k)) := by
  intro k
  induction k with
  | zero => intro _ _; rfl
  | succ k ih =>
    intro hk hs
    rw [sm_take (by omega)] at hs ⊢
    have q := ih (by omega) (by omega)
    have hno : (k : Int) ∉ fz zs k := fun h => by have := (fz_in h).2; omega
    show mn zs k * bn (sm (zs.take k)) (max (zs.getD k 0) 0).toNat * pf (fz zs k ++ List.replicate (max (zs.getD k 0) 0).toNat (k : Int)) = _
    rw [pf_rep hno]
    have q2 := bn_fa (sm (zs.take k)) (by omega) (max (zs.getD k 0) 0).toNat (by omega)
    rw [← q2, ← q]
    generalize bn (sm (zs.take k)) (max (zs.getD k 0) 0).toNat = b
    generalize fa (max (zs.getD k 0) 0).toNat = f
    generalize mn zs k = a
    generalize pf (fz zs k) = p
    ac_rfl
/-- ALL ORDERS, AND NO OTHER -/
theorem fin_mn (zs : List Int) (h : sm zs ≤ 8) : Fin zs (mn zs zs.length) ∧ (∀ l, l.Perm (fz zs zs.length) → ∃ k, k < mn zs zs.length ∧ Chn zs k l) := by
  obtain ⟨N, hN, hc, hl, ha⟩ := all_lists _ (fz zs zs.length) rfl (fz_up zs _)
  have q := mn_pf zs zs.length (Nat.le_refl _) (by rw [List.take_length]; exact h)
  rw [← fz_len zs _ (Nat.le_refl _), ← hc] at q
  have e : mn zs zs.length = N := Nat.eq_of_mul_eq_mul_right (pf_pos _) q
  rw [e]
  refine ⟨?_, fun l hp => ?_⟩
  · have := hl.fin (by rw [List.pairwise_reverse]; exact fz_up zs _)
    rwa [show N - 1 + 1 = N by omega] at this
  · obtain ⟨k, hk, hh⟩ := ha l hp
    exact ⟨k, hk, hh.chn rfl⟩
end X
end Go.Proofs.Ytbgjggblaeadlaa
