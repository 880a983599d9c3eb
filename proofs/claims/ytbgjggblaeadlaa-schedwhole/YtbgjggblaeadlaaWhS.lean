import Derived.Test.YtbgjggblaeadlaaWhR
set_option linter.unusedVariables false
set_option linter.unusedSimpArgs false
namespace Go.Proofs.Ytbgjggblaeadlaa
open Go.RowKit
namespace X
open C F A
theorem Pt.pre {k : Nat} {a b : List Int} (h : Pt k a b) : ∀ j, j ≤ k → ∃ c, Pt j a c := by
  induction h with
  | zero l =>
    intro j hj
    have e : j = 0 := by omega
    exact ⟨l, by rw [e]; exact .zero l⟩
  | @succ k a b c h1 hn ih =>
    intro j hj
    by_cases e : j = k + 1
    · subst e; exact ⟨c, .succ h1 hn⟩
    · exact ih j (by omega)
/-- each list that is told has the tasks' steps as its counts -/
theorem chn_perm {zs : List Int} {k : Nat} {l : List Int} (h : Chn zs k l) : l.Perm (fz zs zs.length) := by
  obtain ⟨N, hN, hc, hl, ha⟩ := all_lists _ (fz zs zs.length) rfl (fz_up zs _)
  have hf : Fin zs (N - 1 + 1) := hl.fin (by rw [List.pairwise_reverse]; exact fz_up zs _)
  have := fin_lt hf h
  obtain ⟨c, q⟩ := hl.pre k (by omega)
  rw [h.uniq (q.chn rfl)]
  exact q.perm
/-- picks with the right counts are one of the lists -/
theorem perm_fz {zs l : List Int} (h1 : ∀ v ∈ l, 0 ≤ v ∧ v < (zs.length : Int)) (h2 : ∀ v : Nat, v < zs.length → l.count (v : Int) = (max (zs.getD v 0) 0).toNat) : l.Perm (fz zs zs.length) := by
  rw [List.perm_iff_count]
  intro x
  by_cases hx : 0 ≤ x
  · obtain ⟨v, rfl⟩ := Int.eq_ofNat_of_zero_le hx
    rw [fz_count]
    by_cases hv : v < zs.length
    · rw [if_pos hv]; exact h2 v hv
    · rw [if_neg hv]
      exact List.count_eq_zero_of_not_mem (fun q => by have := (h1 _ q).2; omega)
  · rw [List.count_eq_zero_of_not_mem (fun q => hx (h1 _ q).1), List.count_eq_zero_of_not_mem (fun q => hx (fz_in q).1)]
/-- and the other way -/
theorem fz_perm {zs l : List Int} (h : l.Perm (fz zs zs.length)) : (∀ v ∈ l, 0 ≤ v ∧ v < (zs.length : Int)) ∧ (∀ v : Nat, v < zs.length → l.count (v : Int) = (max (zs.getD v 0) 0).toNat) := by
  refine ⟨fun v hv => fz_in (h.subset hv), fun v hv => ?_⟩
  rw [h.count_eq, fz_count, if_pos hv]
theorem one_of {zs l : List Int} (h : sm zs ≤ 8) : (∃ k, k < mn zs zs.length ∧ Chn zs k l) ↔ l.Perm (fz zs zs.length) :=
  ⟨fun ⟨k, _, q⟩ => chn_perm q, fun q => (fin_mn zs h).2 l q⟩
end X
end Go.Proofs.Ytbgjggblaeadlaa
