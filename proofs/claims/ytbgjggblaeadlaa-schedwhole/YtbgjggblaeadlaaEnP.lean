import Derived.Test.YtbgjggblaeadlaaWhS
import Derived.Test.YtbgjggblaeadlaaCrw
set_option linter.unusedVariables false
set_option linter.unusedSimpArgs false
namespace Go.Proofs.Ytbgjggblaeadlaa
open Go.RowKit
namespace O
open C X
/-- how many steps a task makes -/
def nns (zs : List Int) (i : Nat) : Int := max (zs.getD i 0) 1
/-- the first picks are all of tasks with steps left -/
def Pk (zs ps : List Int) (p : Nat) : Prop := ∀ q, q < p → ∃ i : Nat, i < zs.length ∧ ps.getD q 0 = (i : Int) ∧ 1 ≤ zs.getD i 0 ∧ ((tms (nns zs i) ps i q).length : Int) < nns zs i
theorem Pk.zero (zs ps : List Int) : Pk zs ps 0 := fun q hq => by omega
theorem Pk.succ {zs ps : List Int} {p : Nat} (h : Pk zs ps p) {i : Nat} (hi : i < zs.length) (h1 : ps.getD p 0 = (i : Int)) (h2 : 1 ≤ zs.getD i 0) (h3 : ((tms (nns zs i) ps i p).length : Int) < nns zs i) : Pk zs ps (p + 1) := fun q hq => by
  by_cases e : q = p
  · subst e; exact ⟨i, hi, h1, h2, h3⟩
  · exact h q (by omega)
theorem take_count {ps : List Int} {p : Nat} (hp : p < ps.length) (i : Int) : (ps.take (p + 1)).count i = (ps.take p).count i + (if ps.getD p 0 = i then 1 else 0) := by
  have e : ps[p]? = some (ps.getD p 0) := by simp [List.getD_eq_getElem?_getD, List.getElem?_eq_getElem hp]
  rw [List.take_add_one, e, List.count_append]
  simp only [Option.toList_some, List.count_singleton, beq_iff_eq]
theorem pk_count {zs ps : List Int} : ∀ {p : Nat}, p ≤ ps.length → Pk zs ps p → ∀ i : Nat, i < zs.length → (tms (nns zs i) ps i p).length = (ps.take p).count (i : Int) := by
  intro p
  induction p with
  | zero => intro _ _ i _; simp [tms]
  | succ p ih =>
    intro hp h i hi
    have q := ih (by omega) (fun q hq => h q (by omega)) i hi
    obtain ⟨k, hk, h1, h2, h3⟩ := h p (by omega)
    rw [take_count (by omega), ← q]
    by_cases e : k = i
    · subst e
      rw [tms_yes h1 h3, if_pos h1]
      simp
    · rw [tms_no (fun z => e (by have := h1.symm.trans z.1; omega)), if_neg (fun z => e (by have := h1.symm.trans z; omega))]
      rfl
/-- all picks made, all tasks ended: the counts are the steps -/
theorem pk_perm {zs ps : List Int} (h : Pk zs ps ps.length) (h2 : ∀ i : Nat, i < zs.length → 0 < zs.getD i 0 → ((tms (nns zs i) ps i ps.length).length : Int) = nns zs i) : ps.Perm (fz zs zs.length) := by
  refine perm_fz (fun v hv => ?_) (fun v hv => ?_)
  · obtain ⟨q, hq, e⟩ := List.getElem_of_mem hv
    obtain ⟨i, hi, h1, _, _⟩ := h q hq
    have : ps.getD q 0 = v := by simp [List.getD_eq_getElem?_getD, List.getElem?_eq_getElem hq, e]
    omega
  · have c := pk_count (Nat.le_refl _) h v hv
    rw [List.take_length] at c
    by_cases hz : 0 < zs.getD v 0
    · have := h2 v hv hz
      unfold nns at this c
      omega
    · have : (max (zs.getD v 0) 0).toNat = 0 := by omega
      rw [this]
      refine List.count_eq_zero_of_not_mem (fun hm => ?_)
      obtain ⟨q, hq, e⟩ := List.getElem_of_mem hm
      obtain ⟨i, hi, h1, h3, _⟩ := h q hq
      have : ps.getD q 0 = (v : Int) := by simp [List.getD_eq_getElem?_getD, List.getElem?_eq_getElem hq, e]
      have e2 : i = v := by omega
      subst e2
      omega
/-- and the other way -/
theorem perm_step {zs ps : List Int} (h : ps.Perm (fz zs zs.length)) {p : Nat} (hp : p < ps.length) (hk : Pk zs ps p) : ∃ i : Nat, i < zs.length ∧ ps.getD p 0 = (i : Int) ∧ 1 ≤ zs.getD i 0 ∧ ((tms (nns zs i) ps i p).length : Int) < nns zs i := by
  obtain ⟨h1, h2⟩ := fz_perm h
  have e : ps.getD p 0 = ps[p] := by simp [List.getD_eq_getElem?_getD, List.getElem?_eq_getElem hp]
  have hm : ps[p] ∈ ps := List.getElem_mem hp
  have hr := h1 _ hm
  obtain ⟨i, hi⟩ := Int.eq_ofNat_of_zero_le hr.1
  have hil : i < zs.length := by have := hr.2; omega
  have c := h2 i hil
  have c1 := pk_count (by omega) hk i hil
  have c2 := take_count hp (i : Int)
  rw [if_pos (by rw [e, hi])] at c2
  have c3 : (ps.take (p + 1)).count (i : Int) ≤ ps.count (i : Int) := (List.take_sublist _ _).count_le _
  refine ⟨i, hil, by rw [e, hi], by omega, ?_⟩
  unfold nns at c1 ⊢
  omega
theorem perm_pk {zs ps : List Int} (h : ps.Perm (fz zs zs.length)) : ∀ p, p ≤ ps.length → Pk zs ps p := by
  intro p
  induction p with
  | zero => intro _; exact Pk.zero _ _
  | succ p ih =>
    intro hp
    have q := ih (by omega)
    obtain ⟨i, a, b, c, d⟩ := perm_step h (by omega) q
    exact q.succ a b c d
theorem perm_end {zs ps : List Int} (h : ps.Perm (fz zs zs.length)) {i : Nat} (hi : i < zs.length) (hz : 0 < zs.getD i 0) : ((tms (nns zs i) ps i ps.length).length : Int) = nns zs i := by
  have c := pk_count (Nat.le_refl _) (perm_pk h _ (Nat.le_refl _)) i hi
  rw [List.take_length] at c
  have := (fz_perm h).2 i hi
  unfold nns at c ⊢
  omega
theorem perm_len {zs ps : List Int} (h : ps.Perm (fz zs zs.length)) : ps.length = sm zs := by
  rw [h.length_eq, fz_len zs _ (Nat.le_refl _), List.take_length]
/-- an end that is there -/
theorem ed_pos {n : Int} {ps : List Int} {i p : Nat} (hn : 1 ≤ n) : ed n (tms n ps i p) < 0 ↔ ((tms n ps i p).length : Int) ≠ n := by
  constructor
  · intro h e
    have h1 := ed_yes hn e
    unfold ed at h h1
    rw [if_pos e] at h h1
    have hl : (tms n ps i p).length - 1 < (tms n ps i p).length := by omega
    have hm : (tms n ps i p).getD ((tms n ps i p).length - 1) 0 ∈ tms n ps i p := by
      rw [List.getD_eq_getElem?_getD, List.getElem?_eq_getElem hl]
      exact List.getElem_mem hl
    have := tms_pos p _ hm
    omega
  · intro h
    unfold ed
    rw [if_neg h]
    decide
theorem en_ls {T : Nat} (cs : Nat → Nat) (nn : Nat → Int) (ts : Nat → List Int) {k : Nat} (h : k < T) : en (Ls T cs nn ts) (k : Int) = ed (nn k) (ts k) := by
  unfold en hs
  rw [Ls_len, decide_eq_true ⟨by omega, by omega⟩, if_pos rfl, Int.toNat_natCast, Ls_at cs nn ts h]
  rfl
end O
end Go.Proofs.Ytbgjggblaeadlaa
