import Derived.Test.YtbgjggblaeadlaaPik
set_option linter.unusedVariables false
set_option linter.unusedSimpArgs false
namespace Go.Proofs.Ytbgjggblaeadlaa
open Go.RowKit
namespace O
open C
/-- the moments at which a task of n steps makes them -/
def tms (n : Int) (ps : List Int) (i : Nat) : Nat → List Int
  | 0 => []
  | p + 1 => if ps.getD p 0 = (i : Int) ∧ ((tms n ps i p).length : Int) < n then tms n ps i p ++ [(p : Int)] else tms n ps i p
/-- its end -/
def ed (n : Int) (l : List Int) : Int := if (l.length : Int) = n then l.getD (l.length - 1) 0 else -1
variable {n : Int} {ps : List Int} {i : Nat}
theorem tms_yes {p : Nat} (h : ps.getD p 0 = (i : Int)) (h2 : ((tms n ps i p).length : Int) < n) : tms n ps i (p + 1) = tms n ps i p ++ [(p : Int)] := if_pos ⟨h, h2⟩
theorem tms_no {p : Nat} (h : ¬ (ps.getD p 0 = (i : Int) ∧ ((tms n ps i p).length : Int) < n)) : tms n ps i (p + 1) = tms n ps i p := if_neg h
theorem tms_le (p : Nat) : (tms n ps i p).length ≤ p := by
  induction p with
  | zero => exact Nat.le_refl _
  | succ p ih =>
    by_cases h : ps.getD p 0 = (i : Int) ∧ ((tms n ps i p).length : Int) < n
    · rw [tms_yes h.1 h.2, List.length_append]; simp; omega
    · rw [tms_no h]; omega
theorem tms_len (hn : 1 ≤ n) (p : Nat) : ((tms n ps i p).length : Int) ≤ n := by
  induction p with
  | zero => show ((0 : Nat) : Int) ≤ n; omega
  | succ p ih =>
    by_cases h : ps.getD p 0 = (i : Int) ∧ ((tms n ps i p).length : Int) < n
    · rw [tms_yes h.1 h.2, List.length_append]; simp; omega
    · rw [tms_no h]; exact ih
theorem tms_pos (p : Nat) : ∀ v ∈ tms n ps i p, 0 ≤ v := by
  induction p with
  | zero => intro v hv; simp [tms] at hv
  | succ p ih =>
    intro v hv
    by_cases h : ps.getD p 0 = (i : Int) ∧ ((tms n ps i p).length : Int) < n
    · rw [tms_yes h.1 h.2] at hv
      rcases List.mem_append.1 hv with hv | hv
      · exact ih v hv
      · simp at hv; omega
    · rw [tms_no h] at hv; exact ih v hv
theorem tms_pre (p q : Nat) : tms n ps i p <+: tms n ps i (p + q) := by
  induction q with
  | zero => exact List.prefix_refl _
  | succ q ih =>
    by_cases h : ps.getD (p + q) 0 = (i : Int) ∧ ((tms n ps i (p + q)).length : Int) < n
    · rw [show p + (q + 1) = p + q + 1 from rfl, tms_yes h.1 h.2]; exact ih.trans (List.prefix_append _ _)
    · rw [show p + (q + 1) = p + q + 1 from rfl, tms_no h]; exact ih
/-- a step's moment stands in its place -/
theorem tms_at {m P : Nat} (hm : m < P) (h : ps.getD m 0 = (i : Int)) (h2 : ((tms n ps i m).length : Int) < n) : (tms n ps i m).length < (tms n ps i P).length ∧ (tms n ps i P).getD (tms n ps i m).length 0 = (m : Int) := by
  have hp := tms_pre (n := n) (ps := ps) (i := i) (m + 1) (P - (m + 1))
  rw [show m + 1 + (P - (m + 1)) = P by omega, tms_yes h h2] at hp
  obtain ⟨r, hr⟩ := hp
  rw [← hr]
  refine ⟨by simp, ?_⟩
  simp [List.getD]
theorem ed_no {l : List Int} (h : (l.length : Int) < n) : ed n l = -1 := if_neg (by omega)
theorem ed_yes {p : Nat} (hn : 1 ≤ n) (h : ((tms n ps i p).length : Int) = n) : ed n (tms n ps i p) ≠ -1 := by
  unfold ed
  rw [if_pos h]
  have hl : (tms n ps i p).length - 1 < (tms n ps i p).length := by omega
  have : (tms n ps i p).getD ((tms n ps i p).length - 1) 0 ∈ tms n ps i p := by simp [List.getD, hl]
  have := tms_pos p _ this
  omega
theorem ed_app {l : List Int} {v : Int} (h : ((l.length : Int) + 1) = n) : ed n (l ++ [v]) = v := by
  unfold ed
  rw [if_pos (by simp; omega)]
  simp [List.getD]
/-- was the pick a step? -/
def Sd (T : Nat) (nn : Nat → Int) (ps : List Int) (p : Nat) : Prop := ∃ i : Nat, i < T ∧ ps.getD p 0 = (i : Int) ∧ ((tms (nn i) ps i p).length : Int) < nn i
noncomputable def sd (T : Nat) (nn : Nat → Int) (ps : List Int) (p : Nat) : Bool := @decide (Sd T nn ps p) (Classical.propDecidable _)
theorem sd_yes {T : Nat} {nn : Nat → Int} {p : Nat} (h : Sd T nn ps p) : sd T nn ps p = true := by unfold sd; exact @decide_eq_true _ (Classical.propDecidable _) h
theorem sd_no {T : Nat} {nn : Nat → Int} {p : Nat} (h : ¬ Sd T nn ps p) : sd T nn ps p = false := by unfold sd; exact @decide_eq_false _ (Classical.propDecidable _) h
def sT (f : Nat → Nat) : Nat → Nat
  | 0 => 0
  | t + 1 => sT f t + f t
theorem sT_same {f g : Nat → Nat} : ∀ T, (∀ j, j < T → g j = f j) → sT g T = sT f T := by
  intro T
  induction T with
  | zero => intro _; rfl
  | succ T ih => intro h; show sT g T + g T = sT f T + f T; rw [ih (fun j hj => h j (by omega)), h T (by omega)]
theorem sT_one {f g : Nat → Nat} {i : Nat} : ∀ T, i < T → g i = f i + 1 → (∀ j, j < T → j ≠ i → g j = f j) → sT g T = sT f T + 1 := by
  intro T
  induction T with
  | zero => intro h; omega
  | succ T ih =>
    intro hi hg h
    show sT g T + g T = sT f T + f T + 1
    by_cases q : i = T
    · subst q
      rw [hg, sT_same _ (fun j hj => h j (by omega) (by omega))]
      omega
    · rw [ih (by omega) hg (fun j hj => h j (by omega)), h T (by omega) (fun e => q e.symm)]
      omega
/-- how many steps were made -/
def st (T : Nat) (nn : Nat → Int) (ps : List Int) (p : Nat) : Nat := sT (fun i => (tms (nn i) ps i p).length) T
theorem st_succ (T : Nat) (nn : Nat → Int) (ps : List Int) (p : Nat) : st T nn ps (p + 1) = st T nn ps p + (if sd T nn ps p then 1 else 0) := by
  by_cases h : Sd T nn ps p
  · rw [sd_yes h, if_pos rfl]
    obtain ⟨i, hi, h1, h2⟩ := h
    refine sT_one T hi ?_ (fun j hj hne => ?_)
    · show (tms (nn i) ps i (p + 1)).length = _
      rw [tms_yes h1 h2]; simp
    · show (tms (nn j) ps j (p + 1)).length = _
      rw [tms_no (fun q => hne (by have := q.1; rw [h1] at this; omega))]
  · rw [sd_no h]
    have e := sT_same (f := fun i => (tms (nn i) ps i p).length) (g := fun i => (tms (nn i) ps i (p + 1)).length) T (fun j hj => by
      show (tms (nn j) ps j (p + 1)).length = _
      rw [tms_no (fun q => h ⟨j, hj, q.1, q.2⟩)])
    simpa [st] using e
theorem st_le (T : Nat) (nn : Nat → Int) (ps : List Int) : ∀ p, st T nn ps p ≤ p := by
  intro p
  induction p with
  | zero =>
    have e := sT_same (f := fun _ => 0) (g := fun i => (tms (nn i) ps i 0).length) T (fun j _ => rfl)
    have z : ∀ T, sT (fun _ => 0) T = 0 := fun T => by
      induction T with
      | zero => rfl
      | succ T ih => show sT _ T + 0 = 0; rw [ih]
    show sT _ T ≤ 0
    rw [e, z]
    exact Nat.le_refl _
  | succ p ih => rw [st_succ]; split <;> omega
theorem sT_le (f : Nat → Nat) : ∀ a b, a ≤ b → sT f a ≤ sT f b := by
  intro a b h
  induction b with
  | zero => rw [show a = 0 by omega]; exact Nat.le_refl _
  | succ b ih =>
    by_cases q : a = b + 1
    · rw [q]; exact Nat.le_refl _
    · exact Nat.le_trans (ih (by omega)) (Nat.le_add_right _ _)
/-- the tasks of a board -/
def Ls (T : Nat) (cs : Nat → Nat) (nn : Nat → Int) (ts : Nat → List Int) : List Tk := (List.range T).map (fun i => (ptr (cs i), ed (nn i) (ts i)))
theorem Ls_len (T : Nat) (cs : Nat → Nat) (nn : Nat → Int) (ts : Nat → List Int) : (Ls T cs nn ts).length = T := by simp [Ls]
theorem Ls_at {T : Nat} (cs : Nat → Nat) (nn : Nat → Int) (ts : Nat → List Int) {k : Nat} (h : k < T) : (Ls T cs nn ts)[k]? = some (ptr (cs k), ed (nn k) (ts k)) := by simp [Ls, h]
theorem Ls_same {T : Nat} (cs : Nat → Nat) (nn : Nat → Int) {ts ts' : Nat → List Int} (h : ∀ j, j < T → ed (nn j) (ts' j) = ed (nn j) (ts j)) : Ls T cs nn ts' = Ls T cs nn ts := by
  unfold Ls
  refine List.map_congr_left (fun j hj => ?_)
  rw [h j (List.mem_range.1 hj)]
theorem Ls_set {T : Nat} (cs : Nat → Nat) (nn : Nat → Int) {ts ts' : Nat → List Int} {k : Nat} (hk : k < T) (h : ∀ j, j < T → j ≠ k → ed (nn j) (ts' j) = ed (nn j) (ts j)) : (Ls T cs nn ts).set k (ptr (cs k), ed (nn k) (ts' k)) = Ls T cs nn ts' := by
  apply List.ext_getElem?
  intro j
  by_cases hj : j < T
  · rw [Ls_at cs nn ts' hj, List.getElem?_set]
    by_cases q : k = j
    · subst q; simp [Ls_len, hk]
    · rw [if_neg q, Ls_at cs nn ts hj, h j hj (fun e => q e.symm)]
  · rw [List.getElem?_eq_none (by simp [Ls_len]; omega), List.getElem?_eq_none (by simp [Ls_len]; omega)]
theorem Ls_more (T : Nat) (cs cs' : Nat → Nat) (nn : Nat → Int) (ts : Nat → List Int) (h : ∀ j, j < T → cs' j = cs j) (c : Nat) (hc : cs' T = c) (he : ed (nn T) (ts T) = -1) : Ls T cs nn ts ++ [(ptr c, -1)] = Ls (T + 1) cs' nn ts := by
  unfold Ls
  rw [List.range_succ, List.map_append, List.map_cons, List.map_nil, hc, he]
  congr 1
  refine List.map_congr_left (fun j hj => ?_)
  rw [h j (List.mem_range.1 hj)]
end O
end Go.Proofs.Ytbgjggblaeadlaa
