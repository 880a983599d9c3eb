import Derived.Test.YtbgjggblaeadlaaChn
set_option linter.unusedVariables false
set_option linter.unusedSimpArgs false
namespace Go.Proofs.Ytbgjggblaeadlaa
namespace X
open C F
theorem mem_last {m : Int} : ∀ {D : List Int}, m ∈ D → ∃ E F, D = E ++ m :: F ∧ m ∉ F := by
  intro D
  induction D with
  | nil => intro h; simp at h
  | cons a t ih =>
    intro h
    by_cases ht : m ∈ t
    · obtain ⟨E, F, e, hF⟩ := ih ht
      exact ⟨a :: E, F, by rw [e]; rfl, hF⟩
    · have : m = a := by
        rcases List.mem_cons.1 h with h | h
        · exact h
        · exact absurd h ht
      subst this
      exact ⟨[], t, rfl, ht⟩
theorem getD_app_left {A B : List Int} {i : Nat} (h : i < A.length) : (A ++ B).getD i 0 = A.getD i 0 := by
  simp [List.getD, List.getElem?_append_left h]
theorem getD_app_right {A B : List Int} {i : Nat} : (A ++ B).getD (A.length + i) 0 = B.getD i 0 := by
  simp [List.getD, List.getElem?_append_right (Nat.le_add_right _ _)]
theorem falls_of {A : List Int} {x : Int} {D : List Int} (h : D.Pairwise (· ≥ ·)) : Falls (A ++ x :: D) (A.length : Int) := by
  intro i hi hl
  obtain ⟨j, rfl⟩ : ∃ j, i = A.length + (j + 1) := ⟨i - A.length - 1, by omega⟩
  rw [Nat.add_assoc, getD_app_right, getD_app_right]
  rw [List.length_append, List.length_cons] at hl
  have h1 : j < D.length := by omega
  have h2 : j + 1 < D.length := by omega
  show (x :: D).getD (j + 1 + 1) 0 ≤ (x :: D).getD (j + 1) 0
  simp only [List.getD, List.getElem?_cons_succ, List.getElem?_eq_getElem h1, List.getElem?_eq_getElem h2, Option.getD_some]
  exact List.pairwise_iff_getElem.1 h j (j + 1) h1 h2 (by omega)
theorem set_mid (A : List Int) (x y : Int) (B : List Int) : (A ++ x :: B).set A.length y = A ++ y :: B := by
  induction A with
  | nil => rfl
  | cons a t ih => rw [List.cons_append, List.length_cons, List.set_cons_succ, ih]; rfl
theorem nx_mk {A E F : List Int} {x y : Int} (hxy : x < y) (hp : (E ++ y :: F).Pairwise (· ≥ ·)) (hF : ∀ v ∈ F, v ≤ x) : Nx (A ++ x :: (E ++ y :: F)) (A ++ y :: (E ++ x :: F).reverse) := by
  have hl : (A ++ x :: (E ++ y :: F)).length = A.length + (E.length + F.length + 2) := by simp; omega
  have gp : (A ++ x :: (E ++ y :: F)).getD A.length 0 = x := by simp
  have gg : (A ++ x :: (E ++ y :: F)).getD (A.length + (E.length + 1)) 0 = y := by
    rw [getD_app_right]
    show (E ++ y :: F).getD E.length 0 = y
    simp
  refine ⟨A.length, A.length + (E.length + 1), by omega, by omega, ?_, falls_of hp, by rw [gp, gg]; exact hxy, fun i h1 h2 => ?_, ?_⟩
  · rw [gp, getD_app_right]
    show x < (E ++ y :: F).getD 0 0
    cases E with
    | nil => exact hxy
    | cons e E' =>
      have : y ≤ e := by
        rw [List.cons_append, List.pairwise_cons] at hp
        exact hp.1 y (by simp)
      show x < e
      omega
  · rw [gp]
    obtain ⟨j, rfl⟩ : ∃ j, i = A.length + (E.length + (j + 1) + 1) := ⟨i - A.length - E.length - 2, by omega⟩
    rw [getD_app_right]
    show (E ++ y :: F).getD (E.length + (j + 1)) 0 ≤ x
    rw [getD_app_right]
    show F.getD j 0 ≤ x
    have hj : j < F.length := by omega
    simp only [List.getD, List.getElem?_eq_getElem hj, Option.getD_some]
    exact hF _ (List.getElem_mem hj)
  · unfold nxt swp
    rw [gp, gg, set_mid]
    have e2 : (A ++ y :: (E ++ y :: F)).set (A.length + (E.length + 1)) x = A ++ y :: (E ++ x :: F) := by
      have := set_mid (A ++ y :: E) y x F
      rw [List.length_append, List.length_cons, List.append_assoc, List.append_assoc] at this
      exact this
    rw [e2]
    have e3 : (A ++ y :: (E ++ x :: F)).take (A.length + 1) = A ++ [y] := by
      rw [show A ++ y :: (E ++ x :: F) = (A ++ [y]) ++ (E ++ x :: F) by simp, List.take_left' (by simp)]
    have e4 : (A ++ y :: (E ++ x :: F)).drop (A.length + 1) = E ++ x :: F := by
      rw [show A ++ y :: (E ++ x :: F) = (A ++ [y]) ++ (E ++ x :: F) by simp, List.drop_left' (by simp)]
    rw [e3, e4]
    simp
/-- the document's next list is the program's -/
theorem nx_ref {l : List Int} {p : Nat} {x m : Int} {R : List Int} (hx : l[p]? = some x) (hD : (l.drop (p + 1)).Pairwise (· ≥ ·)) (hm : m ∈ l.drop (p + 1)) (hxm : x < m) (hleast : ∀ v ∈ l.drop (p + 1), x < v → m ≤ v)
    (hR : R.Pairwise (· ≤ ·)) (hp : R.Perm ((l.drop p).erase m)) : Nx l (l.take p ++ m :: R) := by
  have hpl := (List.getElem?_eq_some_iff.1 hx).1
  have hxe := (List.getElem?_eq_some_iff.1 hx).2
  have hd : l.drop p = x :: l.drop (p + 1) := by rw [List.drop_eq_getElem_cons hpl, hxe]
  obtain ⟨E, F, e, hF⟩ := mem_last hm
  have hl : l = l.take p ++ x :: (E ++ m :: F) := by rw [← e, ← hd, List.take_append_drop]
  have hpE := hD
  rw [e] at hpE
  have hFx : ∀ v ∈ F, v ≤ x := fun v hv => by
    rcases Int.lt_or_le x v with h | h
    · have h1 := hleast v (by rw [e]; simp [hv]) h
      have h2 : v ≤ m := by
        have := (List.pairwise_append.1 hpE).2.1
        rw [List.pairwise_cons] at this
        exact this.1 v hv
      have : v = m := by omega
      rw [this] at hv
      exact absurd hv hF
    · exact h
  have hsort : ((E ++ x :: F).reverse).Pairwise (· ≤ ·) := by
    rw [List.pairwise_reverse]
    rw [List.pairwise_append] at hpE ⊢
    obtain ⟨q1, q2, q3⟩ := hpE
    rw [List.pairwise_cons] at q2 ⊢
    refine ⟨q1, ⟨fun v hv => hFx v hv, q2.2⟩, fun a ha b hb => ?_⟩
    have h1 := q3 a ha m (by simp)
    rcases List.mem_cons.1 hb with rfl | hb
    · show b ≤ a
      have : m ≤ a := h1
      omega
    · exact q3 a ha b (by simp [hb])
  have hperm : ((l.drop p).erase m).Perm (E ++ x :: F).reverse := by
    rw [List.perm_iff_count]
    intro a
    rw [List.count_erase, hd, e, List.count_reverse]
    simp only [List.count_cons, List.count_append]
    by_cases h : m = a
    · subst h; simp; omega
    · have : (m == a) = false := by simpa using h
      simp [this]; omega
  have hRe : R = (E ++ x :: F).reverse := List.Perm.eq_of_pairwise (le := fun a b : Int => a ≤ b) (fun a b _ _ h1 h2 => by omega) hR hsort (hp.trans hperm)
  rw [hRe]
  have := nx_mk (A := l.take p) hxm hpE hFx
  rw [← hl] at this
  exact this
theorem falls_all {l : List Int} (h : l.Pairwise (· ≥ ·)) : Falls l (-1) := by
  intro i _ hl
  have h1 : i < l.length := by omega
  simp only [List.getD, List.getElem?_eq_getElem h1, List.getElem?_eq_getElem hl, Option.getD_some]
  exact List.pairwise_iff_getElem.1 h i (i + 1) h1 hl (by omega)
theorem fz_in {zs : List Int} : ∀ {k : Nat} {v : Int}, v ∈ fz zs k → 0 ≤ v ∧ v < (k : Int) := by
  intro k
  induction k with
  | zero => intro v h; simp [fz] at h
  | succ k ih =>
    intro v h
    rcases List.mem_append.1 (show v ∈ fz zs k ++ List.replicate (max (zs.getD k 0) 0).toNat (k : Int) from h) with h | h
    · have := ih h; omega
    · have := (List.mem_replicate.1 h).2; omega
theorem fz_up (zs : List Int) : ∀ k, (fz zs k).Pairwise (· ≤ ·) := by
  intro k
  induction k with
  | zero => exact List.Pairwise.nil
  | succ k ih =>
    show (fz zs k ++ List.replicate (max (zs.getD k 0) 0).toNat (k : Int)).Pairwise (· ≤ ·)
    rw [List.pairwise_append]
    refine ⟨ih, List.pairwise_replicate.2 (Or.inr (Int.le_refl _)), fun a ha b hb => ?_⟩
    have h1 := (fz_in ha).2
    have h2 := (List.mem_replicate.1 hb).2
    omega
theorem fz_count (zs : List Int) : ∀ (k v : Nat), (fz zs k).count (v : Int) = if v < k then (max (zs.getD v 0) 0).toNat else 0 := by
  intro k
  induction k with
  | zero => intro v; simp [fz]
  | succ k ih =>
    intro v
    show (fz zs k ++ List.replicate (max (zs.getD k 0) 0).toNat (k : Int)).count (v : Int) = _
    rw [List.count_append, ih, List.count_replicate]
    by_cases h2 : v = k
    · subst h2
      simp
    · have h3 : ((k : Int) == (v : Int)) = false := by simp; omega
      rw [h3]
      by_cases h1 : v < k
      · have h4 : v < k + 1 := by omega
        simp [h1, h4]
      · have h4 : ¬ v < k + 1 := by omega
        simp [h1, h4]
/-- how often each number stands in a list -/
def cts (l : List Int) : List Int := (List.range 64).map fun (v : Nat) => ((l.count (v : Int) : Nat) : Int)
theorem cts_len (l : List Int) : (cts l).length = 64 := by simp [cts]
theorem cts_at (l : List Int) {v : Nat} (h : v < 64) : (cts l).getD v 0 = ((l.count (v : Int) : Nat) : Int) := by
  simp [cts, List.getD, List.getElem?_range h]
theorem rising_perm {l : List Int} (h : ∀ v ∈ l, 0 ≤ v ∧ v < 64) : (fz (cts l) 64).Perm l := by
  rw [List.perm_iff_count]
  intro a
  by_cases ha : 0 ≤ a ∧ a < 64
  · obtain ⟨v, rfl⟩ : ∃ v : Nat, a = (v : Int) := ⟨a.toNat, by omega⟩
    rw [fz_count, if_pos (by omega), cts_at l (by omega)]
    omega
  · rw [List.count_eq_zero.2 (fun q => ha (by have := fz_in q; omega)), List.count_eq_zero.2 (fun q => ha (h a q))]
end X
end Go.Proofs.Ytbgjggblaeadlaa
