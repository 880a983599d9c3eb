import Derived.Test.YtmcdifmbblbhgaaTurn
set_option linter.unusedVariables false
set_option linter.unusedSimpArgs false
namespace Go.Proofs.Ytmcdifmbblbhgaa
namespace V
section
variable {α : Type} [DecidableEq α]
/-- what has come, once one more has come -/
def addn (ks : List α) (k : α) : List α := if k ∈ ks then ks else ks ++ [k]
/-- the different ones, as they come -/
def dst (l : List α) : List α := l.foldl addn []
theorem mem_addn (ks : List α) (k x : α) : x ∈ addn ks k ↔ x ∈ ks ∨ x = k := by
  unfold addn
  split
  · rename_i h
    constructor
    · exact fun q => .inl q
    · rintro (q | q)
      · exact q
      · rw [q]; exact h
  · simp
theorem addn_len (ks : List α) (k : α) : (addn ks k).length = ks.length + if k ∈ ks then 0 else 1 := by
  unfold addn
  split <;> simp
theorem mem_fold (l acc : List α) (x : α) : x ∈ l.foldl addn acc ↔ x ∈ acc ∨ x ∈ l := by
  induction l generalizing acc with
  | nil => simp
  | cons a l ih => rw [List.foldl_cons, ih, mem_addn, List.mem_cons, or_assoc]
theorem mem_dst (l : List α) (x : α) : x ∈ dst l ↔ x ∈ l := by unfold dst; rw [mem_fold]; simp
theorem dst_snoc (l : List α) (k : α) : dst (l ++ [k]) = addn (dst l) k := by unfold dst; rw [List.foldl_append]; rfl
theorem dst_len_snoc (l : List α) (k : α) : (dst (l ++ [k])).length = (dst l).length + if k ∈ l then 0 else 1 := by
  rw [dst_snoc, addn_len]
  congr 1
  by_cases h : k ∈ l
  · rw [if_pos h, if_pos ((mem_dst l k).2 h)]
  · rw [if_neg h, if_neg (fun q => h ((mem_dst l k).1 q))]
theorem fold_le (l acc : List α) : (l.foldl addn acc).length ≤ acc.length + l.length := by
  induction l generalizing acc with
  | nil => simp
  | cons a l ih =>
    have q := ih (addn acc a)
    rw [List.foldl_cons, List.length_cons]
    rw [addn_len] at q
    split at q <;> omega
theorem dst_le (l : List α) : (dst l).length ≤ l.length := by have := fold_le l []; simpa [dst] using this
theorem fold_eq (l acc : List α) : (l.foldl addn acc).length = acc.length + l.length ↔ l.Nodup ∧ ∀ x ∈ l, x ∉ acc := by
  induction l generalizing acc with
  | nil => simp
  | cons a l ih =>
    rw [List.foldl_cons, List.length_cons, List.nodup_cons]
    by_cases h : a ∈ acc
    · constructor
      · intro q
        have q2 := fold_le l (addn acc a)
        rw [addn_len, if_pos h] at q2
        omega
      · intro q
        exact absurd h (q.2 a (by simp))
    · have e : (addn acc a).length = acc.length + 1 := by rw [addn_len, if_neg h]
      have q := ih (addn acc a)
      rw [e] at q
      rw [show acc.length + (l.length + 1) = acc.length + 1 + l.length by omega, q]
      constructor
      · rintro ⟨h1, h2⟩
        refine ⟨⟨fun q => h2 a q ((mem_addn _ _ _).2 (.inr rfl)), h1⟩, ?_⟩
        intro x hx
        rcases List.mem_cons.1 hx with e | e
        · rw [e]; exact h
        · exact fun q => h2 x e ((mem_addn _ _ _).2 (.inl q))
      · rintro ⟨⟨h1, h2⟩, h3⟩
        refine ⟨h2, fun x hx q => ?_⟩
        rcases (mem_addn _ _ _).1 q with q | q
        · exact h3 x (List.mem_cons.2 (.inr hx)) q
        · rw [q] at hx; exact h1 hx
theorem dst_eq (l : List α) : (dst l).length = l.length ↔ l.Nodup := by
  have := fold_eq l []
  simp at this
  exact this
end
/-- numbered from 1 on, as they come: the greatest so far is g -/
def nmb : Int → List Int → Bool
  | _, [] => true
  | g, z :: zs => decide (1 ≤ z) && decide (z ≤ g + 1) && nmb (max g z) zs
/-- the greatest, and no less than g -/
def gre (g : Int) (zs : List Int) : Int := zs.foldl max g
theorem nmb_snoc (g : Int) (zs : List Int) (z : Int) : nmb g (zs ++ [z]) = (nmb g zs && (decide (1 ≤ z) && decide (z ≤ gre g zs + 1))) := by
  induction zs generalizing g with
  | nil => show (decide (1 ≤ z) && decide (z ≤ g + 1) && true) = (true && (decide (1 ≤ z) && decide (z ≤ g + 1))); rw [Bool.and_true, Bool.true_and]
  | cons a zs ih => show (decide (1 ≤ a) && decide (a ≤ g + 1) && nmb (max g a) (zs ++ [z])) = (decide (1 ≤ a) && decide (a ≤ g + 1) && nmb (max g a) zs && (decide (1 ≤ z) && decide (z ≤ gre (max g a) zs + 1))); rw [ih, Bool.and_assoc (decide (1 ≤ a) && decide (a ≤ g + 1))]
theorem nmb_app (g : Int) (xs ys : List Int) : nmb g (xs ++ ys) = (nmb g xs && nmb (gre g xs) ys) := by
  induction xs generalizing g with
  | nil => rw [List.nil_append]; rfl
  | cons a xs ih => rw [List.cons_append, nmb, nmb, ih, ← Bool.and_assoc]; rfl
theorem gre_snoc (g : Int) (zs : List Int) (z : Int) : gre g (zs ++ [z]) = max (gre g zs) z := by unfold gre; rw [List.foldl_append]; rfl
theorem gre_le (g : Int) (zs : List Int) : g ≤ gre g zs := by
  induction zs generalizing g with
  | nil => exact Int.le_refl _
  | cons a zs ih => exact Int.le_trans (Int.le_max_left g a) (ih (max g a))
theorem nmb_gre {g : Int} {zs : List Int} (h : nmb g zs = true) : gre g zs ≤ g + zs.length := by
  induction zs generalizing g with
  | nil => simp [gre]
  | cons a zs ih =>
    rw [nmb, Bool.and_eq_true, Bool.and_eq_true, decide_eq_true_eq, decide_eq_true_eq] at h
    have q := ih h.2
    have e : gre g (a :: zs) = gre (max g a) zs := rfl
    rw [e, List.length_cons]
    have : max g a ≤ g + 1 := Int.max_le.2 ⟨by omega, h.1.2⟩
    omega
end V
end Go.Proofs.Ytmcdifmbblbhgaa
