import Derived.Below
set_option linter.unusedVariables false
set_option linter.unusedSimpArgs false
namespace Go.Proofs.Ytollaamlnddhcaa
namespace Bf
section
variable {κ : Type} [DecidableEq κ]
/-- a list, and behind it those of another one that do not stand in it yet -/
def add (l : List κ) : List κ → List κ
  | [] => l
  | k :: xs => add (if k ∈ l then l else l ++ [k]) xs
/-- the list that breadth-first makes, after n turns -/
def st (F : κ → List κ) (fr : List κ) : Nat → List κ
  | 0 => add [] fr
  | n + 1 => match (st F fr n)[n]? with
    | some k => add (st F fr n) (F k)
    | none => st F fr n
theorem add_nil (l : List κ) : add l [] = l := rfl
theorem add_old {l : List κ} {k : κ} (h : k ∈ l) (xs : List κ) : add l (k :: xs) = add l xs := by simp [add, h]
theorem add_new {l : List κ} {k : κ} (h : k ∉ l) (xs : List κ) : add l (k :: xs) = add (l ++ [k]) xs := by simp [add, h]
theorem add_append (l xs ys : List κ) : add l (xs ++ ys) = add (add l xs) ys := by
  induction xs generalizing l with
  | nil => rfl
  | cons a r ih => exact ih _
theorem add_snoc_old {l xs : List κ} {k : κ} (h : k ∈ add l xs) : add l (xs ++ [k]) = add l xs := by rw [add_append, add_old h, add_nil]
theorem add_snoc_new {l xs : List κ} {k : κ} (h : k ∉ add l xs) : add l (xs ++ [k]) = add l xs ++ [k] := by rw [add_append, add_new h, add_nil]
theorem mem_add {l xs : List κ} {k : κ} : k ∈ add l xs ↔ k ∈ l ∨ k ∈ xs := by
  induction xs generalizing l with
  | nil => simp [add]
  | cons a r ih =>
    by_cases h : a ∈ l
    · rw [add_old h, ih]
      constructor
      · rintro (q | q)
        · exact .inl q
        · exact .inr (List.mem_cons_of_mem _ q)
      · rintro (q | q)
        · exact .inl q
        · rcases List.mem_cons.1 q with rfl | q
          · exact .inl h
          · exact .inr q
    · rw [add_new h, ih]
      simp [or_assoc]
theorem add_nodup {l : List κ} (h : l.Nodup) (xs : List κ) : (add l xs).Nodup := by
  induction xs generalizing l with
  | nil => exact h
  | cons a r ih =>
    by_cases q : a ∈ l
    · rw [add_old q]; exact ih h
    · rw [add_new q]
      refine ih ?_
      rw [List.nodup_append]
      exact ⟨h, by simp, fun x hx y hy => by simp at hy; subst hy; exact fun e => q (e ▸ hx)⟩
theorem add_prefix (l xs : List κ) : l <+: add l xs := by
  induction xs generalizing l with
  | nil => exact List.prefix_refl _
  | cons a r ih =>
    by_cases q : a ∈ l
    · rw [add_old q]; exact ih l
    · rw [add_new q]; exact (List.prefix_append l [a]).trans (ih _)
theorem add_len (l xs : List κ) : l.length ≤ (add l xs).length := (add_prefix l xs).length_le
theorem add_len_le (l xs : List κ) : (add l xs).length ≤ l.length + xs.length := by
  induction xs generalizing l with
  | nil => simp [add]
  | cons a r ih =>
    by_cases q : a ∈ l
    · rw [add_old q]; have := ih l; simp; omega
    · rw [add_new q]; have := ih (l ++ [a]); simp at this ⊢; omega
theorem nodup_le {l u : List κ} (h : l.Nodup) (hs : ∀ k ∈ l, k ∈ u) : l.length ≤ u.length := by
  induction l generalizing u with
  | nil => simp
  | cons a r ih =>
    obtain ⟨h1, h2⟩ := List.nodup_cons.1 h
    have ha : a ∈ u := hs a (by simp)
    have := ih (u := u.erase a) h2 (fun k hk => (List.mem_erase_of_ne (fun (e : k = a) => h1 (e ▸ hk))).2 (hs k (by simp [hk])))
    rw [List.length_erase_of_mem ha] at this
    have hp := List.length_pos_of_mem ha
    simp; omega
variable {F : κ → List κ} {fr u : List κ}
theorem st_some {n : Nat} {k : κ} (h : (st F fr n)[n]? = some k) : st F fr (n + 1) = add (st F fr n) (F k) := by simp [st, h]
theorem st_none {n : Nat} (h : (st F fr n)[n]? = none) : st F fr (n + 1) = st F fr n := by simp [st, h]
theorem st_nodup (n : Nat) : (st F fr n).Nodup := by
  induction n with
  | zero => exact add_nodup (by simp) _
  | succ n ih =>
    cases h : (st F fr n)[n]? with
    | some k => rw [st_some h]; exact add_nodup ih _
    | none => rw [st_none h]; exact ih
theorem st_sub (h1 : ∀ k ∈ fr, k ∈ u) (h2 : ∀ k ∈ u, ∀ j ∈ F k, j ∈ u) (n : Nat) : ∀ k ∈ st F fr n, k ∈ u := by
  induction n with
  | zero => intro k hk; rcases mem_add.1 hk with q | q; cases q; exact h1 k q
  | succ n ih =>
    cases h : (st F fr n)[n]? with
    | some a =>
      rw [st_some h]; intro k hk
      rcases mem_add.1 hk with q | q
      · exact ih k q
      · exact h2 a (ih a (List.mem_of_getElem? h)) k q
    | none => rw [st_none h]; exact ih
theorem st_le (h1 : ∀ k ∈ fr, k ∈ u) (h2 : ∀ k ∈ u, ∀ j ∈ F k, j ∈ u) (n : Nat) : (st F fr n).length ≤ u.length := nodup_le (st_nodup n) (st_sub h1 h2 n)
theorem st_prefix {n m : Nat} (h : n ≤ m) : st F fr n <+: st F fr m := by
  induction m with
  | zero => obtain rfl : n = 0 := by omega
            exact List.prefix_refl _
  | succ m ih =>
    rcases Nat.lt_or_ge m n with q | q
    · obtain rfl : n = m + 1 := by omega
      exact List.prefix_refl _
    · refine (ih q).trans ?_
      cases h : (st F fr m)[m]? with
      | some a => rw [st_some h]; exact add_prefix _ _
      | none => rw [st_none h]; exact List.prefix_refl _
theorem st_stop {n m : Nat} (h : (st F fr n).length ≤ n) (hm : n ≤ m) : st F fr m = st F fr n := by
  induction m with
  | zero => obtain rfl : n = 0 := by omega
            rfl
  | succ m ih =>
    rcases Nat.lt_or_ge m n with q | q
    · obtain rfl : n = m + 1 := by omega
      rfl
    · rw [st_none, ih q]
      rw [ih q]; exact List.getElem?_eq_none (by omega)
theorem st_one {n m : Nat} (h : (st F fr n).length ≤ n) (k : (st F fr m).length ≤ m) : st F fr m = st F fr n := by
  rcases Nat.le_total n m with q | q
  · exact st_stop h q
  · exact (st_stop k q).symm
theorem getElem?_prefix {α : Type} {l m : List α} (h : l <+: m) {i : Nat} {a : α} (e : l[i]? = some a) : m[i]? = some a := by
  obtain ⟨r, rfl⟩ := h
  have := (List.getElem?_eq_some_iff.1 e).1
  rw [List.getElem?_append_left this]; exact e
end
section
variable {κ μ : Type} [DecidableEq κ] [DecidableEq μ]
theorem add_map {f : κ → μ} {u : List κ} (inj : ∀ a ∈ u, ∀ b ∈ u, f a = f b → a = b) {l xs : List κ} (hl : ∀ k ∈ l, k ∈ u) (hx : ∀ k ∈ xs, k ∈ u) :
    (add l xs).map f = add (l.map f) (xs.map f) := by
  induction xs generalizing l with
  | nil => rfl
  | cons a r ih =>
    have ha : a ∈ u := hx a (by simp)
    have hr : ∀ k ∈ r, k ∈ u := fun k hk => hx k (by simp [hk])
    by_cases q : a ∈ l
    · rw [add_old q, List.map_cons, add_old (List.mem_map_of_mem q)]; exact ih hl hr
    · have q' : f a ∉ l.map f := by
        intro e; obtain ⟨b, hb, e⟩ := List.mem_map.1 e
        exact q (inj b (hl b hb) a ha e ▸ hb)
      rw [add_new q, List.map_cons, add_new q', ih (fun k hk => by
        rcases List.mem_append.1 hk with h | h
        · exact hl k h
        · simp at h; subst h; exact ha) hr]
      simp
theorem st_map {f : κ → μ} {u fr : List κ} {F : κ → List κ} {G : μ → List μ} (inj : ∀ a ∈ u, ∀ b ∈ u, f a = f b → a = b) (h1 : ∀ k ∈ fr, k ∈ u) (h2 : ∀ k ∈ u, ∀ j ∈ F k, j ∈ u) (hF : ∀ k ∈ u, G (f k) = (F k).map f) (n : Nat) :
    (st F fr n).map f = st G (fr.map f) n := by
  induction n with
  | zero => exact add_map inj (by simp) h1
  | succ n ih =>
    cases h : (st F fr n)[n]? with
    | some a =>
      have h' : (st G (fr.map f) n)[n]? = some (f a) := by rw [← ih, List.getElem?_map, h]; rfl
      have ha := st_sub h1 h2 n a (List.mem_of_getElem? h)
      rw [st_some h, st_some h', hF a ha, ← ih]
      exact add_map inj (st_sub h1 h2 n) (h2 a ha)
    | none =>
      have h' : (st G (fr.map f) n)[n]? = none := by rw [← ih, List.getElem?_map, h]; rfl
      rw [st_none h, st_none h', ih]
end
end Bf
end Go.Proofs.Ytollaamlnddhcaa
