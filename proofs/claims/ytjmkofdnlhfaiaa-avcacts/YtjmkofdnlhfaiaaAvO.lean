import Derived.Test.YtjmkofdnlhfaiaaAvM
set_option linter.unusedVariables false
set_option linter.unusedSimpArgs false
namespace Go.Proofs.Ytjmkofdnlhfaiaa
open Go.RowKit
namespace C
theorem erase_len {α : Type} [DecidableEq α] : ∀ (l1 l2 : List α), l1.Nodup → (∀ a, a ∈ l1 → a ∈ l2) → l1.length ≤ l2.length := by
  intro l1
  induction l1 with
  | nil => intro l2 _ _; exact Nat.zero_le _
  | cons x l ih =>
    intro l2 hn hs
    have hx := hs x (by simp)
    have h1 := List.length_erase_of_mem hx
    have hpos : 0 < l2.length := List.length_pos_of_mem hx
    have hn' := List.nodup_cons.1 hn
    have := ih (l2.erase x) hn'.2 (fun a ha => by
      have hne : a ≠ x := fun e => hn'.1 (e ▸ ha)
      exact (List.mem_erase_of_ne hne).2 (hs a (by simp [ha])))
    simp only [List.length_cons]
    omega
theorem same_len {α : Type} [DecidableEq α] {l1 l2 : List α} (h1 : l1.Nodup) (h2 : l2.Nodup) (h : ∀ a, a ∈ l1 ↔ a ∈ l2) : l1.length = l2.length :=
  Nat.le_antisymm (erase_len l1 l2 h1 (fun a ha => (h a).1 ha)) (erase_len l2 l1 h2 (fun a ha => (h a).2 ha))
/-- the triples of a set -/
def pl (f : Pf) : Nat → List Tr
  | 0 => []
  | k + 1 => pl f k ++ (match f k with | some d => [d.t] | none => [])
theorem pl_len (f : Pf) : ∀ k, (pl f k).length = hld f k := by
  intro k
  induction k with
  | zero => rfl
  | succ k ih => unfold pl hld; rw [List.length_append, ih]; cases f k <;> rfl
theorem pl_mem (f : Pf) (t : Tr) : ∀ k, t ∈ pl f k ↔ ∃ j d, j < k ∧ f j = some d ∧ d.t = t := by
  intro k
  induction k with
  | zero => exact ⟨(fun h => by cases h), fun ⟨j, d, h, _⟩ => by omega⟩
  | succ k ih =>
    unfold pl
    rw [List.mem_append, ih]
    constructor
    · rintro (⟨j, d, h1, h2, h3⟩ | h)
      · exact ⟨j, d, by omega, h2, h3⟩
      · cases hd : f k with
        | none => rw [hd] at h; cases h
        | some d => rw [hd] at h; exact ⟨k, d, by omega, hd, (show t = d.t by simpa using h).symm⟩
    · rintro ⟨j, d, h1, h2, h3⟩
      by_cases e : j = k
      · subst e; right; rw [h2]; simp [h3]
      · exact .inl ⟨j, d, by omega, h2, h3⟩
theorem pl_nodup (f : Pf) : ∀ k, (∀ j j' d d', j < k → j' < k → f j = some d → f j' = some d' → d.t = d'.t → j = j') → (pl f k).Nodup := by
  intro k
  induction k with
  | zero => intro _; exact List.nodup_nil
  | succ k ih =>
    intro hu
    unfold pl
    rw [List.nodup_append]
    refine ⟨ih (fun j j' d d' h1 h2 => hu j j' d d' (by omega) (by omega)), by cases f k <;> simp, fun a ha b hb e => ?_⟩
    obtain ⟨j, d, h1, h2, h3⟩ := (pl_mem f a k).1 ha
    cases hd : f k with
    | none => rw [hd] at hb; cases hb
    | some d' =>
      rw [hd] at hb
      have : b = d'.t := by simpa using hb
      have := hu j k d d' (by omega) (by omega) h2 hd (by rw [h3, e, this])
      omega
def pls (f : Nat → Pf) (v : Nat) : Nat → List Tr
  | 0 => []
  | k + 1 => pls f v k ++ pl (f k) v
theorem pls_len (f : Nat → Pf) (v : Nat) : ∀ k, (pls f v k).length = hsm f v k := by
  intro k
  induction k with
  | zero => rfl
  | succ k ih => unfold pls hsm; rw [List.length_append, ih, pl_len]
theorem pls_mem (f : Nat → Pf) (v : Nat) (t : Tr) : ∀ k, t ∈ pls f v k ↔ ∃ i, i < k ∧ t ∈ pl (f i) v := by
  intro k
  induction k with
  | zero => exact ⟨(fun h => by cases h), fun ⟨j, h, _⟩ => by omega⟩
  | succ k ih =>
    unfold pls
    rw [List.mem_append, ih]
    constructor
    · rintro (⟨i, h1, h2⟩ | h)
      · exact ⟨i, by omega, h2⟩
      · exact ⟨k, by omega, h⟩
    · rintro ⟨i, h1, h2⟩
      by_cases e : i = k
      · subst e; exact .inr h2
      · exact .inl ⟨i, by omega, h2⟩
variable {n v : Nat} {s : St} {xs : List Act}
def Sd (n v : Nat) (s : St) (t : Tr) : Prop := ∃ j d, j < v ∧ s.f (spt n t) j = some d ∧ d.t = t
theorem pls_nodup (h : Tv n v s xs) : ∀ k, k ≤ n → (pls s.f v k).Nodup := by
  intro k
  induction k with
  | zero => intro _; exact List.nodup_nil
  | succ k ih =>
    intro hk
    unfold pls
    rw [List.nodup_append]
    refine ⟨ih (by omega), pl_nodup _ v (fun j j' d d' h1 h2 => h.uniq k j j' d d' (by omega) h1 h2), fun a ha b hb e => ?_⟩
    obtain ⟨i, hi, hm⟩ := (pls_mem s.f v a k).1 ha
    obtain ⟨j, d, h1, h2, h3⟩ := (pl_mem (s.f i) a v).1 hm
    obtain ⟨j', d', h1', h2', h3'⟩ := (pl_mem (s.f k) b v).1 hb
    have e1 := h.spot i j d (by omega) h1 h2
    have e2 := h.spot k j' d' (by omega) h1' h2'
    rw [h3] at e1
    rw [h3', ← e] at e2
    omega
theorem pls_sd (h : Tv n v s xs) (hn : 1 ≤ n) (t : Tr) : t ∈ pls s.f v n ↔ Sd n v s t := by
  rw [pls_mem]
  constructor
  · rintro ⟨i, hi, hm⟩
    obtain ⟨j, d, h1, h2, h3⟩ := (pl_mem (s.f i) t v).1 hm
    have e1 := h.spot i j d hi h1 h2
    rw [h3] at e1
    exact ⟨j, d, h1, by rw [e1]; exact h2, h3⟩
  · rintro ⟨j, d, h1, h2, h3⟩
    exact ⟨spt n t, spt_lt hn t, (pl_mem _ t v).2 ⟨j, d, h1, h2, h3⟩⟩
/-- asked with the tag of its last Put: told just if it stands there; all that stands stays -/
theorem Tv.ask (h : Tv n v s xs) (hn : 1 ≤ n) {t : Tr} {x : Act} (hx : lst xs t = some x) : ((gta n v s x.tag t).2.1 = true ↔ Sd n v s t) ∧ ((gta n v s x.tag t).2.1 = true → (gta n v s x.tag t).1 = x.al) ∧ ∀ t', Sd n v (gta n v s x.tag t).2.2 t' ↔ Sd n v s t' := by
  refine ⟨⟨fun hg => ?_, fun ⟨j, d, h1, h2, h3⟩ => h.there hn h1 h2 h3 hx⟩, fun hg => ?_, fun t' => ?_⟩
  · cases hf : fst (has (s.f (spt n t)) t) v with
    | none => rw [gta_none hf] at hg; cases hg
    | some k =>
      obtain ⟨hk, hh, _⟩ := fst_some hf
      obtain ⟨d, hd, ht⟩ := has_true hh
      exact ⟨k, d, hk, hd, ht⟩
  · obtain ⟨y, h1, h2, h3⟩ := h.hit hn hg
    rw [hx] at h1
    cases h1
    exact h3.symm
  · constructor
    · rintro ⟨j, d, h1, h2, h3⟩
      obtain ⟨d0, h0, l⟩ := gta_from h2
      exact ⟨j, d0, h1, h0, by rw [← l.1]; exact h3⟩
    · rintro ⟨j, d, h1, h2, h3⟩
      cases hf : fst (has (s.f (spt n t)) t) v with
      | none => rw [gta_none hf]; exact ⟨j, d, h1, h2, h3⟩
      | some k =>
        obtain ⟨hk, hh, _⟩ := fst_some hf
        obtain ⟨d1, hd1, ht1⟩ := has_true hh
        obtain ⟨y, l1, l2, _⟩ := h.last _ k d1 (spt_lt hn t) hk hd1
        rw [ht1, hx] at l1
        cases l1
        rw [gta_hit hf hd1 l2.symm]
        by_cases e : spt n t' = spt n t ∧ j = k
        · rw [e.1, e.2] at h2
          rw [hd1] at h2
          cases h2
          exact ⟨k, mrk _, hk, by simp only [fup2_at]; rw [if_pos ⟨e.1, trivial⟩], h3⟩
        · exact ⟨j, d, h1, by simp only [fup2_at]; rw [if_neg e]; exact h2, h3⟩
/-- what was told, behind k calls -/
structure Tl (n v : Nat) (s0 : St) (xs : List Act) (k : Nat) (L : List Tr) : Prop where
  nd : L.Nodup
  mem : ∀ t, t ∈ L ↔ (Sd n v s0 t ∧ (lst (xs.take k) t).isSome = true)
variable {s0 : St} {k : Nat} {L : List Tr}
theorem tl0 : Tl n v s0 xs 0 [] := ⟨List.nodup_nil, fun t => ⟨(fun h => by cases h), (fun h => by rw [List.take_zero] at h; cases h.2)⟩⟩
theorem Tl.more (h : Tl n v s0 xs k L) {x : Act} (hx : xs[k]? = some x) (hd : x.d = 2) (hf : lst (xs.take k) x.t = none) (hs : Sd n v s0 x.t) : Tl n v s0 xs (k + 1) (x.t :: L) := by
  refine ⟨List.nodup_cons.2 ⟨fun q => ?_, h.nd⟩, fun t => ?_⟩
  · have := ((h.mem _).1 q).2
    rw [hf] at this
    cases this
  · rw [List.mem_cons, take_more hx, lst_add, h.mem]
    by_cases e : x.t = t
    · subst e
      rw [if_pos (isP_of hd rfl)]
      exact ⟨fun _ => ⟨hs, rfl⟩, fun _ => .inl rfl⟩
    · rw [if_neg (by rw [isP_not (fun q => e q.2)]; decide)]
      exact ⟨fun q => by rcases q with q | q; exact absurd q.symm e; exact q, fun q => .inr q⟩
theorem Tl.same (h : Tl n v s0 xs k L) {x : Act} (hx : xs[k]? = some x) (hc : x.d = 2 → (lst (xs.take k) x.t).isSome = true ∨ ¬ Sd n v s0 x.t) : Tl n v s0 xs (k + 1) L := by
  refine ⟨h.nd, fun t => ?_⟩
  rw [take_more hx, lst_add, h.mem]
  by_cases e : isP x.t x = true ∧ x.t = t
  · obtain ⟨e1, e2⟩ := e
    subst e2
    rw [if_pos e1]
    rcases hc (isP_true e1).1 with q | q
    · exact ⟨fun z => ⟨z.1, rfl⟩, fun z => ⟨z.1, q⟩⟩
    · exact ⟨fun z => absurd z.1 q, fun z => absurd z.1 q⟩
  · rw [if_neg]
    intro q
    have := isP_true q
    exact e ⟨isP_of this.1 rfl, this.2⟩
theorem Tl.fin (h : Tl n v s0 xs k L) (hk : xs.length ≤ k) (tv : Tv n v s0 xs) (hn : 1 ≤ n) : L.length = hsm s0.f v n := by
  rw [← pls_len]
  refine same_len h.nd (pls_nodup tv n (Nat.le_refl _)) (fun t => ?_)
  rw [h.mem, pls_sd tv hn, List.take_of_length_le hk]
  refine ⟨fun q => q.1, fun q => ⟨q, ?_⟩⟩
  obtain ⟨j, d, h1, h2, h3⟩ := q
  obtain ⟨x, l, _⟩ := tv.last _ j d (spt_lt hn t) h1 h2
  rw [h3] at l
  rw [l]
  rfl
end C
end Go.Proofs.Ytjmkofdnlhfaiaa
