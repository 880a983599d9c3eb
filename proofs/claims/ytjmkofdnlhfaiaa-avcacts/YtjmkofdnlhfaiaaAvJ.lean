import Derived.Test.YtjmkofdnlhfaiaaAvI
set_option linter.unusedVariables false
set_option linter.unusedSimpArgs false
namespace Go.Proofs.Ytjmkofdnlhfaiaa
open Go.RowKit
namespace C
theorem trn_f (v : Nat) : ∀ (m : Nat) (f : Pf) (k j : Nat), (trn v f k m).1 j = f j ∨ (trn v f k m).1 j = (f j).map umk := by
  intro m
  induction m with
  | zero => intro f k j; exact .inl rfl
  | succ m ih =>
    intro f k j
    cases hm : mkd f k with
    | false => rw [trn_no hm]; exact .inl rfl
    | true =>
      rw [trn_yes hm]
      have e : C.unm f k j = f j ∨ C.unm f k j = (f j).map umk := by
        by_cases q : j = k
        · subst q; exact .inr (fup_self _ _ _)
        · exact .inl (unm_ne q)
      rcases ih (C.unm f k) (nx v k) j with h | h
      · rcases e with e | e
        · exact .inl (h.trans e)
        · exact .inr (h.trans e)
      · rcases e with e | e
        · exact .inr (by rw [h, e])
        · exact .inr (by rw [h, e]; cases f j <;> rfl)
/-- two decisions that say the same, but for the mark -/
def Lk (d d' : De) : Prop := d'.t = d.t ∧ d'.tag = d.tag ∧ d'.al = d.al
theorem Lk.refl (d : De) : Lk d d := ⟨rfl, rfl, rfl⟩
theorem fup2_at {f : Nat → Pf} {i j i' j' : Nat} {d : Option De} : fup2 f i j d i' j' = if i' = i ∧ j' = j then d else f i' j' := by
  unfold fup2
  by_cases e : i' = i
  · subst e
    rw [fup_self]
    by_cases e2 : j' = j
    · subst e2; rw [fup_self, if_pos ⟨rfl, rfl⟩]
    · rw [fup_ne _ _ e2, if_neg (fun q => e2 q.2)]
  · rw [fup_ne _ _ e, if_neg (fun q => e q.1)]
variable {n v : Nat} {s : St}
/-- what a Get leaves stood there before -/
theorem gta_from {tag : Int} {t : Tr} {i j : Nat} {d' : De} (h : (gta n v s tag t).2.2.f i j = some d') : ∃ d, s.f i j = some d ∧ Lk d d' := by
  cases hf : fst (has (s.f (spt n t)) t) v with
  | none => rw [gta_none hf] at h; exact ⟨d', h, Lk.refl _⟩
  | some k =>
    obtain ⟨hk, hh, _⟩ := fst_some hf
    obtain ⟨d, hd, ht⟩ := has_true hh
    by_cases e : d.tag = tag
    · rw [gta_hit hf hd e] at h
      simp only [fup2_at] at h
      by_cases q : i = spt n t ∧ j = k
      · rw [if_pos q] at h
        cases h
        exact ⟨d, by rw [q.1, q.2]; exact hd, rfl, rfl, rfl⟩
      · rw [if_neg q] at h
        exact ⟨d', h, Lk.refl _⟩
    · rw [gta_old hf hd e] at h
      simp only [fup2_at] at h
      by_cases q : i = spt n t ∧ j = k
      · rw [if_pos q] at h; cases h
      · rw [if_neg q] at h
        exact ⟨d', h, Lk.refl _⟩
/-- where a Put puts it; all else stood there before -/
theorem pta_from {tag : Int} {t : Tr} {al : Bool} (hv : 1 ≤ v) (hh : s.h (spt n t) < v) (hu : ∀ j j' d d', j < v → j' < v → s.f (spt n t) j = some d → s.f (spt n t) j' = some d' → d.t = d'.t → j = j') :
    ∃ k, k < v ∧ (∃ mr, (pta n v s tag t al).f (spt n t) k = some ⟨t, tag, al, mr⟩) ∧ ∀ i j d', j < v → ¬ (i = spt n t ∧ j = k) → (pta n v s tag t al).f i j = some d' → ∃ d, s.f i j = some d ∧ Lk d d' ∧ (i = spt n t → d.t ≠ t) := by
  cases hf : fst (has (s.f (spt n t)) t) v with
  | some k =>
    obtain ⟨hk, hh', _⟩ := fst_some hf
    obtain ⟨d, hd, ht⟩ := has_true hh'
    refine ⟨k, hk, ⟨d.mr, ?_⟩, fun i j d' hj hn h => ?_⟩
    · rw [pta_same hf hd, ← ht]
      simp only [fup2_at]
      rw [if_pos ⟨trivial, trivial⟩]
    · rw [pta_same hf hd] at h
      simp only [fup2_at] at h
      rw [if_neg hn] at h
      refine ⟨d', h, Lk.refl _, fun e q => ?_⟩
      subst e
      exact hn ⟨rfl, (hu k j d d' hk hj hd h (ht.trans q.symm)).symm⟩
  | none =>
    have hno := fst_none hf
    have nt : ∀ j d, j < v → s.f (spt n t) j = some d → d.t ≠ t := fun j d hj hd q => by
      have := hno j hj
      rw [has_of hd q] at this
      cases this
    cases hr : fst (fre (s.f (spt n t))) v with
    | some k =>
      obtain ⟨hk, _, _⟩ := fst_some hr
      refine ⟨k, hk, ⟨false, ?_⟩, fun i j d' hj hn h => ?_⟩
      · rw [pta_room hf hr]
        simp only [fup2_at]
        rw [if_pos ⟨trivial, trivial⟩]
      · rw [pta_room hf hr] at h
        simp only [fup2_at] at h
        rw [if_neg hn] at h
        exact ⟨d', h, Lk.refl _, fun e => by subst e; exact nt j d' hj h⟩
    | none =>
      refine ⟨(trn v (s.f (spt n t)) (s.h (spt n t)) v).2, trn_lt v _ _ hh, ⟨false, ?_⟩, fun i j d' hj hn h => ?_⟩
      · rw [pta_turn hf hr]
        simp only [fup2_at]
        rw [if_pos ⟨trivial, trivial⟩]
      · rw [pta_turn hf hr] at h
        simp only [fup2_at] at h
        rw [if_neg hn] at h
        by_cases e : i = spt n t
        · subst e
          rw [fup_self] at h
          rcases trn_f v v (s.f (spt n t)) (s.h (spt n t)) j with q | q
          · rw [q] at h
            exact ⟨d', h, Lk.refl _, fun _ => nt j d' hj h⟩
          · rw [q] at h
            cases hd : s.f (spt n t) j with
            | none => rw [hd] at h; cases h
            | some d =>
              rw [hd] at h
              cases h
              exact ⟨d, rfl, ⟨rfl, rfl, rfl⟩, fun _ => nt j d hj hd⟩
        · rw [fup_ne _ _ e] at h
          exact ⟨d', h, Lk.refl _, fun q => absurd q e⟩
/-- A CACHE IS NEVER WRONG -/
structure Tv (n v : Nat) (s : St) (xs : List Act) : Prop where
  spot : ∀ i j d, i < n → j < v → s.f i j = some d → spt n d.t = i
  uniq : ∀ i j j' d d', i < n → j < v → j' < v → s.f i j = some d → s.f i j' = some d' → d.t = d'.t → j = j'
  last : ∀ i j d, i < n → j < v → s.f i j = some d → ∃ x, lst xs d.t = some x ∧ x.tag = d.tag ∧ x.al = d.al
theorem tv0 : Tv n v st0 [] := ⟨(fun _ _ _ _ _ h => by cases h), (fun _ _ _ _ _ _ _ _ h => by cases h), (fun _ _ _ _ _ h => by cases h)⟩
theorem Tv.more {xs : List Act} (h : Tv n v s xs) {x : Act} (hx : x.d ≠ 2) : Tv n v s (xs ++ [x]) :=
  ⟨h.spot, h.uniq, fun i j d hi hj hd => by
    obtain ⟨y, h1, h2⟩ := h.last i j d hi hj hd
    exact ⟨y, by rw [lst_add, if_neg (by rw [isP_not (fun q => hx q.1)]; decide)]; exact h1, h2⟩⟩
theorem Tv.get {xs : List Act} (h : Tv n v s xs) (tag : Int) (t : Tr) : Tv n v (gta n v s tag t).2.2 xs := by
  refine ⟨fun i j d hi hj hd => ?_, fun i j j' d d' hi hj hj' hd hd' e => ?_, fun i j d hi hj hd => ?_⟩
  · obtain ⟨d0, h0, q⟩ := gta_from hd
    rw [q.1]; exact h.spot i j d0 hi hj h0
  · obtain ⟨d0, h0, q⟩ := gta_from hd
    obtain ⟨d1, h1, q'⟩ := gta_from hd'
    exact h.uniq i j j' d0 d1 hi hj hj' h0 h1 (by rw [← q.1, ← q'.1]; exact e)
  · obtain ⟨d0, h0, q⟩ := gta_from hd
    obtain ⟨x, h1, h2, h3⟩ := h.last i j d0 hi hj h0
    exact ⟨x, by rw [q.1]; exact h1, by rw [q.2.1]; exact h2, by rw [q.2.2]; exact h3⟩
theorem Tv.put {xs : List Act} (h : Tv n v s xs) (hn : 1 ≤ n) (hv : 1 ≤ v) (hh : ∀ i, i < n → s.h i < v) {x : Act} (hx : x.d = 2) : Tv n v (pta n v s x.tag x.t x.al) (xs ++ [x]) ∧ ∃ j d, j < v ∧ (pta n v s x.tag x.t x.al).f (spt n x.t) j = some d ∧ d.t = x.t := by
  have hi := spt_lt hn x.t
  obtain ⟨k, hk, ⟨mr, hnew⟩, hold⟩ := pta_from (tag := x.tag) (al := x.al) hv (hh _ hi) (fun j j' d d' hj hj' => h.uniq _ j j' d d' hi hj hj')
  have other : ∀ i j d', i < n → j < v → ¬ (i = spt n x.t ∧ j = k) → (pta n v s x.tag x.t x.al).f i j = some d' → ∃ d, s.f i j = some d ∧ Lk d d' ∧ d.t ≠ x.t := fun i j d' hi' hj hne hd => by
    obtain ⟨d, h0, q, hd'⟩ := hold i j d' hj hne hd
    refine ⟨d, h0, q, fun e => ?_⟩
    have := h.spot i j d hi' hj h0
    rw [e] at this
    exact hd' this.symm e
  refine ⟨⟨fun i j d hi' hj hd => ?_, fun i j j' d d' hi' hj hj' hd hd' e => ?_, fun i j d hi' hj hd => ?_⟩, k, _, hk, hnew, rfl⟩
  · by_cases q : i = spt n x.t ∧ j = k
    · rw [q.1, q.2, hnew] at hd
      cases hd
      exact q.1.symm
    · obtain ⟨d0, h0, l, _⟩ := other i j d hi' hj q hd
      rw [l.1]; exact h.spot i j d0 hi' hj h0
  · by_cases q : i = spt n x.t ∧ j = k
    · by_cases q' : i = spt n x.t ∧ j' = k
      · rw [q.2, q'.2]
      · obtain ⟨d1, h1, l, ne⟩ := other i j' d' hi' hj' q' hd'
        rw [q.1, q.2, hnew] at hd
        cases hd
        exact absurd (by rw [← l.1]; exact e.symm) ne
    · obtain ⟨d0, h0, l0, ne⟩ := other i j d hi' hj q hd
      by_cases q' : i = spt n x.t ∧ j' = k
      · rw [q'.1, q'.2, hnew] at hd'
        cases hd'
        exact absurd (by rw [← l0.1]; exact e) ne
      · obtain ⟨d1, h1, l, ne⟩ := other i j' d' hi' hj' q' hd'
        exact h.uniq i j j' d0 d1 hi' hj hj' h0 h1 (by rw [← l.1, ← l0.1]; exact e)
  · by_cases q : i = spt n x.t ∧ j = k
    · rw [q.1, q.2, hnew] at hd
      cases hd
      exact ⟨x, by rw [lst_add, if_pos (isP_of hx rfl)], rfl, rfl⟩
    · obtain ⟨d0, h0, l, ne⟩ := other i j d hi' hj q hd
      obtain ⟨y, h1, h2, h3⟩ := h.last i j d0 hi' hj h0
      refine ⟨y, ?_, by rw [l.2.1]; exact h2, by rw [l.2.2]; exact h3⟩
      rw [lst_add, if_neg (by rw [isP_not (fun z => ne (by rw [← l.1]; exact z.2.symm))]; decide), l.1]
      exact h1
/-- a hit tells what the last Put said -/
theorem Tv.hit {xs : List Act} (h : Tv n v s xs) (hn : 1 ≤ n) {tag : Int} {t : Tr} (hg : (gta n v s tag t).2.1 = true) : ∃ x, lst xs t = some x ∧ x.tag = tag ∧ x.al = (gta n v s tag t).1 := by
  cases hf : fst (has (s.f (spt n t)) t) v with
  | none => rw [gta_none hf] at hg; cases hg
  | some k =>
    obtain ⟨hk, hh, _⟩ := fst_some hf
    obtain ⟨d, hd, ht⟩ := has_true hh
    by_cases e : d.tag = tag
    · obtain ⟨x, h1, h2, h3⟩ := h.last _ k d (spt_lt hn t) hk hd
      rw [gta_hit hf hd e]
      exact ⟨x, by rw [← ht]; exact h1, by rw [h2, e], h3⟩
    · rw [gta_old hf hd e] at hg; cases hg
theorem gta_miss {tag : Int} {t : Tr} (hg : (gta n v s tag t).2.1 = false) : (gta n v s tag t).1 = false := by
  cases hf : fst (has (s.f (spt n t)) t) v with
  | none => rw [gta_none hf]
  | some k =>
    obtain ⟨hk, hh, _⟩ := fst_some hf
    obtain ⟨d, hd, ht⟩ := has_true hh
    by_cases e : d.tag = tag
    · rw [gta_hit hf hd e] at hg; cases hg
    · rw [gta_old hf hd e]
/-- who stands there with the tag of the last Put is hit -/
theorem Tv.there {xs : List Act} (h : Tv n v s xs) (hn : 1 ≤ n) {t : Tr} {j : Nat} {d : De} (hj : j < v) (hd : s.f (spt n t) j = some d) (ht : d.t = t) {x : Act} (hx : lst xs t = some x) : (gta n v s x.tag t).2.1 = true := by
  have hi := spt_lt hn t
  cases hf : fst (has (s.f (spt n t)) t) v with
  | none => have := fst_none hf j hj; rw [has_of hd ht] at this; cases this
  | some k =>
    obtain ⟨hk, hh, _⟩ := fst_some hf
    obtain ⟨d', hd', ht'⟩ := has_true hh
    obtain ⟨y, h1, h2, _⟩ := h.last _ k d' hi hk hd'
    rw [ht', hx] at h1
    cases h1
    rw [gta_hit hf hd' h2.symm]
/-- the counts grow by one at most -/
theorem gta_cnt (tag : Int) (t : Tr) : (gta n v s tag t).2.2.hi + (gta n v s tag t).2.2.mi = s.hi + s.mi + 1 ∧ (gta n v s tag t).2.2.ev = s.ev ∧ (gta n v s tag t).2.2.hi = s.hi + (if (gta n v s tag t).2.1 then 1 else 0) := by
  cases hf : fst (has (s.f (spt n t)) t) v with
  | none => rw [gta_none hf]; exact ⟨by show s.hi + (s.mi + 1) = _; omega, rfl, rfl⟩
  | some k =>
    obtain ⟨hk, hh, _⟩ := fst_some hf
    obtain ⟨d, hd, ht⟩ := has_true hh
    by_cases e : d.tag = tag
    · rw [gta_hit hf hd e]; exact ⟨by show s.hi + 1 + s.mi = _; omega, rfl, rfl⟩
    · rw [gta_old hf hd e]; exact ⟨by show s.hi + (s.mi + 1) = _; omega, rfl, rfl⟩
theorem pta_cnt (tag : Int) (t : Tr) (al : Bool) : (pta n v s tag t al).hi = s.hi ∧ (pta n v s tag t al).mi = s.mi ∧ (pta n v s tag t al).ev ≤ s.ev + 1 := by
  cases hf : fst (has (s.f (spt n t)) t) v with
  | some k =>
    obtain ⟨hk, hh, _⟩ := fst_some hf
    obtain ⟨d, hd, ht⟩ := has_true hh
    rw [pta_same hf hd]; exact ⟨rfl, rfl, Nat.le_succ _⟩
  | none =>
    cases hr : fst (fre (s.f (spt n t))) v with
    | some k => rw [pta_room hf hr]; exact ⟨rfl, rfl, Nat.le_succ _⟩
    | none => rw [pta_turn hf hr]; exact ⟨rfl, rfl, Nat.le_refl _⟩
end C
end Go.Proofs.Ytjmkofdnlhfaiaa
