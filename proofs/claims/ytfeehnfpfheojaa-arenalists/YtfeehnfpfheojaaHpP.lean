import Derived.Sort.Statements
set_option linter.unusedVariables false
set_option linter.unusedSimpArgs false
namespace Go.Proofs.Ytfeehnfpfheojaa
open Go.Sort
namespace Hp
variable {β : Type}
/-- two things in each other's places -/
def swp (zs : List β) (i j : Nat) : List β := match zs[i]?, zs[j]? with | some a, some b => (zs.set i b).set j a | _, _ => zs
theorem swp_some {zs : List β} {i j : Nat} {a b : β} (hi : zs[i]? = some a) (hj : zs[j]? = some b) : swp zs i j = (zs.set i b).set j a := by
  unfold swp
  rw [hi, hj]
theorem swp_length (zs : List β) (i j : Nat) : (swp zs i j).length = zs.length := by
  unfold swp
  split <;> simp
theorem swp_get {zs : List β} {i j : Nat} (hi : i < zs.length) (hj : j < zs.length) (k : Nat) : (swp zs i j)[k]? = if k = j then zs[i]? else if k = i then zs[j]? else zs[k]? := by
  rw [swp_some (List.getElem?_eq_getElem hi) (List.getElem?_eq_getElem hj)]
  rw [List.getElem?_set]
  by_cases h1 : j = k
  · subst h1; simp [hi, hj]
  · rw [if_neg h1, if_neg (fun q => h1 q.symm), List.getElem?_set]
    by_cases h2 : i = k
    · subst h2; simp [hi, hj]
    · rw [if_neg h2, if_neg (fun q => h2 q.symm)]
theorem swp_perm (zs : List β) (i j : Nat) : (swp zs i j).Perm zs := by
  by_cases hi : i < zs.length
  · by_cases hj : j < zs.length
    · have h := Array.swap_perm (xs := zs.toArray) (i := i) (j := j) (by simpa using hi) (by simpa using hj)
      have h2 := Array.perm_iff_toList_perm.1 h
      rw [swp_some (List.getElem?_eq_getElem hi) (List.getElem?_eq_getElem hj)]
      simpa [Array.swap] using h2
    · unfold swp
      rw [List.getElem?_eq_none (by omega : zs.length ≤ j)]
      split
      · rename_i h; cases h
      · exact .refl _
  · unfold swp
    rw [List.getElem?_eq_none (by omega : zs.length ≤ i)]
/-- i is not ahead of j -/
def Nah (a : β → β → Bool) (zs : List β) (i j : Nat) : Prop := ∀ x y, zs[i]? = some x → zs[j]? = some y → a x y = false
def par (i : Nat) : Nat := (i - 1) / 2
/-- a heap: none is ahead of the one above it -/
def Heap (a : β → β → Bool) (zs : List β) : Prop := ∀ i, 0 < i → i < zs.length → Nah a zs i (par i)
theorem asym {a : β → β → Bool} (S : SWO a) {x y : β} (h : a x y = true) : a y x = false := by
  cases q : a y x with
  | false => rfl
  | true => have := S.trans _ _ _ h q; rw [S.irrefl] at this; cases this
theorem Heap.root {a : β → β → Bool} (S : SWO a) {zs : List β} (h : Heap a zs) : ∀ i, Nah a zs i 0 := by
  intro i
  induction i using Nat.strongRecOn with
  | _ i ih =>
    intro x y hx hy
    have hi : i < zs.length := (List.getElem?_eq_some_iff.1 hx).1
    by_cases h0 : i = 0
    · subst h0
      rw [hx] at hy
      cases hy
      exact S.irrefl _
    · have hp : par i < i := by unfold par; omega
      have hpl : par i < zs.length := by omega
      exact S.ntrans _ _ _ (h i (by omega) hi x _ hx (List.getElem?_eq_getElem hpl)) (ih _ hp _ y (List.getElem?_eq_getElem hpl) hy)
/-- rising: all but one -/
structure Rise (a : β → β → Bool) (zs : List β) (at_ : Nat) : Prop where
  one : ∀ i, 0 < i → i < zs.length → i ≠ at_ → Nah a zs i (par i)
  two : 0 < at_ → ∀ c, 0 < c → c < zs.length → par c = at_ → Nah a zs c (par at_)
theorem Rise.start {a : β → β → Bool} {zs : List β} (h : Heap a zs) (x : β) : Rise a (zs ++ [x]) zs.length := by
  refine ⟨fun i h0 hi hn => ?_, fun h0 c hc hl hp => ?_⟩
  · have hi' : i < zs.length := by simp at hi; omega
    intro u v hu hv
    rw [List.getElem?_append_left hi'] at hu
    rw [List.getElem?_append_left (by unfold par; omega)] at hv
    exact h i h0 hi' u v hu hv
  · simp at hl
    unfold par at hp
    omega
theorem Rise.top {a : β → β → Bool} {zs : List β} (h : Rise a zs 0) : Heap a zs := fun i h0 hi => h.one i h0 hi (by omega)
theorem Rise.done {a : β → β → Bool} {zs : List β} {k : Nat} (h : Rise a zs k) (hn : Nah a zs k (par k)) : Heap a zs := fun i h0 hi => by
  by_cases e : i = k
  · subst e; exact hn
  · exact h.one i h0 hi e
theorem Rise.step {a : β → β → Bool} (S : SWO a) {zs : List β} {k : Nat} (h : Rise a zs k) (hk : 0 < k) (hl : k < zs.length) {v u : β} (hv : zs[k]? = some v) (hu : zs[par k]? = some u) (ha : a v u = true) : Rise a (swp zs k (par k)) (par k) := by
  have hpk : par k < k := by unfold par; omega
  have hpl : par k < zs.length := by omega
  have G := swp_get hl hpl
  refine ⟨fun i h0 hi hn => ?_, fun h0 c hc hcl hp => ?_⟩
  · rw [swp_length] at hi
    intro x y hx hy
    rw [G] at hx hy
    rw [if_neg hn] at hx
    by_cases e1 : i = k
    · subst e1
      rw [if_pos rfl, hu] at hx
      rw [if_pos rfl, hv] at hy
      cases hx; cases hy
      exact asym S ha
    · rw [if_neg e1] at hx
      by_cases e2 : par i = par k
      · rw [if_pos e2, hv] at hy
        cases hy
        have q := h.one i h0 hi e1 x u hx (by rw [e2]; exact hu)
        cases c : a x v with
        | false => rfl
        | true => rw [S.trans _ _ _ c ha] at q; cases q
      · rw [if_neg e2] at hy
        by_cases e3 : par i = k
        · rw [if_pos e3, hu] at hy
          cases hy
          exact h.two hk i h0 hi e3 x u hx hu
        · rw [if_neg e3] at hy
          exact h.one i h0 hi e1 x y hx hy
  · rw [swp_length] at hcl
    intro x y hx hy
    have hpp : par (par k) < par k := by unfold par at h0 ⊢; omega
    rw [G] at hx hy
    rw [if_neg (by omega), if_neg (by omega)] at hy
    have hc1 : c ≠ par k := by rintro rfl; unfold par at hp h0; omega
    rw [if_neg hc1] at hx
    have q := h.one (par k) h0 hpl (by omega) u y hu hy
    by_cases e1 : c = k
    · rw [if_pos e1, hu] at hx
      cases hx
      exact q
    · rw [if_neg e1] at hx
      exact S.ntrans _ _ _ (h.one c hc hcl e1 x u hx (by rw [hp]; exact hu)) q
/-- sinking: all but those below one -/
structure Sink (a : β → β → Bool) (zs : List β) (at_ : Nat) : Prop where
  one : ∀ i, 0 < i → i < zs.length → par i ≠ at_ → Nah a zs i (par i)
  two : 0 < at_ → ∀ c, 0 < c → c < zs.length → par c = at_ → Nah a zs c (par at_)
/-- the last in the first's place -/
theorem Sink.start {a : β → β → Bool} {zs : List β} {n : Nat} (h : Heap a zs) (hn : zs.length = n + 1) : Sink a ((swp zs 0 n).take n) 0 := by
  have G := swp_get (zs := zs) (i := 0) (j := n) (by omega) (by omega)
  refine ⟨fun i h0 hi hp => ?_, fun q => by omega⟩
  simp [swp_length] at hi
  intro x y hx hy
  have hpi : par i < i := by unfold par; omega
  rw [List.getElem?_take_of_lt (by omega), G, if_neg (by omega), if_neg (by omega)] at hx hy
  exact h i h0 (by omega) x y hx hy
theorem Sink.done {a : β → β → Bool} {zs : List β} {k : Nat} (h : Sink a zs k) (hn : ∀ c, 0 < c → c < zs.length → par c = k → Nah a zs c k) : Heap a zs := fun i h0 hi => by
  by_cases e : par i = k
  · rw [e]; exact hn i h0 hi e
  · exact h.one i h0 hi e
theorem Sink.step {a : β → β → Bool} (S : SWO a) {zs : List β} {k f : Nat} (h : Sink a zs k) (hf : f < zs.length) (hf0 : 0 < f) (hp : par f = k) {v u : β} (hv : zs[k]? = some v) (hu : zs[f]? = some u) (ha : a u v = true) (hn : ∀ c, 0 < c → c < zs.length → par c = k → Nah a zs c f) : Sink a (swp zs k f) f := by
  have hkf : k < f := by unfold par at hp; omega
  have G := swp_get (zs := zs) (i := k) (j := f) (by omega) hf
  refine ⟨fun i h0 hi hpf => ?_, fun h0 c hc hcl hpc => ?_⟩
  · rw [swp_length] at hi
    intro x y hx hy
    have hpi : par i < i := by unfold par; omega
    rw [G] at hx hy
    rw [if_neg hpf] at hy
    by_cases e1 : par i = k
    · rw [if_pos e1, hu] at hy
      cases hy
      by_cases e2 : i = f
      · rw [if_pos e2, hv] at hx
        cases hx
        exact asym S ha
      · rw [if_neg e2, if_neg (by omega)] at hx
        exact hn i h0 hi e1 x u hx hu
    · rw [if_neg e1] at hy
      by_cases e2 : i = f
      · exact absurd (e2 ▸ hp) e1
      · rw [if_neg e2] at hx
        by_cases e3 : i = k
        · rw [if_pos e3, hu] at hx
          cases hx
          subst e3
          exact h.two h0 f hf0 hf hp u y hu hy
        · rw [if_neg e3] at hx
          exact h.one i h0 hi e1 x y hx hy
  · rw [swp_length] at hcl
    intro x y hx hy
    have hpi : par c < c := by unfold par; omega
    rw [G] at hx hy
    rw [if_neg (by omega), if_neg (by omega)] at hx
    rw [hp, if_neg (by omega), if_pos rfl, hu] at hy
    cases hy
    exact h.one c hc hcl (by omega) x u hx (by rw [hpc]; exact hu)
/-- what comes out, and what is left -/
theorem take_perm {zs : List β} {n : Nat} (hn : zs.length = n + 1) {x : β} (hx : zs[0]? = some x) : (x :: (swp zs 0 n).take n).Perm zs := by
  have h1 := swp_perm zs 0 n
  have l1 : (swp zs 0 n).length = n + 1 := by rw [swp_length, hn]
  have e : swp zs 0 n = (swp zs 0 n).take n ++ [x] := by
    have hl : (swp zs 0 n)[n]? = some x := by rw [swp_get (by omega) (by omega), if_pos rfl, hx]
    apply List.ext_getElem?
    intro i
    rcases Nat.lt_trichotomy i n with q | q | q
    · rw [List.getElem?_append_left (by rw [List.length_take]; omega), List.getElem?_take_of_lt q]
    · subst q
      rw [hl, List.getElem?_append_right (by rw [List.length_take]; omega)]
      simp [l1]
    · rw [List.getElem?_eq_none (by omega), List.getElem?_eq_none (by simp; omega)]
  have h2 : (x :: (swp zs 0 n).take n).Perm ((swp zs 0 n).take n ++ [x]) := (List.perm_append_singleton x _).symm
  rw [← e] at h2
  exact h2.trans h1
/-! ## things with their turns -/
variable {α : Type}
def ahd (lt : α → α → Bool) (a b : α × Nat) : Bool := if a.2 < b.2 then !(lt b.1 a.1) else lt a.1 b.1
theorem ahd_iff {lt : α → α → Bool} (S : SWO lt) (a b : α × Nat) : ahd lt a b = true ↔ lt a.1 b.1 = true ∨ (lt b.1 a.1 = false ∧ a.2 < b.2) := by
  unfold ahd
  by_cases h : a.2 < b.2
  · rw [if_pos h]
    simp only [Bool.not_eq_true', h, and_true]
    exact ⟨.inr, fun q => q.elim (fun r => asym S r) id⟩
  · rw [if_neg h]
    simp [h]
theorem swo_ahd {lt : α → α → Bool} (S : SWO lt) : SWO (ahd lt) where
  irrefl x := by unfold ahd; rw [if_neg (by omega)]; exact S.irrefl _
  trans x y z h1 h2 := by
    rw [ahd_iff S] at *
    rcases h1 with h1 | ⟨h1, l1⟩ <;> rcases h2 with h2 | ⟨h2, l2⟩
    · exact .inl (S.trans _ _ _ h1 h2)
    · left
      cases q : lt x.1 z.1 with
      | true => rfl
      | false => rw [S.ntrans _ _ _ q h2] at h1; cases h1
    · left
      cases q : lt x.1 z.1 with
      | true => rfl
      | false => rw [S.ntrans _ _ _ h1 q] at h2; cases h2
    · exact .inr ⟨S.ntrans _ _ _ h2 h1, by omega⟩
  ntrans x y z h1 h2 := by
    cases q : ahd lt x z with
    | false => rfl
    | true =>
      exfalso
      have n1 : ¬ (ahd lt x y = true) := by rw [h1]; decide
      have n2 : ¬ (ahd lt y z = true) := by rw [h2]; decide
      rw [ahd_iff S] at n1 n2 q
      have a1 : lt x.1 y.1 = false := by cases c : lt x.1 y.1 with | false => rfl | true => exact absurd (.inl c) n1
      have a2 : lt y.1 z.1 = false := by cases c : lt y.1 z.1 with | false => rfl | true => exact absurd (.inl c) n2
      have a3 := S.ntrans _ _ _ a1 a2
      rcases q with q | ⟨q, l⟩
      · rw [a3] at q; cases q
      · cases b1 : lt y.1 x.1 with
        | false =>
          have l1 : ¬ x.2 < y.2 := fun l => n1 (.inr ⟨b1, l⟩)
          cases b2 : lt z.1 y.1 with
          | false => exact n2 (.inr ⟨b2, by omega⟩)
          | true => rw [S.ntrans _ _ _ q a1] at b2; cases b2
        | true => rw [S.ntrans _ _ _ a2 q] at b1; cases b1
end Hp
end Go.Proofs.Ytfeehnfpfheojaa
