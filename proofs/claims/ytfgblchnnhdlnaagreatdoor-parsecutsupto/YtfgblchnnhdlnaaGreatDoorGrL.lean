import Derived.Test.YtfgblchnnhdlnaaGreatDoorGrA
set_option linter.unusedVariables false
set_option linter.unusedSimpArgs false
namespace Go.Proofs.YtfgblchnnhdlnaaGreatDoor
open Go.RowKit
namespace R
/-! a text that is cut: what the reading of a whole text becomes where a dead token stands in it -/
namespace Cut
def Dead (t : Tok) : Prop := t.1 ≠ 1 ∧ t.1 ≠ 2 ∧ t.1 ≠ 3 ∧ t.1 ≠ 4
/-- J is I up to n, and dead there -/
structure Ag (I J : Src) (n : Nat) : Prop where
  same : ∀ k, k < n → J.at k = I.at k
  dead : Dead (J.at n)
  ends : I.e.1 = 5
  len : n ≤ J.l.length
theorem is_dead {t : Tok} (h : Dead t) {k : Int} (hk : k = 1 ∨ k = 4) (s : List UInt8) : is k s t = false := by
  obtain ⟨h1, h2, h3, h4⟩ := h
  unfold is
  rcases hk with rfl | rfl
  · have : (t.1 == 1) = false := by simpa using h1
    rw [this]; rfl
  · have : (t.1 == 4) = false := by simpa using h4
    rw [this]; rfl
theorem nm_dead {t : Tok} (h : Dead t) : isNm t = false := by
  obtain ⟨h1, h2, h3, h4⟩ := h
  unfold isNm
  have e1 : (t.1 == 1) = false := by simpa using h1
  have e2 : (t.1 == 2) = false := by simpa using h2
  rw [e1, e2]; rfl
/-- nothing is read at n: a fault there, or nothing taken -/
def At (n : Nat) {α : Type} (y : Rd α) : Prop := y = .bad n 40 ∨ ∃ a, y = .ok a n
def Opt {α : Type} (n : Nat) (x y : Rd α) : Prop := ∀ a j, x = .ok a j → (j ≤ n → y = .ok a j) ∧ (n < j → At n y)
theorem bind_inv {α β : Type} {x : Rd α} {f : α → Nat → Rd β} {b : β} {j : Nat} (h : x.bind f = .ok b j) : ∃ a i, x = .ok a i ∧ f a i = .ok b j := by
  cases x with
  | ok a i => exact ⟨a, i, rfl, h⟩
  | bad i c => cases h
theorem At.bind {α β : Type} {n : Nat} {y : Rd α} {g : α → Nat → Rd β} (h : At n y) (hg : ∀ a, At n (g a n)) : At n (y.bind g) := by
  rcases h with h | ⟨a, h⟩
  · rw [h]; exact .inl rfl
  · rw [h]; exact hg a
theorem Opt.bind {α β : Type} {n : Nat} {x y : Rd α} {f g : α → Nat → Rd β} (h : Opt n x y) (hf : ∀ a j, x = .ok a j → j ≤ n → Opt n (f a j) (g a j)) (hg : ∀ a, At n (g a n)) (mono : ∀ a j b k, f a j = .ok b k → j ≤ k) : Opt n (x.bind f) (y.bind g) := by
  intro b k hb
  obtain ⟨a, j, hx, hfb⟩ := bind_inv hb
  have hjk := mono a j b k hfb
  obtain ⟨h1, h2⟩ := h a j hx
  refine ⟨fun hk => ?_, fun hk => ?_⟩
  · rw [h1 (by omega)]
    exact (hf a j hx (by omega) b k hfb).1 hk
  · by_cases hj : j ≤ n
    · rw [h1 hj]
      exact (hf a j hx hj b k hfb).2 hk
    · exact (h2 (by omega)).bind hg
theorem Opt.pure {α : Type} {n : Nat} (a : α) (i : Nat) (hi : i ≤ n) : Opt n (Rd.ok a i) (Rd.ok a i) := fun b j h => by
  cases h
  exact ⟨fun _ => rfl, fun q => by omega⟩
theorem At.pure {α : Type} {n : Nat} (a : α) : At n (Rd.ok a n) := .inr ⟨a, rfl⟩
variable {I J : Src} {n : Nat}
theorem name_le {i : Nat} {w : Wd} {j : Nat} (h : I.name i = .ok w j) : i ≤ j := by
  unfold Src.name at h
  split at h
  · cases h; omega
  · cases h
theorem one_le {k : Int} {s : List UInt8} {i : Nat} {w : Unit} {j : Nat} (h : I.one k s i = .ok w j) : i ≤ j := by
  unfold Src.one at h
  split at h
  · cases h; omega
  · cases h
theorem number_le {i x j : Nat} (h : I.number i = .ok x j) : i ≤ j := by
  unfold Src.number at h
  split at h
  · split at h
    · cases h; omega
    · cases h
  · cases h
theorem more_le : ∀ (f : Nat) (acc : List Wd) (i : Nat) (l : List Wd) (j : Nat), I.more f acc i = .ok l j → i ≤ j := by
  intro f
  induction f with
  | zero => intro acc i l j h; cases h; omega
  | succ f ih =>
    intro acc i l j h
    unfold Src.more at h
    split at h
    · obtain ⟨w, k, h1, h⟩ := bind_inv h
      have := name_le h1
      have := ih _ _ _ _ h
      omega
    · cases h; omega
theorem names_le {i : Nat} {l : List Wd} {j : Nat} (h : I.names i = .ok l j) : i ≤ j := by
  unfold Src.names at h
  obtain ⟨w, k, h1, h⟩ := bind_inv h
  have := name_le h1
  have := more_le _ _ _ _ _ h
  omega
theorem trust_le {i x j : Nat} (h : I.trust i = .ok x j) : i ≤ j := by
  unfold Src.trust at h
  split at h
  · have := number_le h; omega
  · cases h; omega
theorem cond_le {i : Nat} {c : Int × Nat} {j : Nat} (h : I.cond i = .ok c j) : i ≤ j := by
  unfold Src.cond at h
  split at h
  · obtain ⟨x, k, hx, h⟩ := bind_inv h
    have := number_le hx
    cases h; omega
  · split at h
    · obtain ⟨x, k, hx, h⟩ := bind_inv h
      have := number_le hx
      cases h; omega
    · cases h; omega
theorem actions_le {i : Nat} {l : List Wd × Bool} {j : Nat} (h : I.actions i = .ok l j) : i ≤ j := by
  unfold Src.actions at h
  split at h
  · cases h; omega
  · obtain ⟨x, k, hx, h⟩ := bind_inv h
    have := names_le hx
    cases h; omega
theorem who_le {i : Nat} {l : Wd × Wd} {j : Nat} (h : I.who i = .ok l j) : i ≤ j := by
  unfold Src.who at h
  obtain ⟨_, k1, h1, h⟩ := bind_inv h
  obtain ⟨_, k2, h2, h⟩ := bind_inv h
  obtain ⟨_, k3, h3, h⟩ := bind_inv h
  obtain ⟨_, k4, h4, h⟩ := bind_inv h
  have := name_le h1
  have := one_le h2
  have := name_le h3
  have := one_le h4
  cases h; omega
/-! at n nothing is read -/
theorem name_at (A : Ag I J n) : J.name n = .bad n 40 := by
  unfold Src.name; rw [nm_dead A.dead]; rfl
theorem one_at (A : Ag I J n) {k : Int} (hk : k = 1 ∨ k = 4) (s : List UInt8) : J.one k s n = .bad n 40 := by
  unfold Src.one; rw [is_dead A.dead hk]; rfl
theorem number_at (A : Ag I J n) : J.number n = .bad n 40 := by
  unfold Src.number
  have : ((J.at n).1 == 3) = false := by simpa using A.dead.2.2.1
  rw [this]; rfl
theorem more_at (A : Ag I J n) (f : Nat) (acc : List Wd) : J.more f acc n = .ok acc n := by
  cases f with
  | zero => rfl
  | succ f => unfold Src.more; rw [is_dead A.dead (.inr rfl)]; rfl
theorem names_at (A : Ag I J n) : J.names n = .bad n 40 := by
  unfold Src.names; rw [name_at A]; rfl
theorem trust_at (A : Ag I J n) : J.trust n = .ok 4607182418800017408 n := by
  unfold Src.trust; rw [is_dead A.dead (.inl rfl)]; rfl
theorem cond_at (A : Ag I J n) : J.cond n = .ok (0, 0) n := by
  unfold Src.cond; rw [is_dead A.dead (.inl rfl), is_dead A.dead (.inl rfl)]; rfl
theorem actions_at (A : Ag I J n) : J.actions n = .bad n 40 := by
  unfold Src.actions; rw [is_dead A.dead (.inr rfl), names_at A]; rfl
theorem who_at (A : Ag I J n) : J.who n = .bad n 40 := by
  unfold Src.who; rw [name_at A]; rfl
/-! ahead of n all is as it was -/
theorem name_opt (A : Ag I J n) {i : Nat} (hi : i ≤ n) : Opt n (I.name i) (J.name i) := by
  intro w j h
  by_cases hn : i = n
  · subst hn
    have : j = i + 1 := by
      unfold Src.name at h
      split at h
      · cases h; rfl
      · cases h
    exact ⟨fun q => by omega, fun _ => .inl (name_at A)⟩
  · have e : J.name i = I.name i := by unfold Src.name; rw [A.same i (by omega)]
    have : j = i + 1 := by
      unfold Src.name at h
      split at h
      · cases h; rfl
      · cases h
    exact ⟨fun _ => by rw [e, h], fun q => by omega⟩
theorem one_opt (A : Ag I J n) {k : Int} (hk : k = 1 ∨ k = 4) (s : List UInt8) {i : Nat} (hi : i ≤ n) : Opt n (I.one k s i) (J.one k s i) := by
  intro w j h
  have hj : j = i + 1 := by
    unfold Src.one at h
    split at h
    · cases h; rfl
    · cases h
  by_cases hn : i = n
  · subst hn
    exact ⟨fun q => by omega, fun _ => .inl (one_at A hk s)⟩
  · have e : J.one k s i = I.one k s i := by unfold Src.one; rw [A.same i (by omega)]
    exact ⟨fun _ => by rw [e, h], fun q => by omega⟩
theorem number_opt (A : Ag I J n) {i : Nat} (hi : i ≤ n) : Opt n (I.number i) (J.number i) := by
  intro w j h
  have hj : j = i + 1 := by
    unfold Src.number at h
    split at h
    · split at h
      · cases h; rfl
      · cases h
    · cases h
  by_cases hn : i = n
  · subst hn
    exact ⟨fun q => by omega, fun _ => .inl (number_at A)⟩
  · have e : J.number i = I.number i := by unfold Src.number; rw [A.same i (by omega)]
    exact ⟨fun _ => by rw [e, h], fun q => by omega⟩
theorem at_end (A : Ag I J n) {i : Nat} (hi : I.l.length ≤ i) (s : List UInt8) : is 4 s (I.at i) = false := by
  have : I.at i = I.e := by unfold Src.at; rw [List.getD_eq_getElem?_getD, List.getElem?_eq_none hi]; rfl
  rw [this]
  unfold is
  rw [A.ends]; rfl
theorem more_opt (A : Ag I J n) : ∀ (f f' : Nat) (acc : List Wd) (i : Nat), i ≤ n → I.l.length < i + f + 1 → n < i + f' + 1 → Opt n (I.more f acc i) (J.more f' acc i) := by
  intro f
  induction f with
  | zero =>
    intro f' acc i hi hf hf' l j h
    cases h
    refine ⟨fun _ => ?_, fun q => by omega⟩
    cases f' with
    | zero => rfl
    | succ f' =>
      have e : is 4 [44] (J.at i) = false := by
        by_cases hn : i = n
        · subst hn; exact is_dead A.dead (.inr rfl) _
        · rw [A.same i (by omega)]; exact at_end A (by omega) _
      unfold Src.more; rw [e]; rfl
  | succ f ih =>
    intro f' acc i hi hf hf' l j h
    by_cases hn : i = n
    · subst hn
      rw [more_at A]
      refine ⟨fun q => ?_, fun _ => .inr ⟨acc, rfl⟩⟩
      have hij := more_le _ _ _ _ _ h
      unfold Src.more at h
      split at h
      · obtain ⟨w, k, h1, h⟩ := bind_inv h
        have := name_le h1
        have := more_le _ _ _ _ _ h
        omega
      · cases h; rfl
    · obtain ⟨g, rfl⟩ : ∃ g, f' = g + 1 := ⟨f' - 1, by omega⟩
      unfold Src.more at h ⊢
      rw [A.same i (by omega)]
      split at h
      · rename_i hc
        rw [if_pos hc]
        refine (Opt.bind (name_opt A (by omega)) (fun w k hk hkn => ?_) (fun w => ?_) (fun w k b k' hb => more_le _ _ _ _ _ hb)) l j h
        · have := name_le hk
          exact ih g _ _ hkn (by omega) (by omega)
        · rw [more_at A]; exact At.pure _
      · rename_i hc
        rw [if_neg hc]
        cases h
        exact ⟨fun _ => rfl, fun q => by omega⟩
theorem name_in (A : Ag I J n) {i : Nat} {w : Wd} {j : Nat} (h : I.name i = .ok w j) : j = i + 1 := by
  unfold Src.name at h
  split at h
  · cases h; rfl
  · cases h
theorem names_opt (A : Ag I J n) {i : Nat} (hi : i ≤ n) : Opt n (I.names i) (J.names i) := by
  unfold Src.names
  refine Opt.bind (name_opt A hi) (fun w k hk hkn => ?_) (fun w => ?_) (fun w k b k' hb => more_le _ _ _ _ _ hb)
  · have := name_in A hk
    have := A.len
    exact more_opt A _ _ _ _ hkn (by omega) (by omega)
  · rw [more_at A]; exact At.pure _
theorem trust_opt (A : Ag I J n) {i : Nat} (hi : i ≤ n) : Opt n (I.trust i) (J.trust i) := by
  by_cases hn : i = n
  · subst hn
    rw [trust_at A]
    intro x j h
    unfold Src.trust at h
    split at h
    · have := number_le h
      exact ⟨fun q => by omega, fun _ => At.pure _⟩
    · cases h
      exact ⟨fun _ => rfl, fun q => by omega⟩
  · unfold Src.trust
    rw [A.same i (by omega)]
    split
    · exact number_opt A (by omega)
    · exact Opt.pure _ _ hi
theorem cond_opt (A : Ag I J n) {i : Nat} (hi : i ≤ n) : Opt n (I.cond i) (J.cond i) := by
  by_cases hn : i = n
  · subst hn
    rw [cond_at A]
    intro x j h
    unfold Src.cond at h
    split at h
    · obtain ⟨y, k, hy, h⟩ := bind_inv h
      have := number_le hy
      cases h
      exact ⟨fun q => by omega, fun _ => At.pure _⟩
    · split at h
      · obtain ⟨y, k, hy, h⟩ := bind_inv h
        have := number_le hy
        cases h
        exact ⟨fun q => by omega, fun _ => At.pure _⟩
      · cases h
        exact ⟨fun _ => rfl, fun q => by omega⟩
  · unfold Src.cond
    rw [A.same i (by omega)]
    split
    · exact Opt.bind (number_opt A (by omega)) (fun x k _ hk => Opt.pure _ _ hk) (fun x => At.pure _) (fun x k b k' h => by cases h; omega)
    · split
      · exact Opt.bind (number_opt A (by omega)) (fun x k _ hk => Opt.pure _ _ hk) (fun x => At.pure _) (fun x k b k' h => by cases h; omega)
      · exact Opt.pure _ _ hi
theorem actions_opt (A : Ag I J n) {i : Nat} (hi : i ≤ n) : Opt n (I.actions i) (J.actions i) := by
  by_cases hn : i = n
  · subst hn
    rw [actions_at A]
    intro x j h
    have hij : i < j := by
      unfold Src.actions at h
      split at h
      · cases h; omega
      · obtain ⟨y, k, hy, h⟩ := bind_inv h
        unfold Src.names at hy
        obtain ⟨z, k', hz, hy⟩ := bind_inv hy
        have := name_in A hz
        have := more_le _ _ _ _ _ hy
        cases h; omega
    exact ⟨fun q => by omega, fun _ => .inl rfl⟩
  · unfold Src.actions
    rw [A.same i (by omega)]
    split
    · exact Opt.pure _ _ (by omega)
    · exact Opt.bind (names_opt A hi) (fun x k _ hk => Opt.pure _ _ hk) (fun x => At.pure _) (fun x k b k' h => by cases h; omega)
theorem who_opt (A : Ag I J n) {i : Nat} (hi : i ≤ n) : Opt n (I.who i) (J.who i) := by
  unfold Src.who
  refine Opt.bind (name_opt A hi) (fun a k _ hk => ?_) (fun a => .inl (by rw [one_at A (.inl rfl)]; rfl)) (fun a k b k' h => ?_)
  · refine Opt.bind (one_opt A (.inl rfl) _ hk) (fun _ k _ hk => ?_) (fun _ => .inl (by rw [name_at A]; rfl)) (fun _ k b k' h => ?_)
    · refine Opt.bind (name_opt A hk) (fun c k _ hk => ?_) (fun c => .inl (by rw [one_at A (.inr rfl)]; rfl)) (fun c k b k' h => ?_)
      · exact Opt.bind (one_opt A (.inr rfl) _ hk) (fun _ k _ hk => Opt.pure _ _ hk) (fun _ => At.pure _) (fun _ k b k' h => by cases h; omega)
      · obtain ⟨_, m, h1, h⟩ := bind_inv h
        have := one_le h1
        cases h; omega
    · obtain ⟨_, m, h1, h⟩ := bind_inv h
      obtain ⟨_, m2, h2, h⟩ := bind_inv h
      have := name_le h1
      have := one_le h2
      cases h; omega
  · obtain ⟨_, m, h1, h⟩ := bind_inv h
    obtain ⟨_, m2, h2, h⟩ := bind_inv h
    obtain ⟨_, m3, h3, h⟩ := bind_inv h
    have := one_le h1
    have := name_le h2
    have := one_le h3
    cases h; omega
/-- .. and the reading ends with a fault there -/
def Str {α : Type} (n : Nat) (x y : Rd α) : Prop := ∀ a j, x = .ok a j → (j ≤ n → y = .ok a j) ∧ (n < j → y = .bad n 40)
theorem Str.bind {α β : Type} {n : Nat} {x y : Rd α} {f g : α → Nat → Rd β} (h : Opt n x y) (hf : ∀ a j, x = .ok a j → j ≤ n → Str n (f a j) (g a j)) (hg : ∀ a, g a n = .bad n 40) (mono : ∀ a j b k, f a j = .ok b k → j ≤ k) : Str n (x.bind f) (y.bind g) := by
  intro b k hb
  obtain ⟨a, j, hx, hfb⟩ := bind_inv hb
  have hjk := mono a j b k hfb
  obtain ⟨h1, h2⟩ := h a j hx
  refine ⟨fun hk => ?_, fun hk => ?_⟩
  · rw [h1 (by omega)]
    exact (hf a j hx (by omega) b k hfb).1 hk
  · by_cases hj : j ≤ n
    · rw [h1 hj]
      exact (hf a j hx hj b k hfb).2 hk
    · rcases h2 (by omega) with q | ⟨a', q⟩
      · rw [q]; rfl
      · rw [q]; exact hg a'
theorem rest_le {d : Dc} {i : Nat} {d' : Dc} {j : Nat} (h : I.rest d i = .ok d' j) : i ≤ j := by
  unfold Src.rest at h
  split at h
  · obtain ⟨_, k1, h1, h⟩ := bind_inv h
    obtain ⟨_, k2, h2, h⟩ := bind_inv h
    have := names_le h1
    have := trust_le h2
    cases h; omega
  · split at h
    · obtain ⟨_, k1, h1, h⟩ := bind_inv h
      obtain ⟨_, k2, h2, h⟩ := bind_inv h
      obtain ⟨_, k3, h3, h⟩ := bind_inv h
      have := name_le h1
      have := one_le h2
      have := names_le h3
      cases h; omega
    · split at h
      · obtain ⟨_, k1, h1, h⟩ := bind_inv h
        obtain ⟨_, k2, h2, h⟩ := bind_inv h
        obtain ⟨_, k3, h3, h⟩ := bind_inv h
        have := who_le h1
        have := actions_le h2
        have := cond_le h3
        cases h; omega
      · split at h
        · obtain ⟨_, k1, h1, h⟩ := bind_inv h
          obtain ⟨_, k2, h2, h⟩ := bind_inv h
          have := who_le h1
          have := names_le h2
          cases h; omega
        · obtain ⟨_, k1, h1, h⟩ := bind_inv h
          have := names_le h1
          cases h; omega
theorem rest_at (A : Ag I J n) (d : Dc) : J.rest d n = .bad n 40 := by
  unfold Src.rest
  split
  · rw [names_at A]; rfl
  · split
    · rw [name_at A]; rfl
    · split
      · rw [who_at A]; rfl
      · split
        · rw [who_at A]; rfl
        · rw [names_at A]; rfl
theorem rest_opt (A : Ag I J n) (d : Dc) {i : Nat} (hi : i ≤ n) : Opt n (I.rest d i) (J.rest d i) := by
  unfold Src.rest
  split
  · refine Opt.bind (names_opt A hi) (fun l k _ hk => ?_) (fun l => ?_) (fun l k b k' h => ?_)
    · exact Opt.bind (trust_opt A hk) (fun x k _ hk => Opt.pure _ _ hk) (fun x => At.pure _) (fun x k b k' h => by cases h; omega)
    · rw [trust_at A]; exact At.pure _
    · obtain ⟨_, m, h1, h⟩ := bind_inv h
      have := trust_le h1
      cases h; omega
  · split
    · refine Opt.bind (name_opt A hi) (fun l k _ hk => ?_) (fun l => .inl (by rw [one_at A (.inr rfl)]; rfl)) (fun l k b k' h => ?_)
      · refine Opt.bind (one_opt A (.inr rfl) _ hk) (fun _ k _ hk => ?_) (fun _ => .inl (by rw [names_at A]; rfl)) (fun _ k b k' h => ?_)
        · exact Opt.bind (names_opt A hk) (fun x k _ hk => Opt.pure _ _ hk) (fun x => At.pure _) (fun x k b k' h => by cases h; omega)
        · obtain ⟨_, m, h1, h⟩ := bind_inv h
          have := names_le h1
          cases h; omega
      · obtain ⟨_, m, h1, h⟩ := bind_inv h
        obtain ⟨_, m2, h2, h⟩ := bind_inv h
        have := one_le h1
        have := names_le h2
        cases h; omega
    · split
      · refine Opt.bind (who_opt A hi) (fun l k _ hk => ?_) (fun l => .inl (by rw [actions_at A]; rfl)) (fun l k b k' h => ?_)
        · refine Opt.bind (actions_opt A hk) (fun _ k _ hk => ?_) (fun _ => ?_) (fun _ k b k' h => ?_)
          · exact Opt.bind (cond_opt A hk) (fun x k _ hk => Opt.pure _ _ hk) (fun x => At.pure _) (fun x k b k' h => by cases h; omega)
          · rw [cond_at A]; exact At.pure _
          · obtain ⟨_, m, h1, h⟩ := bind_inv h
            have := cond_le h1
            cases h; omega
        · obtain ⟨_, m, h1, h⟩ := bind_inv h
          obtain ⟨_, m2, h2, h⟩ := bind_inv h
          have := actions_le h1
          have := cond_le h2
          cases h; omega
      · split
        · refine Opt.bind (who_opt A hi) (fun l k _ hk => ?_) (fun l => .inl (by rw [names_at A]; rfl)) (fun l k b k' h => ?_)
          · exact Opt.bind (names_opt A hk) (fun x k _ hk => Opt.pure _ _ hk) (fun x => At.pure _) (fun x k b k' h => by cases h; omega)
          · obtain ⟨_, m, h1, h⟩ := bind_inv h
            have := names_le h1
            cases h; omega
        · exact Opt.bind (names_opt A hi) (fun x k _ hk => Opt.pure _ _ hk) (fun x => At.pure _) (fun x k b k' h => by cases h; omega)
theorem begin_in {i : Nat} {d : Dc} {j : Nat} (h : I.begin i = .ok d j) : j = i + 1 := by
  unfold Src.begin at h
  split at h
  · cases h; rfl
  · cases h
theorem begin_at (A : Ag I J n) : J.begin n = .bad n 40 := by
  unfold Src.begin
  have : ((J.at n).1 == 1) = false := by simpa using A.dead.1
  rw [this]; rfl
theorem begin_opt (A : Ag I J n) {i : Nat} (hi : i ≤ n) : Opt n (I.begin i) (J.begin i) := by
  intro w j h
  have hj := begin_in h
  by_cases hn : i = n
  · subst hn
    exact ⟨fun q => by omega, fun _ => .inl (begin_at A)⟩
  · have e : J.begin i = I.begin i := by unfold Src.begin; rw [A.same i (by omega)]
    exact ⟨fun _ => by rw [e, h], fun q => by omega⟩
theorem decl_gt {i : Nat} {d : Dc} {j : Nat} (h : I.decl i = .ok d j) : i < j := by
  unfold Src.decl at h
  obtain ⟨_, k1, h1, h⟩ := bind_inv h
  obtain ⟨_, k2, h2, h⟩ := bind_inv h
  obtain ⟨_, k3, h3, h⟩ := bind_inv h
  have := begin_in h1
  have := rest_le h2
  have := one_le h3
  cases h; omega
theorem decl_at (A : Ag I J n) : J.decl n = .bad n 40 := by
  unfold Src.decl; rw [begin_at A]; rfl
/-- A DECLARATION THAT IS CUT IS REFUSED WHERE IT IS CUT -/
theorem decl_cut (A : Ag I J n) {i : Nat} (hi : i ≤ n) : Str n (I.decl i) (J.decl i) := by
  unfold Src.decl
  refine Str.bind (begin_opt A hi) (fun d k _ hk => ?_) (fun d => by rw [rest_at A]; rfl) (fun d k b k' h => ?_)
  · refine Str.bind (rest_opt A d hk) (fun d k _ hk => ?_) (fun d => by rw [one_at A (.inr rfl)]; rfl) (fun d k b k' h => ?_)
    · intro b m h
      have o := one_opt A (.inr rfl) [59] hk
      obtain ⟨u, m', h1, h⟩ := bind_inv h
      cases h
      obtain ⟨o1, o2⟩ := o u m h1
      refine ⟨fun q => by rw [o1 q]; rfl, fun q => ?_⟩
      by_cases hn : k = n
      · subst hn; rw [one_at A (.inr rfl)]; rfl
      · exfalso
        have : m = k + 1 := by
          unfold Src.one at h1
          split at h1
          · cases h1; rfl
          · cases h1
        omega
    · obtain ⟨_, m, h1, h⟩ := bind_inv h
      have := one_le h1
      cases h; omega
  · obtain ⟨_, m, h1, h⟩ := bind_inv h
    obtain ⟨_, m2, h2, h⟩ := bind_inv h
    have := rest_le h1
    have := one_le h2
    cases h; omega
/-- declarations one behind the other, each with the place behind it -/
def Chain (I : Src) : Nat → List (Dc × Nat) → Prop
  | _, [] => True
  | i, p :: r => I.decl i = .ok p.1 p.2 ∧ Chain I p.2 r
def endOf : Nat → List (Dc × Nat) → Nat
  | i, [] => i
  | _, p :: r => endOf p.2 r
theorem chain_gt : ∀ (ps : List (Dc × Nat)) (i : Nat), Chain I i ps → ∀ p ∈ ps, i < p.2 := by
  intro ps
  induction ps with
  | nil => intro i _ p hp; cases hp
  | cons q r ih =>
    intro i h p hp
    have := decl_gt h.1
    rcases List.mem_cons.1 hp with rfl | hp
    · exact this
    · have := ih _ h.2 p hp; omega
/-- A TEXT THAT IS CUT: the declarations that stand there whole, if the cut is behind one and nothing follows; else a fault at the cut -/
theorem text_cut (A : Ag I J n) : ∀ (ps : List (Dc × Nat)) (i : Nat) (acc : List Dc) (f : Nat), Chain I i ps → i ≤ n → n ≤ endOf i ps → J.l.length < i + f →
    (n = J.l.length ∧ (n = i ∨ ∃ p ∈ ps, p.2 = n) → J.text f acc i = .ok (acc ++ (ps.filter fun p => decide (p.2 ≤ n)).map Prod.fst) n) ∧
    (¬ (n = J.l.length ∧ (n = i ∨ ∃ p ∈ ps, p.2 = n)) → J.text f acc i = .bad n 40) := by
  have stop : ∀ (acc : List Dc) (f : Nat), J.l.length < n + f → (n = J.l.length → J.text f acc n = .ok acc n) ∧ (n ≠ J.l.length → J.text f acc n = .bad n 40) := by
    intro acc f hf
    have hl := A.len
    refine ⟨fun e => ?_, fun e => ?_⟩
    · cases f with
      | zero => rfl
      | succ f => unfold Src.text; rw [if_neg (by omega)]
    · obtain ⟨g, rfl⟩ : ∃ g, f = g + 1 := ⟨f - 1, by omega⟩
      unfold Src.text; rw [if_pos (by omega), decl_at A]; rfl
  intro ps
  induction ps with
  | nil =>
    intro i acc f _ hi hn hf
    obtain rfl : n = i := by simp only [endOf] at hn; omega
    refine ⟨fun q => ?_, fun q => ?_⟩
    · simpa using (stop acc f hf).1 q.1
    · exact (stop acc f hf).2 (fun e => q ⟨e, .inl rfl⟩)
  | cons p r ih =>
    intro i acc f h hi hn hf
    have hl := A.len
    have hlt := decl_gt h.1
    have hgt := chain_gt r p.2 h.2
    by_cases hjn : p.2 ≤ n
    · obtain ⟨g, rfl⟩ : ∃ g, f = g + 1 := ⟨f - 1, by omega⟩
      have e := (decl_cut A hi p.1 p.2 h.1).1 hjn
      have et : J.text (g + 1) acc i = J.text g (acc ++ [p.1]) p.2 := by
        show (if i < J.l.length then (J.decl i).bind fun d j => J.text g (acc ++ [d]) j else Rd.ok acc i) = _
        rw [if_pos (by omega), e]; rfl
      rw [et]
      obtain ⟨k1, k2⟩ := ih p.2 (acc ++ [p.1]) g h.2 hjn hn (by omega)
      have hiff : (n = J.l.length ∧ (n = i ∨ ∃ q ∈ p :: r, q.2 = n)) ↔ (n = J.l.length ∧ (n = p.2 ∨ ∃ q ∈ r, q.2 = n)) := by
        refine ⟨fun ⟨a, b⟩ => ⟨a, ?_⟩, fun ⟨a, b⟩ => ⟨a, ?_⟩⟩
        · rcases b with b | ⟨q, hq, e'⟩
          · omega
          · rcases List.mem_cons.1 hq with hq | hq
            · exact .inl (by rw [← hq]; exact e'.symm)
            · exact .inr ⟨q, hq, e'⟩
        · rcases b with b | ⟨q, hq, e⟩
          · exact .inr ⟨p, List.mem_cons_self .., b.symm⟩
          · exact .inr ⟨q, List.mem_cons_of_mem _ hq, e⟩
      rw [hiff]
      refine ⟨fun q => ?_, k2⟩
      rw [k1 q, List.filter_cons_of_pos (by simpa using hjn)]
      simp
    · have hf0 : (p :: r).filter (fun p => decide (p.2 ≤ n)) = [] := by
        rw [List.filter_eq_nil_iff]
        intro q hq
        rcases List.mem_cons.1 hq with rfl | hq
        · simpa using hjn
        · have := hgt q hq
          simp; omega
      have hno : ¬ ∃ q ∈ p :: r, q.2 = n := by
        rintro ⟨q, hq, e⟩
        rcases List.mem_cons.1 hq with rfl | hq
        · omega
        · have := hgt q hq; omega
      rw [hf0]
      by_cases hin : i = n
      · subst hin
        refine ⟨fun q => by simpa using (stop acc f hf).1 q.1, fun q => (stop acc f hf).2 (fun e => q ⟨e, .inl rfl⟩)⟩
      · refine ⟨fun q => ?_, fun _ => ?_⟩
        · rcases q.2 with e | e
          · omega
          · exact absurd e hno
        · obtain ⟨g, rfl⟩ : ∃ g, f = g + 1 := ⟨f - 1, by omega⟩
          have e := (decl_cut A hi p.1 p.2 h.1).2 (by omega)
          show (if i < J.l.length then (J.decl i).bind fun d j => J.text g (acc ++ [d]) j else Rd.ok acc i) = _
          rw [if_pos (by omega), e]; rfl
end Cut
end R
end Go.Proofs.YtfgblchnnhdlnaaGreatDoor
set_option linter.unusedVariables false
set_option linter.unusedSimpArgs false
namespace Go.Proofs.YtfgblchnnhdlnaaGreatDoor
open Go.RowKit
namespace R
/-! tokens that are laid by the grammar are read -/
namespace Lay
/-- from i on stand the tokens T -/
def Has (I : Src) (i : Nat) (T : List Tok) : Prop := ∀ k t, T[k]? = some t → I.l[i + k]? = some t
variable {I : Src}
theorem Has.head {i : Nat} {t : Tok} {T : List Tok} (h : Has I i (t :: T)) : I.at i = t ∧ i < I.l.length := by
  have := h 0 t rfl
  rw [Nat.add_zero] at this
  refine ⟨?_, (List.getElem?_eq_some_iff.1 this).1⟩
  unfold Src.at
  rw [List.getD_eq_getElem?_getD, this]; rfl
theorem Has.tail {i : Nat} {t : Tok} {T : List Tok} (h : Has I i (t :: T)) : Has I (i + 1) T := fun k x hk => by
  have := h (k + 1) x (by simpa using hk)
  rw [show i + 1 + k = i + (k + 1) by omega]; exact this
theorem Has.left {i : Nat} {S T : List Tok} (h : Has I i (S ++ T)) : Has I i S := fun k x hk => h k x (by
  rw [List.getElem?_append_left (List.getElem?_eq_some_iff.1 hk).1]; exact hk)
theorem Has.right {i : Nat} {S T : List Tok} (h : Has I i (S ++ T)) : Has I (i + S.length) T := fun k x hk => by
  rw [show i + S.length + k = i + (S.length + k) by omega]
  exact h (S.length + k) x (by rw [List.getElem?_append_right (by omega), Nat.add_sub_cancel_left]; exact hk)
theorem Has.len {i : Nat} {T : List Tok} (h : Has I i T) (h0 : T ≠ []) : i + T.length ≤ I.l.length := by
  have hp : 0 < T.length := List.length_pos_iff.2 h0
  have := h (T.length - 1) _ (List.getElem?_eq_getElem (by omega))
  have := (List.getElem?_eq_some_iff.1 this).1
  omega
/-- names with commas between -/
inductive Nms : List Tok → List Wd → Prop
  | one (t : Tok) (h : isNm t = true) : Nms [t] [wdOf t]
  | more (t c : Tok) (T : List Tok) (ws : List Wd) (h : isNm t = true) (hc : is 4 [44] c = true) (hT : Nms T ws) : Nms (t :: c :: T) (wdOf t :: ws)
theorem Nms.pos {T : List Tok} {ws : List Wd} (h : Nms T ws) : T ≠ [] ∧ 1 ≤ ws.length ∧ ws.length ≤ T.length := by
  induction h with
  | one t h => simp
  | more t c T ws h hc hT ih => simp; omega
theorem name_reads {i : Nat} {t : Tok} (h : I.at i = t) (hn : isNm t = true) : I.name i = .ok (wdOf t) (i + 1) := by
  unfold Src.name; rw [h, hn]; rfl
theorem one_reads {k : Int} {s : List UInt8} {i : Nat} {t : Tok} (h : I.at i = t) (hn : is k s t = true) : I.one k s i = .ok () (i + 1) := by
  unfold Src.one; rw [h, hn]; rfl
theorem more_none (f : Nat) (acc : List Wd) (i : Nat) (h : is 4 [44] (I.at i) = false) : I.more f acc i = .ok acc i := by
  cases f with
  | zero => rfl
  | succ f => unfold Src.more; rw [h]; rfl
theorem more_reads {T : List Tok} {ws : List Wd} (h : Nms T ws) : ∀ (f : Nat) (acc : List Wd) (i : Nat), Has I i T → is 4 [44] (I.at (i + T.length)) = false → ws.length ≤ f + 1 →
    ((I.name i).bind fun w j => I.more f (acc ++ [w]) j) = .ok (acc ++ ws) (i + T.length) := by
  induction h with
  | one t h =>
    intro f acc i hI hn hf
    rw [name_reads hI.head.1 h]
    exact more_none f _ _ hn
  | more t c T ws h hc hT ih =>
    intro f acc i hI hn hf
    have hp := hT.pos
    obtain ⟨g, rfl⟩ : ∃ g, f = g + 1 := ⟨f - 1, by simp at hf; omega⟩
    rw [name_reads hI.head.1 h]
    show I.more (g + 1) (acc ++ [wdOf t]) (i + 1) = _
    unfold Src.more
    rw [hI.tail.head.1, if_pos hc]
    have := ih g (acc ++ [wdOf t]) (i + 1 + 1) hI.tail.tail (by rw [← hn]; congr 2; simp; omega) (by simp at hf; omega)
    rw [this]
    simp only [List.append_assoc, List.singleton_append, List.length_cons]
    congr 1
    omega
theorem names_reads {T : List Tok} {ws : List Wd} (h : Nms T ws) {i : Nat} (hI : Has I i T) (hn : is 4 [44] (I.at (i + T.length)) = false) : I.names i = .ok ws (i + T.length) := by
  have hp := h.pos
  have hl := hI.len hp.1
  have := more_reads h I.l.length [] i hI hn (by omega)
  simpa [Src.names] using this
theorem is_apart {k k' : Int} {s s' : List UInt8} {t : Tok} (h : is k s t = true) (hne : k ≠ k' ∨ s ≠ s') : is k' s' t = false := by
  unfold is at h ⊢
  simp only [Bool.and_eq_true, beq_iff_eq] at h
  obtain ⟨h1, h2⟩ := h
  rw [h1, h2]
  rcases hne with q | q
  · have : (k == k') = false := by simpa using q
    rw [this]; rfl
  · have : (s == s') = false := by simpa using q
    rw [this]; simp
theorem number_reads {i : Nat} {t : Tok} (h : I.at i = t) (h3 : t.1 = 3) (hn : L.isNum t.2.1 = true) : I.number i = .ok (val t.2.1) (i + 1) := by
  unfold Src.number
  have : ((I.at i).1 == 3) = true := by rw [h, h3]; rfl
  rw [if_pos this, h, if_pos hn]
theorem trust_reads {i : Nat} {a b : Tok} (ha : I.at i = a) (hb : I.at (i + 1) = b) (h1 : is 1 [116, 114, 117, 115, 116] a = true) (h3 : b.1 = 3) (hn : L.isNum b.2.1 = true) : I.trust i = .ok (val b.2.1) (i + 2) := by
  unfold Src.trust; rw [ha, if_pos h1, number_reads hb h3 hn]
theorem trust_none {i : Nat} (h : is 1 [116, 114, 117, 115, 116] (I.at i) = false) : I.trust i = .ok 4607182418800017408 i := by
  unfold Src.trust; rw [h]; rfl
theorem cond_above {i : Nat} {a b : Tok} (ha : I.at i = a) (hb : I.at (i + 1) = b) (h1 : is 1 [97, 98, 111, 118, 101] a = true) (h3 : b.1 = 3) (hn : L.isNum b.2.1 = true) : I.cond i = .ok (1, val b.2.1) (i + 2) := by
  unfold Src.cond; rw [ha, if_pos h1, number_reads hb h3 hn]; rfl
theorem cond_below {i : Nat} {a b : Tok} (ha : I.at i = a) (hb : I.at (i + 1) = b) (h1 : is 1 [98, 101, 108, 111, 119] a = true) (h3 : b.1 = 3) (hn : L.isNum b.2.1 = true) : I.cond i = .ok (2, val b.2.1) (i + 2) := by
  unfold Src.cond
  have h0 : is 1 [97, 98, 111, 118, 101] a = false := is_apart h1 (.inr (by decide))
  rw [ha, h0, h1, number_reads hb h3 hn]; rfl
theorem cond_none {i : Nat} (h : is 1 [97, 98, 111, 118, 101] (I.at i) = false) (h' : is 1 [98, 101, 108, 111, 119] (I.at i) = false) : I.cond i = .ok (0, 0) i := by
  unfold Src.cond; rw [h, h']; rfl
theorem who_reads {i : Nat} {a b c d : Tok} {T : List Tok} (h : Has I i (a :: b :: c :: d :: T)) (ha : isNm a = true) (hb : is 1 [111, 110] b = true) (hc : isNm c = true) (hd : is 4 [58] d = true) : I.who i = .ok (wdOf a, wdOf c) (i + 4) := by
  unfold Src.who
  rw [name_reads h.head.1 ha]
  simp only [Rd.bind]
  rw [one_reads h.tail.head.1 hb]
  simp only [Rd.bind]
  rw [name_reads h.tail.tail.head.1 hc]
  simp only [Rd.bind]
  rw [one_reads h.tail.tail.tail.head.1 hd]
theorem nm_star {t : Tok} (h : isNm t = true) : is 4 [42] t = false := by
  unfold isNm at h
  unfold is
  have : (t.1 == 4) = false := by
    cases q : (t.1 == 4) with
    | false => rfl
    | true =>
      have : t.1 = 4 := by simpa using q
      rw [this] at h
      simp at h
  rw [this]; rfl
theorem Nms.first {T : List Tok} {ws : List Wd} (h : Nms T ws) : ∃ t r, T = t :: r ∧ isNm t = true := by
  cases h with
  | one t h => exact ⟨t, [], rfl, h⟩
  | more t c T ws h hc hT => exact ⟨t, _, rfl, h⟩
theorem actions_star {i : Nat} (h : is 4 [42] (I.at i) = true) : I.actions i = .ok ([], true) (i + 1) := by
  unfold Src.actions; rw [if_pos h]
theorem actions_reads {T : List Tok} {ws : List Wd} (h : Nms T ws) {i : Nat} (hI : Has I i T) (hn : is 4 [44] (I.at (i + T.length)) = false) : I.actions i = .ok (ws, false) (i + T.length) := by
  obtain ⟨t, r, rfl, ht⟩ := h.first
  unfold Src.actions
  rw [if_neg (by rw [hI.head.1, nm_star ht]; decide), names_reads h hI hn]; rfl
/-- the beginning, what stands between, and the sign at the end -/
theorem decl_reads {i m : Nat} {kw : Tok} {d : Dc} {s : Tok} (h : I.at i = kw) (h1 : kw.1 = 1) (hk : kindOf kw.2.1.toList ≠ 0)
    (hr : I.rest ⟨kindOf kw.2.1.toList, kw.2.2.1, kw.2.2.2, noWd, noWd, [], false, 0, 0⟩ (i + 1) = .ok d m) (hs : I.at m = s) (he : is 4 [59] s = true) : I.decl i = .ok d (m + 1) := by
  unfold Src.decl
  have hb : I.begin i = .ok ⟨kindOf kw.2.1.toList, kw.2.2.1, kw.2.2.2, noWd, noWd, [], false, 0, 0⟩ (i + 1) := by
    unfold Src.begin
    rw [h, if_pos (by rw [h1]; simpa using hk)]
  rw [hb]
  simp only [Rd.bind]
  rw [hr]
  simp only [Rd.bind]
  rw [one_reads hs he]
/-- T is read as d, whatever stands around it -/
def Reads (T : List Tok) (d : Dc) : Prop := ∀ (I : Src) (i : Nat), Has I i T → I.decl i = .ok d (i + T.length)
theorem semi_comma {s : Tok} (hs : is 4 [59] s = true) : is 4 [44] s = false := is_apart hs (.inr (by decide))
theorem semi_word {s : Tok} (hs : is 4 [59] s = true) (w : List UInt8) : is 1 w s = false := is_apart hs (.inl (by decide))
theorem word_comma {s : Tok} {w : List UInt8} (hs : is 1 w s = true) : is 4 [44] s = false := is_apart hs (.inl (by decide))
theorem reads_plain {kw s : Tok} {N : List Tok} {ws : List Wd} (h1 : kw.1 = 1) {k : Int} (hk : kindOf kw.2.1.toList = k) (hc : k = 1 ∨ k = 3 ∨ k = 4 ∨ k = 5) (hN : Nms N ws) (hs : is 4 [59] s = true) :
    Reads (kw :: (N ++ [s])) ⟨k, kw.2.2.1, kw.2.2.2, noWd, noWd, ws, false, 0, 0⟩ := by
  intro I i h
  have e := h.tail.right.head.1
  have hn := names_reads hN h.tail.left (by rw [e]; exact semi_comma hs)
  have := decl_reads (m := i + 1 + N.length) (d := ⟨k, kw.2.2.1, kw.2.2.2, noWd, noWd, ws, false, 0, 0⟩) h.head.1 h1 (by rw [hk]; omega) (by
    rw [hk]
    unfold Src.rest
    simp only
    rw [if_neg (by omega), if_neg (by omega), if_neg (by omega), if_neg (by omega), hn]; rfl) e hs
  rw [this]
  congr 1
  simp; omega
theorem reads_subject0 {kw s : Tok} {N : List Tok} {ws : List Wd} (h1 : kw.1 = 1) (hk : kindOf kw.2.1.toList = 2) (hN : Nms N ws) (hs : is 4 [59] s = true) :
    Reads (kw :: (N ++ [s])) ⟨2, kw.2.2.1, kw.2.2.2, noWd, noWd, ws, false, 0, 4607182418800017408⟩ := by
  intro I i h
  have e := h.tail.right.head.1
  have hn := names_reads hN h.tail.left (by rw [e]; exact semi_comma hs)
  have := decl_reads (m := i + 1 + N.length) (d := ⟨2, kw.2.2.1, kw.2.2.2, noWd, noWd, ws, false, 0, 4607182418800017408⟩) h.head.1 h1 (by rw [hk]; decide) (by
    rw [hk]
    unfold Src.rest
    simp only
    rw [if_pos trivial, hn]
    simp only [Rd.bind]
    rw [trust_none (by rw [e]; exact semi_word hs _)]) e hs
  rw [this]
  congr 1
  simp; omega
theorem reads_subject {kw tr nu s : Tok} {N : List Tok} {ws : List Wd} (h1 : kw.1 = 1) (hk : kindOf kw.2.1.toList = 2) (hN : Nms N ws) (ht : is 1 [116, 114, 117, 115, 116] tr = true) (h3 : nu.1 = 3) (hu : L.isNum nu.2.1 = true) (hs : is 4 [59] s = true) :
    Reads (kw :: (N ++ [tr, nu, s])) ⟨2, kw.2.2.1, kw.2.2.2, noWd, noWd, ws, false, 0, val nu.2.1⟩ := by
  intro I i h
  have r := h.tail.right
  have hn := names_reads hN h.tail.left (by rw [r.head.1]; exact word_comma ht)
  have := decl_reads (m := i + 1 + N.length + 2) (d := ⟨2, kw.2.2.1, kw.2.2.2, noWd, noWd, ws, false, 0, val nu.2.1⟩) h.head.1 h1 (by rw [hk]; decide) (by
    rw [hk]
    unfold Src.rest
    simp only
    rw [if_pos trivial, hn]
    simp only [Rd.bind]
    rw [trust_reads r.head.1 r.tail.head.1 ht h3 hu]) r.tail.tail.head.1 hs
  rw [this]
  congr 1
  simp; omega
theorem reads_pair {kw a c s : Tok} {N : List Tok} {ws : List Wd} (h1 : kw.1 = 1) {k : Int} (hk : kindOf kw.2.1.toList = k) (hc : k = 6 ∨ k = 7 ∨ k = 8 ∨ k = 9) (ha : isNm a = true) (hd : is 4 [58] c = true) (hN : Nms N ws) (hs : is 4 [59] s = true) :
    Reads (kw :: a :: c :: (N ++ [s])) ⟨k, kw.2.2.1, kw.2.2.2, wdOf a, noWd, ws, false, 0, 0⟩ := by
  intro I i h
  have e := h.tail.tail.tail.right.head.1
  have hn := names_reads hN h.tail.tail.tail.left (by rw [e]; exact semi_comma hs)
  have := decl_reads (m := i + 1 + 1 + 1 + N.length) (d := ⟨k, kw.2.2.1, kw.2.2.2, wdOf a, noWd, ws, false, 0, 0⟩) h.head.1 h1 (by rw [hk]; omega) (by
    rw [hk]
    unfold Src.rest
    simp only
    rw [if_neg (by omega), if_pos hc, name_reads h.tail.head.1 ha]
    simp only [Rd.bind]
    rw [one_reads h.tail.tail.head.1 hd]
    simp only [Rd.bind]
    rw [hn]) e hs
  rw [this]
  congr 1
  simp; omega
theorem reads_except {kw a b c d s : Tok} {N : List Tok} {ws : List Wd} (h1 : kw.1 = 1) (hk : kindOf kw.2.1.toList = 12) (ha : isNm a = true) (hb : is 1 [111, 110] b = true) (hc : isNm c = true) (hd : is 4 [58] d = true) (hN : Nms N ws) (hs : is 4 [59] s = true) :
    Reads (kw :: a :: b :: c :: d :: (N ++ [s])) ⟨12, kw.2.2.1, kw.2.2.2, wdOf a, wdOf c, ws, false, 0, 0⟩ := by
  intro I i h
  have r := h.tail.tail.tail.tail.tail
  have e := r.right.head.1
  have hn := names_reads hN r.left (by rw [e]; exact semi_comma hs)
  have := decl_reads (m := i + 1 + 1 + 1 + 1 + 1 + N.length) (d := ⟨12, kw.2.2.1, kw.2.2.2, wdOf a, wdOf c, ws, false, 0, 0⟩) h.head.1 h1 (by rw [hk]; decide) (by
    rw [hk]
    unfold Src.rest
    simp only
    rw [if_neg (by omega), if_neg (by omega), if_neg (by omega), if_pos trivial, who_reads h.tail ha hb hc hd]
    simp only [Rd.bind]
    rw [show i + 1 + 4 = i + 1 + 1 + 1 + 1 + 1 by omega, hn]) e hs
  rw [this]
  congr 1
  simp; omega
theorem reads_rule {kw a b c d s : Tok} {A C : List Tok} {ws : List Wd} {all : Bool} {cd : Int} {x : Nat} (h1 : kw.1 = 1) {k : Int} (hk : kindOf kw.2.1.toList = k) (hkk : k = 10 ∨ k = 11) (ha : isNm a = true) (hb : is 1 [111, 110] b = true) (hc : isNm c = true) (hd : is 4 [58] d = true)
    (hA : ∀ (I : Src) (i : Nat), Has I i A → is 4 [44] (I.at (i + A.length)) = false → I.actions i = .ok (ws, all) (i + A.length))
    (hC : ∀ (I : Src) (i : Nat), Has I i (C ++ [s]) → I.cond i = .ok (cd, x) (i + C.length))
    (hcm : ∀ t, (C ++ [s])[0]? = some t → is 4 [44] t = false) (hs : is 4 [59] s = true) :
    Reads (kw :: a :: b :: c :: d :: (A ++ (C ++ [s]))) ⟨k, kw.2.2.1, kw.2.2.2, wdOf a, wdOf c, ws, all, cd, x⟩ := by
  intro I i h
  have r := h.tail.tail.tail.tail.tail
  have rc := r.right
  obtain ⟨t, ht⟩ : ∃ t, (C ++ [s])[0]? = some t := ⟨_, List.getElem?_eq_getElem (by simp)⟩
  have hat : I.at (i + 1 + 1 + 1 + 1 + 1 + A.length) = t := by
    have := rc 0 t ht
    rw [Nat.add_zero] at this
    unfold Src.at
    rw [List.getD_eq_getElem?_getD, this]; rfl
  have hn := hA I _ r.left (by rw [hat]; exact hcm t ht)
  have hx := hC I _ rc
  have e := rc.right.head.1
  have := decl_reads (m := i + 1 + 1 + 1 + 1 + 1 + A.length + C.length) (d := ⟨k, kw.2.2.1, kw.2.2.2, wdOf a, wdOf c, ws, all, cd, x⟩) h.head.1 h1 (by rw [hk]; omega) (by
    rw [hk]
    unfold Src.rest
    simp only
    rw [if_neg (by omega), if_neg (by omega), if_pos hkk, who_reads h.tail ha hb hc hd]
    simp only [Rd.bind]
    rw [show i + 1 + 4 = i + 1 + 1 + 1 + 1 + 1 by omega, hn]
    simp only [Rd.bind]
    rw [hx]) e hs
  rw [this]
  congr 1
  simp; omega
end Lay
end R
end Go.Proofs.YtfgblchnnhdlnaaGreatDoor
set_option linter.unusedVariables false
set_option linter.unusedSimpArgs false
namespace Go.Proofs.YtfgblchnnhdlnaaGreatDoor
open Go.RowKit
namespace R
namespace Lay
def ends : Nat → List (List Tok × Dc) → List (Dc × Nat)
  | _, [] => []
  | i, q :: r => (q.2, i + q.1.length) :: ends (i + q.1.length) r
theorem ends_fst : ∀ (qs : List (List Tok × Dc)) (i : Nat), (ends i qs).map Prod.fst = qs.map Prod.snd := by
  intro qs
  induction qs with
  | nil => intro i; rfl
  | cons q r ih => intro i; simp only [ends, List.map_cons, ih]
theorem ends_end : ∀ (qs : List (List Tok × Dc)) (i : Nat), Cut.endOf i (ends i qs) = i + (qs.flatMap Prod.fst).length := by
  intro qs
  induction qs with
  | nil => intro i; rfl
  | cons q r ih => intro i; simp only [ends, Cut.endOf, ih, List.flatMap_cons, List.length_append]; omega
theorem chain_of {I : Src} : ∀ (qs : List (List Tok × Dc)) (i : Nat), (∀ q ∈ qs, Reads q.1 q.2) → Has I i (qs.flatMap Prod.fst) → Cut.Chain I i (ends i qs) := by
  intro qs
  induction qs with
  | nil => intro i _ _; trivial
  | cons q r ih =>
    intro i h hI
    rw [List.flatMap_cons] at hI
    exact ⟨h q (List.mem_cons_self ..) I i hI.left, ih _ (fun x hx => h x (List.mem_cons_of_mem _ hx)) hI.right⟩
theorem end_ge {I : Src} : ∀ (ps : List (Dc × Nat)) (i : Nat), Cut.Chain I i ps → i ≤ Cut.endOf i ps ∧ ∀ p ∈ ps, p.2 ≤ Cut.endOf i ps := by
  intro ps
  induction ps with
  | nil => intro i _; exact ⟨Nat.le_refl _, fun p hp => by cases hp⟩
  | cons p r ih =>
    intro i h
    have := Cut.decl_gt h.1
    obtain ⟨k1, k2⟩ := ih p.2 h.2
    refine ⟨by simp only [Cut.endOf]; omega, fun x hx => ?_⟩
    rcases List.mem_cons.1 hx with rfl | hx
    · exact k1
    · exact k2 x hx
theorem end_in : ∀ (ps : List (Dc × Nat)) (i : Nat), Cut.endOf i ps = i ∨ ∃ p ∈ ps, p.2 = Cut.endOf i ps := by
  intro ps
  induction ps with
  | nil => intro i; exact .inl rfl
  | cons p r ih =>
    intro i
    rcases ih p.2 with h | ⟨x, hx, h⟩
    · exact .inr ⟨p, List.mem_cons_self .., by simp only [Cut.endOf]; exact h.symm⟩
    · exact .inr ⟨x, List.mem_cons_of_mem _ hx, by simp only [Cut.endOf]; exact h⟩
theorem src_plain (l : List Tok) (h : ∀ x ∈ l, x.1 ≠ 5) : src l = ⟨l, (5, ByteArray.empty, 0, 0)⟩ := by
  induction l with
  | nil => rfl
  | cons x l ih =>
    have hx : (x.1 == 5) = false := by simpa using h x (List.mem_cons_self ..)
    have := ih (fun y hy => h y (List.mem_cons_of_mem _ hy))
    simp [src, hx, this]
/-- TOKENS THAT ARE LAID BY THE GRAMMAR ARE READ AS THE DECLARATIONS THAT THEY ARE -/
theorem decls_laid (qs : List (List Tok × Dc)) (h : ∀ q ∈ qs, Reads q.1 q.2) (h5 : ∀ x ∈ qs.flatMap Prod.fst, x.1 ≠ 5) : decls (qs.flatMap Prod.fst) = .ok (qs.map Prod.snd) (qs.flatMap Prod.fst).length := by
  obtain ⟨T, hT⟩ : ∃ T, qs.flatMap Prod.fst = T := ⟨_, rfl⟩
  unfold decls
  rw [hT] at h5 ⊢
  rw [src_plain T h5]
  have hI : Has ⟨T, (5, ByteArray.empty, 0, 0)⟩ 0 (qs.flatMap Prod.fst) := fun k t hk => by
    rw [Nat.zero_add]; rw [hT] at hk; exact hk
  have hch := chain_of qs 0 h hI
  have he := ends_end qs 0
  rw [hT, Nat.zero_add] at he
  have A : Cut.Ag ⟨T, (5, ByteArray.empty, 0, 0)⟩ ⟨T, (5, ByteArray.empty, 0, 0)⟩ T.length := by
    refine ⟨fun _ _ => rfl, ?_, rfl, Nat.le_refl _⟩
    have : Src.at ⟨T, (5, ByteArray.empty, 0, 0)⟩ T.length = (5, ByteArray.empty, 0, 0) := by
      unfold Src.at; rw [List.getD_eq_getElem?_getD, List.getElem?_eq_none (Nat.le_refl _)]; rfl
    rw [this]
    unfold Cut.Dead
    simp
  obtain ⟨k1, _⟩ := Cut.text_cut A (ends 0 qs) 0 [] (T.length + 1) hch (Nat.zero_le _) (by rw [he]; exact Nat.le_refl _) (by simp)
  rw [k1 ⟨rfl, ?_⟩, List.nil_append]
  · congr 1
    rw [List.filter_eq_self.2 (fun p hp => by have := (end_ge _ _ hch).2 p hp; rw [he] at this; simpa using this), ends_fst]
  · rcases end_in (ends 0 qs) 0 with q | ⟨p, hp, q⟩
    · left; omega
    · right; exact ⟨p, hp, by rw [q, he]⟩
end Lay
end R
end Go.Proofs.YtfgblchnnhdlnaaGreatDoor
