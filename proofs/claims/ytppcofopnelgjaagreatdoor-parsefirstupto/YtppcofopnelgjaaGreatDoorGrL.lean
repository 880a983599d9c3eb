import Derived.Test.YtppcofopnelgjaaGreatDoorGrA
import Derived.Test.YtppcofopnelgjaaGreatDoorTurn
set_option linter.unusedVariables false
set_option linter.unusedSimpArgs false
namespace Go.Proofs.YtppcofopnelgjaaGreatDoor
open Go.RowKit
namespace R
/-! a text that is cut: what the reading of a whole text becomes where a dead token stands in it -/
namespace Cut
def Dead (t : Tok) : Prop := t.1 ≠ 1 ∧ t.1 ≠ 2 ∧ t.1 ≠ 3 ∧ t.1 ≠ 4
/-- J is I up to n, and dead there -/
structure Ag (I J : Src) (n : Nat) : Prop where
  same : ∀ k, k < n → J.at k = I.at k
  dead : Dead (J.at n)
  ends : I.e.1 = 5
  len : n ≤ J.l.length
theorem is_dead {t : Tok} (h : Dead t) {k : Int} (hk : k = 1 ∨ k = 4) (s : List UInt8) : is k s t = false := by
  obtain ⟨h1, h2, h3, h4⟩ := h
  unfold is
  rcases hk with rfl | rfl
  · have : (t.1 == 1) = false := by simpa using h1
    rw [this]; rfl
  · have : (t.1 == 4) = false := by simpa using h4
    rw [this]; rfl
theorem nm_dead {t : Tok} (h : Dead t) : isNm t = false := by
  obtain ⟨h1, h2, h3, h4⟩ := h
  unfold isNm
  have e1 : (t.1 == 1) = false := by simpa using h1
  have e2 : (t.1 == 2) = false := by simpa using h2
  rw [e1, e2]; rfl
/-- nothing is read at n: a fault there, or nothing taken -/
def At (n : Nat) {α : Type} (y : Rd α) : Prop := y = .bad n 40 ∨ ∃ a, y = .ok a n
def Opt {α : Type} (n : Nat) (x y : Rd α) : Prop := ∀ a j, x = .ok a j → (j ≤ n → y = .ok a j) ∧ (n < j → At n y)
theorem bind_inv {α β : Type} {x : Rd α} {f : α → Nat → Rd β} {b : β} {j : Nat} (h : x.bind f = .ok b j) : ∃ a i, x = .ok a i ∧ f a i = .ok b j := by
  cases x with
  | ok a i => exact ⟨a, i, rfl, h⟩
  | bad i c => cases h
theorem At.bind {α β : Type} {n : Nat} {y : Rd α} {g : α → Nat → Rd β} (h : At n y) (hg : ∀ a, At n (g a n)) : At n (y.bind g) := by
  rcases h with h | ⟨a, h⟩
  · rw [h]; exact .inl rfl
  · rw [h]; exact hg a
theorem Opt.bind {α β : Type} {n : Nat} {x y : Rd α} {f g : α → Nat → Rd β} (h : Opt n x y) (hf : ∀ a j, x = .ok a j → j ≤ n → Opt n (f a j) (g a j)) (hg : ∀ a, At n (g a n)) (mono : ∀ a j b k, f a j = .ok b k → j ≤ k) : Opt n (x.bind f) (y.bind g) := by
  intro b k hb
  obtain ⟨a, j, hx, hfb⟩ := bind_inv hb
  have hjk := mono a j b k hfb
  obtain ⟨h1, h2⟩ := h a j hx
  refine ⟨fun hk => ?_, fun hk => ?_⟩
  · rw [h1 (by omega)]
    exact (hf a j hx (by omega) b k hfb).1 hk
  · by_cases hj : j ≤ n
    · rw [h1 hj]
      exact (hf a j hx hj b k hfb).2 hk
    · exact (h2 (by omega)).bind hg
theorem Opt.pure {α : Type} {n : Nat} (a : α) (i : Nat) (hi : i ≤ n) : Opt n (Rd.ok a i) (Rd.ok a i) := fun b j h => by
  cases h
  exact ⟨fun _ => rfl, fun q => by omega⟩
theorem At.pure {α : Type} {n : Nat} (a : α) : At n (Rd.ok a n) := .inr ⟨a, rfl⟩
variable {I J : Src} {n : Nat}
theorem name_le {i : Nat} {w : Wd} {j : Nat} (h : I.name i = .ok w j) : i ≤ j := by
  unfold Src.name at h
  split at h
  · cases h; omega
  · cases h
theorem one_le {k : Int} {s : List UInt8} {i : Nat} {w : Unit} {j : Nat} (h : I.one k s i = .ok w j) : i ≤ j := by
  unfold Src.one at h
  split at h
  · cases h; omega
  · cases h
theorem number_le {i x j : Nat} (h : I.number i = .ok x j) : i ≤ j := by
  unfold Src.number at h
  split at h
  · split at h
    · cases h; omega
    · cases h
  · cases h
theorem more_le : ∀ (f : Nat) (acc : List Wd) (i : Nat) (l : List Wd) (j : Nat), I.more f acc i = .ok l j → i ≤ j := by
  intro f
  induction f with
  | zero => intro acc i l j h; cases h; omega
  | succ f ih =>
    intro acc i l j h
    unfold Src.more at h
    split at h
    · obtain ⟨w, k, h1, h⟩ := bind_inv h
      have := name_le h1
      have := ih _ _ _ _ h
      omega
    · cases h; omega
theorem names_le {i : Nat} {l : List Wd} {j : Nat} (h : I.names i = .ok l j) : i ≤ j := by
  unfold Src.names at h
  obtain ⟨w, k, h1, h⟩ := bind_inv h
  have := name_le h1
  have := more_le _ _ _ _ _ h
  omega
theorem trust_le {i x j : Nat} (h : I.trust i = .ok x j) : i ≤ j := by
  unfold Src.trust at h
  split at h
  · have := number_le h; omega
  · cases h; omega
theorem cond_le {i : Nat} {c : Int × Nat} {j : Nat} (h : I.cond i = .ok c j) : i ≤ j := by
  unfold Src.cond at h
  split at h
  · obtain ⟨x, k, hx, h⟩ := bind_inv h
    have := number_le hx
    cases h; omega
  · split at h
    · obtain ⟨x, k, hx, h⟩ := bind_inv h
      have := number_le hx
      cases h; omega
    · cases h; omega
theorem actions_le {i : Nat} {l : List Wd × Bool} {j : Nat} (h : I.actions i = .ok l j) : i ≤ j := by
  unfold Src.actions at h
  split at h
  · cases h; omega
  · obtain ⟨x, k, hx, h⟩ := bind_inv h
    have := names_le hx
    cases h; omega
theorem who_le {i : Nat} {l : Wd × Wd} {j : Nat} (h : I.who i = .ok l j) : i ≤ j := by
  unfold Src.who at h
  obtain ⟨_, k1, h1, h⟩ := bind_inv h
  obtain ⟨_, k2, h2, h⟩ := bind_inv h
  obtain ⟨_, k3, h3, h⟩ := bind_inv h
  obtain ⟨_, k4, h4, h⟩ := bind_inv h
  have := name_le h1
  have := one_le h2
  have := name_le h3
  have := one_le h4
  cases h; omega
/-! at n nothing is read -/
theorem name_at (A : Ag I J n) : J.name n = .bad n 40 := by
  unfold Src.name; rw [nm_dead A.dead]; rfl
theorem one_at (A : Ag I J n) {k : Int} (hk : k = 1 ∨ k = 4) (s : List UInt8) : J.one k s n = .bad n 40 := by
  unfold Src.one; rw [is_dead A.dead hk]; rfl
theorem number_at (A : Ag I J n) : J.number n = .bad n 40 := by
  unfold Src.number
  have : ((J.at n).1 == 3) = false := by simpa using A.dead.2.2.1
  rw [this]; rfl
theorem more_at (A : Ag I J n) (f : Nat) (acc : List Wd) : J.more f acc n = .ok acc n := by
  cases f with
  | zero => rfl
  | succ f => unfold Src.more; rw [is_dead A.dead (.inr rfl)]; rfl
theorem names_at (A : Ag I J n) : J.names n = .bad n 40 := by
  unfold Src.names; rw [name_at A]; rfl
theorem trust_at (A : Ag I J n) : J.trust n = .ok 4607182418800017408 n := by
  unfold Src.trust; rw [is_dead A.dead (.inl rfl)]; rfl
theorem cond_at (A : Ag I J n) : J.cond n = .ok (0, 0) n := by
  unfold Src.cond; rw [is_dead A.dead (.inl rfl), is_dead A.dead (.inl rfl)]; rfl
theorem actions_at (A : Ag I J n) : J.actions n = .bad n 40 := by
  unfold Src.actions; rw [is_dead A.dead (.inr rfl), names_at A]; rfl
theorem who_at (A : Ag I J n) : J.who n = .bad n 40 := by
  unfold Src.who; rw [name_at A]; rfl
/-! ahead of n all is as it was -/
theorem name_opt (A : Ag I J n) {i : Nat} (hi : i ≤ n) : Opt n (I.name i) (J.name i) := by
  intro w j h
  by_cases hn : i = n
  · subst hn
    have : j = i + 1 := by
      unfold Src.name at h
      split at h
      · cases h; rfl
      · cases h
    exact ⟨fun q => by omega, fun _ => .inl (name_at A)⟩
  · have e : J.name i = I.name i := by unfold Src.name; rw [A.same i (by omega)]
    have : j = i + 1 := by
      unfold Src.name at h
      split at h
      · cases h; rfl
      · cases h
    exact ⟨fun _ => by rw [e, h], fun q => by omega⟩
theorem one_opt (A : Ag I J n) {k : Int} (hk : k = 1 ∨ k = 4) (s : List UInt8) {i : Nat} (hi : i ≤ n) : Opt n (I.one k s i) (J.one k s i) := by
  intro w j h
  have hj : j = i + 1 := by
    unfold Src.one at h
    split at h
    · cases h; rfl
    · cases h
  by_cases hn : i = n
  · subst hn
    exact ⟨fun q => by omega, fun _ => .inl (one_at A hk s)⟩
  · have e : J.one k s i = I.one k s i := by unfold Src.one; rw [A.same i (by omega)]
    exact ⟨fun _ => by rw [e, h], fun q => by omega⟩
theorem number_opt (A : Ag I J n) {i : Nat} (hi : i ≤ n) : Opt n (I.number i) (J.number i) := by
  intro w j h
  have hj : j = i + 1 := by
    unfold Src.number at h
    split at h
    · split at h
      · cases h; rfl
      · cases h
    · cases h
  by_cases hn : i = n
  · subst hn
    exact ⟨fun q => by omega, fun _ => .inl (number_at A)⟩
  · have e : J.number i = I.number i := by unfold Src.number; rw [A.same i (by omega)]
    exact ⟨fun _ => by rw [e, h], fun q => by omega⟩
theorem at_end (A : Ag I J n) {i : Nat} (hi : I.l.length ≤ i) (s : List UInt8) : is 4 s (I.at i) = false := by
  have : I.at i = I.e := by unfold Src.at; rw [List.getD_eq_getElem?_getD, List.getElem?_eq_none hi]; rfl
  rw [this]
  unfold is
  rw [A.ends]; rfl
theorem more_opt (A : Ag I J n) : ∀ (f f' : Nat) (acc : List Wd) (i : Nat), i ≤ n → I.l.length < i + f + 1 → n < i + f' + 1 → Opt n (I.more f acc i) (J.more f' acc i) := by
  intro f
  induction f with
  | zero =>
    intro f' acc i hi hf hf' l j h
    cases h
    refine ⟨fun _ => ?_, fun q => by omega⟩
    cases f' with
    | zero => rfl
    | succ f' =>
      have e : is 4 [44] (J.at i) = false := by
        by_cases hn : i = n
        · subst hn; exact is_dead A.dead (.inr rfl) _
        · rw [A.same i (by omega)]; exact at_end A (by omega) _
      unfold Src.more; rw [e]; rfl
  | succ f ih =>
    intro f' acc i hi hf hf' l j h
    by_cases hn : i = n
    · subst hn
      rw [more_at A]
      refine ⟨fun q => ?_, fun _ => .inr ⟨acc, rfl⟩⟩
      have hij := more_le _ _ _ _ _ h
      unfold Src.more at h
      split at h
      · obtain ⟨w, k, h1, h⟩ := bind_inv h
        have := name_le h1
        have := more_le _ _ _ _ _ h
        omega
      · cases h; rfl
    · obtain ⟨g, rfl⟩ : ∃ g, f' = g + 1 := ⟨f' - 1, by omega⟩
      unfold Src.more at h ⊢
      rw [A.same i (by omega)]
      split at h
      · rename_i hc
        rw [if_pos hc]
        refine (Opt.bind (name_opt A (by omega)) (fun w k hk hkn => ?_) (fun w => ?_) (fun w k b k' hb => more_le _ _ _ _ _ hb)) l j h
        · have := name_le hk
          exact ih g _ _ hkn (by omega) (by omega)
        · rw [more_at A]; exact At.pure _
      · rename_i hc
        rw [if_neg hc]
        cases h
        exact ⟨fun _ => rfl, fun q => by omega⟩
theorem name_in (A : Ag I J n) {i : Nat} {w : Wd} {j : Nat} (h : I.name i = .ok w j) : j = i + 1 := by
  unfold Src.name at h
  split at h
  · cases h; rfl
  · cases h
theorem names_opt (A : Ag I J n) {i : Nat} (hi : i ≤ n) : Opt n (I.names i) (J.names i) := by
  unfold Src.names
  refine Opt.bind (name_opt A hi) (fun w k hk hkn => ?_) (fun w => ?_) (fun w k b k' hb => more_le _ _ _ _ _ hb)
  · have := name_in A hk
    have := A.len
    exact more_opt A _ _ _ _ hkn (by omega) (by omega)
  · rw [more_at A]; exact At.pure _
theorem trust_opt (A : Ag I J n) {i : Nat} (hi : i ≤ n) : Opt n (I.trust i) (J.trust i) := by
  by_cases hn : i = n
  · subst hn
    rw [trust_at A]
    intro x j h
    unfold Src.trust at h
    split at h
    · have := number_le h
      exact ⟨fun q => by omega, fun _ => At.pure _⟩
    · cases h
      exact ⟨fun _ => rfl, fun q => by omega⟩
  · unfold Src.trust
    rw [A.same i (by omega)]
    split
    · exact number_opt A (by omega)
    · exact Opt.pure _ _ hi
theorem cond_opt (A : Ag I J n) {i : Nat} (hi : i ≤ n) : Opt n (I.cond i) (J.cond i) := by
  by_cases hn : i = n
  · subst hn
    rw [cond_at A]
    intro x j h
    unfold Src.cond at h
    split at h
    · obtain ⟨y, k, hy, h⟩ := bind_inv h
      have := number_le hy
      cases h
      exact ⟨fun q => by omega, fun _ => At.pure _⟩
    · split at h
      · obtain ⟨y, k, hy, h⟩ := bind_inv h
        have := number_le hy
        cases h
        exact ⟨fun q => by omega, fun _ => At.pure _⟩
      · cases h
        exact ⟨fun _ => rfl, fun q => by omega⟩
  · unfold Src.cond
    rw [A.same i (by omega)]
    split
    · exact Opt.bind (number_opt A (by omega)) (fun x k _ hk => Opt.pure _ _ hk) (fun x => At.pure _) (fun x k b k' h => by cases h; omega)
    · split
      · exact Opt.bind (number_opt A (by omega)) (fun x k _ hk => Opt.pure _ _ hk) (fun x => At.pure _) (fun x k b k' h => by cases h; omega)
      · exact Opt.pure _ _ hi
theorem actions_opt (A : Ag I J n) {i : Nat} (hi : i ≤ n) : Opt n (I.actions i) (J.actions i) := by
  by_cases hn : i = n
  · subst hn
    rw [actions_at A]
    intro x j h
    have hij : i < j := by
      unfold Src.actions at h
      split at h
      · cases h; omega
      · obtain ⟨y, k, hy, h⟩ := bind_inv h
        unfold Src.names at hy
        obtain ⟨z, k', hz, hy⟩ := bind_inv hy
        have := name_in A hz
        have := more_le _ _ _ _ _ hy
        cases h; omega
    exact ⟨fun q => by omega, fun _ => .inl rfl⟩
  · unfold Src.actions
    rw [A.same i (by omega)]
    split
    · exact Opt.pure _ _ (by omega)
    · exact Opt.bind (names_opt A hi) (fun x k _ hk => Opt.pure _ _ hk) (fun x => At.pure _) (fun x k b k' h => by cases h; omega)
theorem who_opt (A : Ag I J n) {i : Nat} (hi : i ≤ n) : Opt n (I.who i) (J.who i) := by
  unfold Src.who
  refine Opt.bind (name_opt A hi) (fun a k _ hk => ?_) (fun a => .inl (by rw [one_at A (.inl rfl)]; rfl)) (fun a k b k' h => ?_)
  · refine Opt.bind (one_opt A (.inl rfl) _ hk) (fun _ k _ hk => ?_) (fun _ => .inl (by rw [name_at A]; rfl)) (fun _ k b k' h => ?_)
    · refine Opt.bind (name_opt A hk) (fun c k _ hk => ?_) (fun c => .inl (by rw [one_at A (.inr rfl)]; rfl)) (fun c k b k' h => ?_)
      · exact Opt.bind (one_opt A (.inr rfl) _ hk) (fun _ k _ hk => Opt.pure _ _ hk) (fun _ => At.pure _) (fun _ k b k' h => by cases h; omega)
      · obtain ⟨_, m, h1, h⟩ := bind_inv h
        have := one_le h1
        cases h; omega
    · obtain ⟨_, m, h1, h⟩ := bind_inv h
      obtain ⟨_, m2, h2, h⟩ := bind_inv h
      have := name_le h1
      have := one_le h2
      cases h; omega
  · obtain ⟨_, m, h1, h⟩ := bind_inv h
    obtain ⟨_, m2, h2, h⟩ := bind_inv h
    obtain ⟨_, m3, h3, h⟩ := bind_inv h
    have := one_le h1
    have := name_le h2
    have := one_le h3
    cases h; omega
/-- .. and the reading ends with a fault there -/
def Str {α : Type} (n : Nat) (x y : Rd α) : Prop := ∀ a j, x = .ok a j → (j ≤ n → y = .ok a j) ∧ (n < j → y = .bad n 40)
theorem Str.bind {α β : Type} {n : Nat} {x y : Rd α} {f g : α → Nat → Rd β} (h : Opt n x y) (hf : ∀ a j, x = .ok a j → j ≤ n → Str n (f a j) (g a j)) (hg : ∀ a, g a n = .bad n 40) (mono : ∀ a j b k, f a j = .ok b k → j ≤ k) : Str n (x.bind f) (y.bind g) := by
  intro b k hb
  obtain ⟨a, j, hx, hfb⟩ := bind_inv hb
  have hjk := mono a j b k hfb
  obtain ⟨h1, h2⟩ := h a j hx
  refine ⟨fun hk => ?_, fun hk => ?_⟩
  · rw [h1 (by omega)]
    exact (hf a j hx (by omega) b k hfb).1 hk
  · by_cases hj : j ≤ n
    · rw [h1 hj]
      exact (hf a j hx hj b k hfb).2 hk
    · rcases h2 (by omega) with q | ⟨a', q⟩
      · rw [q]; rfl
      · rw [q]; exact hg a'
theorem rest_le {d : Dc} {i : Nat} {d' : Dc} {j : Nat} (h : I.rest d i = .ok d' j) : i ≤ j := by
  unfold Src.rest at h
  split at h
  · obtain ⟨_, k1, h1, h⟩ := bind_inv h
    obtain ⟨_, k2, h2, h⟩ := bind_inv h
    have := names_le h1
    have := trust_le h2
    cases h; omega
  · split at h
    · obtain ⟨_, k1, h1, h⟩ := bind_inv h
      obtain ⟨_, k2, h2, h⟩ := bind_inv h
      obtain ⟨_, k3, h3, h⟩ := bind_inv h
      have := name_le h1
      have := one_le h2
      have := names_le h3
      cases h; omega
    · split at h
      · obtain ⟨_, k1, h1, h⟩ := bind_inv h
        obtain ⟨_, k2, h2, h⟩ := bind_inv h
        obtain ⟨_, k3, h3, h⟩ := bind_inv h
        have := who_le h1
        have := actions_le h2
        have := cond_le h3
        cases h; omega
      · split at h
        · obtain ⟨_, k1, h1, h⟩ := bind_inv h
          obtain ⟨_, k2, h2, h⟩ := bind_inv h
          have := who_le h1
          have := names_le h2
          cases h; omega
        · obtain ⟨_, k1, h1, h⟩ := bind_inv h
          have := names_le h1
          cases h; omega
theorem rest_at (A : Ag I J n) (d : Dc) : J.rest d n = .bad n 40 := by
  unfold Src.rest
  split
  · rw [names_at A]; rfl
  · split
    · rw [name_at A]; rfl
    · split
      · rw [who_at A]; rfl
      · split
        · rw [who_at A]; rfl
        · rw [names_at A]; rfl
theorem rest_opt (A : Ag I J n) (d : Dc) {i : Nat} (hi : i ≤ n) : Opt n (I.rest d i) (J.rest d i) := by
  unfold Src.rest
  split
  · refine Opt.bind (names_opt A hi) (fun l k _ hk => ?_) (fun l => ?_) (fun l k b k' h => ?_)
    · exact Opt.bind (trust_opt A hk) (fun x k _ hk => Opt.pure _ _ hk) (fun x => At.pure _) (fun x k b k' h => by cases h; omega)
    · rw [trust_at A]; exact At.pure _
    · obtain ⟨_, m, h1, h⟩ := bind_inv h
      have := trust_le h1
      cases h; omega
  · split
    · refine Opt.bind (name_opt A hi) (fun l k _ hk => ?_) (fun l => .inl (by rw [one_at A (.inr rfl)]; rfl)) (fun l k b k' h => ?_)
      · refine Opt.bind (one_opt A (.inr rfl) _ hk) (fun _ k _ hk => ?_) (fun _ => .inl (by rw [names_at A]; rfl)) (fun _ k b k' h => ?_)
        · exact Opt.bind (names_opt A hk) (fun x k _ hk => Opt.pure _ _ hk) (fun x => At.pure _) (fun x k b k' h => by cases h; omega)
        · obtain ⟨_, m, h1, h⟩ := bind_inv h
          have := names_le h1
          cases h; omega
      · obtain ⟨_, m, h1, h⟩ := bind_inv h
        obtain ⟨_, m2, h2, h⟩ := bind_inv h
        have := one_le h1
        have := names_le h2
        cases h; omega
    · split
      · refine Opt.bind (who_opt A hi) (fun l k _ hk => ?_) (fun l => .inl (by rw [actions_at A]; rfl)) (fun l k b k' h => ?_)
        · refine Opt.bind (actions_opt A hk) (fun _ k _ hk => ?_) (fun _ => ?_) (fun _ k b k' h => ?_)
          · exact Opt.bind (cond_opt A hk) (fun x k _ hk => Opt.pure _ _ hk) (fun x => At.pure _) (fun x k b k' h => by cases h; omega)
          · rw [cond_at A]; exact At.pure _
          · obtain ⟨_, m, h1, h⟩ := bind_inv h
            have := cond_le h1
            cases h; omega
        · obtain ⟨_, m, h1, h⟩ := bind_inv h
          obtain ⟨_, m2, h2, h⟩ := bind_inv h
          have := actions_le h1
          have := cond_le h2
          cases h; omega
      · split
        · refine Opt.bind (who_opt A hi) (fun l k _ hk => ?_) (fun l => .inl (by rw [names_at A]; rfl)) (fun l k b k' h => ?_)
          · exact Opt.bind (names_opt A hk) (fun x k _ hk => Opt.pure _ _ hk) (fun x => At.pure _) (fun x k b k' h => by cases h; omega)
          · obtain ⟨_, m, h1, h⟩ := bind_inv h
            have := names_le h1
            cases h; omega
        · exact Opt.bind (names_opt A hi) (fun x k _ hk => Opt.pure _ _ hk) (fun x => At.pure _) (fun x k b k' h => by cases h; omega)
theorem begin_in {i : Nat} {d : Dc} {j : Nat} (h : I.begin i = .ok d j) : j = i + 1 := by
  unfold Src.begin at h
  split at h
  · cases h; rfl
  · cases h
theorem begin_at (A : Ag I J n) : J.begin n = .bad n 40 := by
  unfold Src.begin
  have : ((J.at n).1 == 1) = false := by simpa using A.dead.1
  rw [this]; rfl
theorem begin_opt (A : Ag I J n) {i : Nat} (hi : i ≤ n) : Opt n (I.begin i) (J.begin i) := by
  intro w j h
  have hj := begin_in h
  by_cases hn : i = n
  · subst hn
    exact ⟨fun q => by omega, fun _ => .inl (begin_at A)⟩
  · have e : J.begin i = I.begin i := by unfold Src.begin; rw [A.same i (by omega)]
    exact ⟨fun _ => by rw [e, h], fun q => by omega⟩
theorem decl_gt {i : Nat} {d : Dc} {j : Nat} (h : I.decl i = .ok d j) : i < j := by
  unfold Src.decl at h
  obtain ⟨_, k1, h1, h⟩ := bind_inv h
  obtain ⟨_, k2, h2, h⟩ := bind_inv h
  obtain ⟨_, k3, h3, h⟩ := bind_inv h
  have := begin_in h1
  have := rest_le h2
  have := one_le h3
  cases h; omega
theorem decl_at (A : Ag I J n) : J.decl n = .bad n 40 := by
  unfold Src.decl; rw [begin_at A]; rfl
/-- A DECLARATION THAT IS CUT IS REFUSED WHERE IT IS CUT -/
theorem decl_cut (A : Ag I J n) {i : Nat} (hi : i ≤ n) : Str n (I.decl i) (J.decl i) := by
  unfold Src.decl
  refine Str.bind (begin_opt A hi) (fun d k _ hk => ?_) (fun d => by rw [rest_at A]; rfl) (fun d k b k' h => ?_)
  · refine Str.bind (rest_opt A d hk) (fun d k _ hk => ?_) (fun d => by rw [one_at A (.inr rfl)]; rfl) (fun d k b k' h => ?_)
    · intro b m h
      have o := one_opt A (.inr rfl) [59] hk
      obtain ⟨u, m', h1, h⟩ := bind_inv h
      cases h
      obtain ⟨o1, o2⟩ := o u m h1
      refine ⟨fun q => by rw [o1 q]; rfl, fun q => ?_⟩
      by_cases hn : k = n
      · subst hn; rw [one_at A (.inr rfl)]; rfl
      · exfalso
        have : m = k + 1 := by
          unfold Src.one at h1
          split at h1
          · cases h1; rfl
          · cases h1
        omega
    · obtain ⟨_, m, h1, h⟩ := bind_inv h
      have := one_le h1
      cases h; omega
  · obtain ⟨_, m, h1, h⟩ := bind_inv h
    obtain ⟨_, m2, h2, h⟩ := bind_inv h
    have := rest_le h1
    have := one_le h2
    cases h; omega
/-- declarations one behind the other, each with the place behind it -/
def Chain (I : Src) : Nat → List (Dc × Nat) → Prop
  | _, [] => True
  | i, p :: r => I.decl i = .ok p.1 p.2 ∧ Chain I p.2 r
def endOf : Nat → List (Dc × Nat) → Nat
  | i, [] => i
  | _, p :: r => endOf p.2 r
theorem chain_gt : ∀ (ps : List (Dc × Nat)) (i : Nat), Chain I i ps → ∀ p ∈ ps, i < p.2 := by
  intro ps
  induction ps with
  | nil => intro i _ p hp; cases hp
  | cons q r ih =>
    intro i h p hp
    have := decl_gt h.1
    rcases List.mem_cons.1 hp with rfl | hp
    · exact this
    · have := ih _ h.2 p hp; omega
/-- A TEXT THAT IS CUT: the declarations that stand there whole, if the cut is behind one and nothing follows; else a fault at the cut -/
theorem text_cut (A : Ag I J n) : ∀ (ps : List (Dc × Nat)) (i : Nat) (acc : List Dc) (f : Nat), Chain I i ps → i ≤ n → n ≤ endOf i ps → J.l.length < i + f →
    (n = J.l.length ∧ (n = i ∨ ∃ p ∈ ps, p.2 = n) → J.text f acc i = .ok (acc ++ (ps.filter fun p => decide (p.2 ≤ n)).map Prod.fst) n) ∧
    (¬ (n = J.l.length ∧ (n = i ∨ ∃ p ∈ ps, p.2 = n)) → J.text f acc i = .bad n 40) := by
  have stop : ∀ (acc : List Dc) (f : Nat), J.l.length < n + f → (n = J.l.length → J.text f acc n = .ok acc n) ∧ (n ≠ J.l.length → J.text f acc n = .bad n 40) := by
    intro acc f hf
    have hl := A.len
    refine ⟨fun e => ?_, fun e => ?_⟩
    · cases f with
      | zero => rfl
      | succ f => unfold Src.text; rw [if_neg (by omega)]
    · obtain ⟨g, rfl⟩ : ∃ g, f = g + 1 := ⟨f - 1, by omega⟩
      unfold Src.text; rw [if_pos (by omega), decl_at A]; rfl
  intro ps
  induction ps with
  | nil =>
    intro i acc f _ hi hn hf
    obtain rfl : n = i := by simp only [endOf] at hn; omega
    refine ⟨fun q => ?_, fun q => ?_⟩
    · simpa using (stop acc f hf).1 q.1
    · exact (stop acc f hf).2 (fun e => q ⟨e, .inl rfl⟩)
  | cons p r ih =>
    intro i acc f h hi hn hf
    have hl := A.len
    have hlt := decl_gt h.1
    have hgt := chain_gt r p.2 h.2
    by_cases hjn : p.2 ≤ n
    · obtain ⟨g, rfl⟩ : ∃ g, f = g + 1 := ⟨f - 1, by omega⟩
      have e := (decl_cut A hi p.1 p.2 h.1).1 hjn
      have et : J.text (g + 1) acc i = J.text g (acc ++ [p.1]) p.2 := by
        show (if i < J.l.length then (J.decl i).bind fun d j => J.text g (acc ++ [d]) j else Rd.ok acc i) = _
        rw [if_pos (by omega), e]; rfl
      rw [et]
      obtain ⟨k1, k2⟩ := ih p.2 (acc ++ [p.1]) g h.2 hjn hn (by omega)
      have hiff : (n = J.l.length ∧ (n = i ∨ ∃ q ∈ p :: r, q.2 = n)) ↔ (n = J.l.length ∧ (n = p.2 ∨ ∃ q ∈ r, q.2 = n)) := by
        refine ⟨fun ⟨a, b⟩ => ⟨a, ?_⟩, fun ⟨a, b⟩ => ⟨a, ?_⟩⟩
        · rcases b with b | ⟨q, hq, e'⟩
          · omega
          · rcases List.mem_cons.1 hq with hq | hq
            · exact .inl (by rw [← hq]; exact e'.symm)
            · exact .inr ⟨q, hq, e'⟩
        · rcases b with b | ⟨q, hq, e⟩
          · exact .inr ⟨p, List.mem_cons_self .., b.symm⟩
          · exact .inr ⟨q, List.mem_cons_of_mem _ hq, e⟩
      rw [hiff]
      refine ⟨fun q => ?_, k2⟩
      rw [k1 q, List.filter_cons_of_pos (by simpa using hjn)]
      simp
    · have hf0 : (p :: r).filter (fun p => decide (p.2 ≤ n)) = [] := by
        rw [List.filter_eq_nil_iff]
        intro q hq
        rcases List.mem_cons.1 hq with rfl | hq
        · simpa using hjn
        · have := hgt q hq
          simp; omega
      have hno : ¬ ∃ q ∈ p :: r, q.2 = n := by
        rintro ⟨q, hq, e⟩
        rcases List.mem_cons.1 hq with rfl | hq
        · omega
        · have := hgt q hq; omega
      rw [hf0]
      by_cases hin : i = n
      · subst hin
        refine ⟨fun q => by simpa using (stop acc f hf).1 q.1, fun q => (stop acc f hf).2 (fun e => q ⟨e, .inl rfl⟩)⟩
      · refine ⟨fun q => ?_, fun _ => ?_⟩
        · rcases q.2 with e | e
          · omega
          · exact absurd e hno
        · obtain ⟨g, rfl⟩ : ∃ g, f = g + 1 := ⟨f - 1, by omega⟩
          have e := (decl_cut A hi p.1 p.2 h.1).2 (by omega)
          show (if i < J.l.length then (J.decl i).bind fun d j => J.text g (acc ++ [d]) j else Rd.ok acc i) = _
          rw [if_pos (by omega), e]; rfl
end Cut
end R
end Go.Proofs.YtppcofopnelgjaaGreatDoor
set_option linter.unusedVariables false
set_option linter.unusedSimpArgs false
namespace Go.Proofs.YtppcofopnelgjaaGreatDoor
open Go.RowKit
namespace R
/-! the reading of tokens as a machine: the document's way of saying it -/
namespace M
def zero : Dc := ⟨0, 0, 0, noWd, noWd, [], false, 0, 0⟩
/-- the kind that a token begins -/
def kind (t : Tok) : Int := if t.1 = 1 then kindOf t.2.1.toList else 0
def cnd (k : Int) (t : Tok) : Bool := if k = 2 then is 1 [116, 114, 117, 115, 116] t else (decide (k = 10 ∨ k = 11)) && (is 1 [97, 98, 111, 118, 101] t || is 1 [98, 101, 108, 111, 119] t)
def figure (t : Tok) : Bool := (t.1 == 3) && L.isNum t.2.1
/-- the state behind a token in the names -/
def lists (k : Int) (at_ : Nat) (t : Tok) : Option Nat :=
  if (at_ = 1 ∨ at_ = 9) ∧ isNm t = true then some 2
  else if at_ = 9 ∧ is 4 [42] t = true then some 10
  else if at_ = 2 ∧ is 4 [44] t = true then some 1
  else if (at_ = 2 ∨ at_ = 10 ∨ at_ = 4) ∧ is 4 [59] t = true then some 0
  else if (at_ = 2 ∨ at_ = 10) ∧ cnd k t = true then some 3
  else none
/-- the state behind a token -/
def nx (k : Int) (at_ : Nat) (t : Tok) : Option Nat :=
  if at_ = 0 then (if kind t = 0 then none else if kind t ≤ 5 then some 1 else some 5)
  else if at_ = 3 ∧ figure t = true then some 4
  else if at_ = 5 ∧ isNm t = true then some 6
  else if at_ = 6 ∧ k ≤ 9 ∧ is 4 [58] t = true then some 1
  else if at_ = 6 ∧ 10 ≤ k ∧ is 1 [111, 110] t = true then some 7
  else if at_ = 7 ∧ isNm t = true then some 8
  else if at_ = 8 ∧ k = 12 ∧ is 4 [58] t = true then some 1
  else if at_ = 8 ∧ k ≠ 12 ∧ is 4 [58] t = true then some 9
  else lists k at_ t
/-- a declaration with what a token in a state says -/
def fill (d : Dc) (at_ : Nat) (t : Tok) : Dc :=
  if at_ = 0 then { zero with kind := kind t, line := t.2.2.1, col := t.2.2.2, level := if kind t = 2 then 4607182418800017408 else 0 }
  else if at_ = 5 then { d with head := wdOf t }
  else if at_ = 7 then { d with on := wdOf t }
  else if (at_ = 1 ∨ at_ = 9) ∧ isNm t = true then { d with names := d.names ++ [wdOf t] }
  else if at_ = 9 then { d with all := true }
  else if at_ = 3 then { d with level := val t.2.1 }
  else if is 1 [97, 98, 111, 118, 101] t = true then { d with cond := 1 }
  else if is 1 [98, 101, 108, 111, 119] t = true then { d with cond := 2 }
  else d
def code (at_ : Nat) (t : Tok) : Int := if at_ = 3 ∧ t.1 = 3 then 23 else 40
/-- the machine goes over tokens -/
def run : List Tok → Nat → Dc → List Dc → Nat → Rd (List Dc)
  | [], a, d, out, i => if a = 0 then .ok out i else .bad i 40
  | t :: ts, a, d, out, i =>
    match nx d.kind a t with
    | none => .bad i (code a t)
    | some n => if n = 0 then run ts 0 zero (out ++ [fill d a t]) (i + 1) else run ts n (fill d a t) out (i + 1)
variable {I : Src}
/-- the machine from a place on -/
def S (I : Src) (a : Nat) (d : Dc) (out : List Dc) (i : Nat) : Rd (List Dc) := run (I.l.drop i) a d out i
theorem at_lt {i : Nat} (h : i < I.l.length) : I.l.drop i = I.at i :: I.l.drop (i + 1) := by
  have e : I.at i = I.l[i] := by unfold Src.at; rw [List.getD_eq_getElem?_getD, List.getElem?_eq_getElem h]; rfl
  rw [e]; exact (List.drop_eq_getElem_cons h)
theorem at_ge {i : Nat} (h : I.l.length ≤ i) : I.at i = I.e := by unfold Src.at; rw [List.getD_eq_getElem?_getD, List.getElem?_eq_none h]; rfl
theorem end_is {e : Tok} (he : e.1 = 5) {k : Int} (hk : k = 1 ∨ k = 4) (s : List UInt8) : is k s e = false := Cut.is_dead ⟨by rw [he]; decide, by rw [he]; decide, by rw [he]; decide, by rw [he]; decide⟩ hk s
theorem end_nm {e : Tok} (he : e.1 = 5) : isNm e = false := Cut.nm_dead ⟨by rw [he]; decide, by rw [he]; decide, by rw [he]; decide, by rw [he]; decide⟩
theorem end_nx {e : Tok} (he : e.1 = 5) (k : Int) (a : Nat) (ha : a ≠ 0) : nx k a e = none := by
  have h3 : figure e = false := by unfold figure; rw [he]; rfl
  have h4 : cnd k e = false := by unfold cnd; rw [end_is he (.inl rfl), end_is he (.inl rfl), end_is he (.inl rfl)]; split <;> simp
  unfold nx lists
  simp [ha, h3, h4, end_nm he, end_is he (.inl rfl : (1 : Int) = 1 ∨ (1 : Int) = 4), end_is he (.inr rfl : (4 : Int) = 1 ∨ (4 : Int) = 4)]
theorem step0 {i : Nat} {d : Dc} {out : List Dc} (h : i < I.l.length) : S I 0 d out i = (match nx d.kind 0 (I.at i) with | none => .bad i 40 | some n => if n = 0 then S I 0 zero (out ++ [fill d 0 (I.at i)]) (i + 1) else S I n (fill d 0 (I.at i)) out (i + 1)) := by
  unfold S
  rw [at_lt h, run]
  rfl
theorem stop0 {i : Nat} {d : Dc} {out : List Dc} (h : I.l.length ≤ i) : S I 0 d out i = .ok out i := by
  unfold S
  rw [List.drop_eq_nil_of_le h]
  rfl
theorem step (he : I.e.1 = 5) {a i : Nat} {d : Dc} {out : List Dc} (ha : a ≠ 0) : S I a d out i = (match nx d.kind a (I.at i) with | none => .bad i (code a (I.at i)) | some n => if n = 0 then S I 0 zero (out ++ [fill d a (I.at i)]) (i + 1) else S I n (fill d a (I.at i)) out (i + 1)) := by
  by_cases h : i < I.l.length
  · unfold S
    rw [at_lt h, run]
  · have hg : I.l.length ≤ i := by omega
    rw [at_ge hg, end_nx he _ _ ha]
    unfold S
    rw [List.drop_eq_nil_of_le hg]
    have : code a I.e = 40 := by unfold code; rw [he]; simp
    rw [this]
    simp [run, ha]
/-! what stands in each state -/
theorem s_name (he : I.e.1 = 5) (d : Dc) (out : List Dc) (i : Nat) : S I 1 d out i = (I.name i).bind fun w j => S I 2 { d with names := d.names ++ [w] } out j := by
  rw [step he (by decide)]
  unfold Src.name
  by_cases h : isNm (I.at i) = true
  · simp [nx, lists, fill, h, Rd.bind]
  · simp only [Bool.not_eq_true] at h
    have h9 : nx d.kind 1 (I.at i) = none := by simp [nx, lists, h]
    rw [h9, h]
    simp [Rd.bind, code]
theorem s_head (he : I.e.1 = 5) (d : Dc) (out : List Dc) (i : Nat) : S I 5 d out i = (I.name i).bind fun w j => S I 6 { d with head := w } out j := by
  rw [step he (by decide)]
  unfold Src.name
  by_cases h : isNm (I.at i) = true
  · simp [nx, lists, fill, h, Rd.bind]
  · simp only [Bool.not_eq_true] at h
    have h9 : nx d.kind 5 (I.at i) = none := by simp [nx, lists, h]
    rw [h9, h]
    simp [Rd.bind, code]
theorem s_on (he : I.e.1 = 5) (d : Dc) (out : List Dc) (i : Nat) : S I 7 d out i = (I.name i).bind fun w j => S I 8 { d with on := w } out j := by
  rw [step he (by decide)]
  unfold Src.name
  by_cases h : isNm (I.at i) = true
  · simp [nx, lists, fill, h, Rd.bind]
  · simp only [Bool.not_eq_true] at h
    have h9 : nx d.kind 7 (I.at i) = none := by simp [nx, lists, h]
    rw [h9, h]
    simp [Rd.bind, code]
/-- a sign or a keyword is no other one -/
theorem is_not {k k' : Int} {s s' : List UInt8} {t : Tok} (h : is k s t = true) (hn : k ≠ k' ∨ s ≠ s') : is k' s' t = false := by
  unfold is at h ⊢
  rw [Bool.and_eq_true, beq_iff_eq, beq_iff_eq] at h
  rw [h.1, h.2]
  rcases hn with hn | hn
  · rw [show (k == k') = false by simpa using hn]; rfl
  · rw [show (s == s') = false by simpa using hn]; simp
theorem s_colon (he : I.e.1 = 5) (d : Dc) (out : List Dc) (i : Nat) (hk : d.kind ≤ 9) : S I 6 d out i = (I.one 4 [58] i).bind fun _ j => S I 1 d out j := by
  rw [step he (by decide)]
  unfold Src.one
  by_cases h : is 4 [58] (I.at i) = true
  · have a1 := is_not h (k' := 1) (s' := [97, 98, 111, 118, 101]) (.inl (by decide))
    have a2 := is_not h (k' := 1) (s' := [98, 101, 108, 111, 119]) (.inl (by decide))
    simp [nx, lists, fill, h, hk, a1, a2, Rd.bind]
  · simp only [Bool.not_eq_true] at h
    have h9 : nx d.kind 6 (I.at i) = none := by simp [nx, lists, h]; omega
    rw [h9, h]
    simp [Rd.bind, code]
theorem s_onw (he : I.e.1 = 5) (d : Dc) (out : List Dc) (i : Nat) (hk : 10 ≤ d.kind) : S I 6 d out i = (I.one 1 [111, 110] i).bind fun _ j => S I 7 d out j := by
  have hk9 : ¬ d.kind ≤ 9 := by omega
  rw [step he (by decide)]
  unfold Src.one
  by_cases h : is 1 [111, 110] (I.at i) = true
  · have a1 := is_not h (k' := 1) (s' := [97, 98, 111, 118, 101]) (.inr (by decide))
    have a2 := is_not h (k' := 1) (s' := [98, 101, 108, 111, 119]) (.inr (by decide))
    simp [nx, lists, fill, h, hk, hk9, a1, a2, Rd.bind]
  · simp only [Bool.not_eq_true] at h
    have h9 : nx d.kind 6 (I.at i) = none := by simp [nx, lists, h, hk9]
    rw [h9, h]
    simp [Rd.bind, code]
theorem s_rule12 (he : I.e.1 = 5) (d : Dc) (out : List Dc) (i : Nat) (hk : d.kind = 12) : S I 8 d out i = (I.one 4 [58] i).bind fun _ j => S I 1 d out j := by
  rw [step he (by decide)]
  unfold Src.one
  by_cases h : is 4 [58] (I.at i) = true
  · have a1 := is_not h (k' := 1) (s' := [97, 98, 111, 118, 101]) (.inl (by decide))
    have a2 := is_not h (k' := 1) (s' := [98, 101, 108, 111, 119]) (.inl (by decide))
    simp [nx, lists, fill, h, hk, a1, a2, Rd.bind]
  · simp only [Bool.not_eq_true] at h
    have h9 : nx d.kind 8 (I.at i) = none := by simp [nx, lists, h]
    rw [h9, h]
    simp [Rd.bind, code]
theorem s_rule (he : I.e.1 = 5) (d : Dc) (out : List Dc) (i : Nat) (hk : d.kind ≠ 12) : S I 8 d out i = (I.one 4 [58] i).bind fun _ j => S I 9 d out j := by
  rw [step he (by decide)]
  unfold Src.one
  by_cases h : is 4 [58] (I.at i) = true
  · have a1 := is_not h (k' := 1) (s' := [97, 98, 111, 118, 101]) (.inl (by decide))
    have a2 := is_not h (k' := 1) (s' := [98, 101, 108, 111, 119]) (.inl (by decide))
    simp [nx, lists, fill, h, hk, a1, a2, Rd.bind]
  · simp only [Bool.not_eq_true] at h
    have h9 : nx d.kind 8 (I.at i) = none := by simp [nx, lists, h]
    rw [h9, h]
    simp [Rd.bind, code]
theorem s_close (he : I.e.1 = 5) (d : Dc) (out : List Dc) (i : Nat) : S I 4 d out i = (I.one 4 [59] i).bind fun _ j => S I 0 zero (out ++ [d]) j := by
  rw [step he (by decide)]
  unfold Src.one
  by_cases h : is 4 [59] (I.at i) = true
  · have a1 := is_not h (k' := 1) (s' := [97, 98, 111, 118, 101]) (.inl (by decide))
    have a2 := is_not h (k' := 1) (s' := [98, 101, 108, 111, 119]) (.inl (by decide))
    simp [nx, lists, fill, h, a1, a2, Rd.bind]
  · simp only [Bool.not_eq_true] at h
    have h9 : nx d.kind 4 (I.at i) = none := by simp [nx, lists, h]
    rw [h9, h]
    simp [Rd.bind, code]
theorem s_number (he : I.e.1 = 5) (d : Dc) (out : List Dc) (i : Nat) : S I 3 d out i = (I.number i).bind fun x j => S I 4 { d with level := x } out j := by
  rw [step he (by decide)]
  unfold Src.number
  by_cases h3 : (I.at i).1 = 3
  · by_cases hn : L.isNum (I.at i).2.1 = true
    · have hf : figure (I.at i) = true := by unfold figure; rw [h3, hn]; rfl
      simp [nx, lists, fill, hf, h3, hn, Rd.bind]
    · simp only [Bool.not_eq_true] at hn
      have hf : figure (I.at i) = false := by unfold figure; rw [h3, hn]; rfl
      have h9 : nx d.kind 3 (I.at i) = none := by simp [nx, lists, hf]
      rw [h9]
      simp [Rd.bind, code, h3, hn]
  · have hf : figure (I.at i) = false := by unfold figure; rw [show ((I.at i).1 == 3) = false by simpa using h3]; rfl
    have h9 : nx d.kind 3 (I.at i) = none := by simp [nx, lists, hf]
    rw [h9]
    simp [Rd.bind, code, h3]
end M
end R
end Go.Proofs.YtppcofopnelgjaaGreatDoor
set_option linter.unusedVariables false
set_option linter.unusedSimpArgs false
namespace Go.Proofs.YtppcofopnelgjaaGreatDoor
open Go.RowKit
namespace R
namespace M
variable {I : Src}
/-- the names: the state behind them reads on -/
theorem s_more (he : I.e.1 = 5) (d : Dc) (out : List Dc) : ∀ (f : Nat) (acc : List Wd) (i : Nat), S I 2 { d with names := acc } out i = (I.more f acc i).bind fun l j => S I 2 { d with names := l } out j := by
  intro f
  induction f with
  | zero => intro acc i; rfl
  | succ f ih =>
    intro acc i
    unfold Src.more
    by_cases h : is 4 [44] (I.at i) = true
    · rw [if_pos h]
      have a1 := is_not h (k' := 1) (s' := [97, 98, 111, 118, 101]) (.inl (by decide))
      have a2 := is_not h (k' := 1) (s' := [98, 101, 108, 111, 119]) (.inl (by decide))
      have e1 : S I 2 { d with names := acc } out i = S I 1 { d with names := acc } out (i + 1) := by
        rw [step he (by decide)]
        simp [nx, lists, fill, h, a1, a2]
      rw [e1, s_name he]
      cases I.name (i + 1) with
      | bad k c => rfl
      | ok w j => exact ih _ _
    · simp only [Bool.not_eq_true] at h
      rw [h]
      rfl
/-- behind the names no comma stands -/
theorem more_end (he : I.e.1 = 5) : ∀ (f : Nat) (acc : List Wd) (i : Nat) (l : List Wd) (j : Nat), I.l.length ≤ i + f → I.more f acc i = .ok l j → is 4 [44] (I.at j) = false := by
  intro f
  induction f with
  | zero =>
    intro acc i l j hf h
    cases h
    rw [at_ge (by omega)]
    exact end_is he (.inr rfl) _
  | succ f ih =>
    intro acc i l j hf h
    unfold Src.more at h
    split at h
    · obtain ⟨w, k, h1, h⟩ := Cut.bind_inv h
      have hk : k = i + 2 := by
        unfold Src.name at h1
        split at h1
        · cases h1; rfl
        · cases h1
      exact ih _ _ _ _ (by omega) h
    · rename_i hne
      cases h
      exact Bool.eq_false_iff.2 hne
theorem names_end (he : I.e.1 = 5) {i : Nat} {l : List Wd} {j : Nat} (h : I.names i = .ok l j) : is 4 [44] (I.at j) = false := by
  unfold Src.names at h
  obtain ⟨w, k, h1, h⟩ := Cut.bind_inv h
  have := Cut.name_le h1
  exact more_end he _ _ _ _ _ (by omega) h
theorem s_names (he : I.e.1 = 5) (d : Dc) (out : List Dc) (i : Nat) (hd : d.names = []) : S I 1 d out i = (I.names i).bind fun l j => S I 2 { d with names := l } out j := by
  rw [s_name he]
  unfold Src.names
  cases I.name i with
  | bad k c => rfl
  | ok w j =>
    show S I 2 { d with names := d.names ++ [w] } out j = _
    rw [hd]
    exact s_more he d out I.l.length [w] j
/-- the end of a declaration, behind the names (no comma there) or behind the star -/
theorem s_end (he : I.e.1 = 5) (a : Nat) (ha : a = 2 ∨ a = 10) (d : Dc) (out : List Dc) (i : Nat) (hc : a = 2 → is 4 [44] (I.at i) = false) (hk : d.kind ≠ 2 ∧ d.kind ≠ 10 ∧ d.kind ≠ 11) : S I a d out i = (I.one 4 [59] i).bind fun _ j => S I 0 zero (out ++ [d]) j := by
  rw [step he (by omega)]
  unfold Src.one
  have hcn : cnd d.kind (I.at i) = false := by unfold cnd; simp [hk.1, hk.2.1, hk.2.2]
  by_cases h : is 4 [59] (I.at i) = true
  · have a1 := is_not h (k' := 1) (s' := [97, 98, 111, 118, 101]) (.inl (by decide))
    have a2 := is_not h (k' := 1) (s' := [98, 101, 108, 111, 119]) (.inl (by decide))
    rcases ha with rfl | rfl
    · simp [nx, lists, fill, h, hc rfl, a1, a2, Rd.bind]
    · simp [nx, lists, fill, h, a1, a2, Rd.bind]
  · simp only [Bool.not_eq_true] at h
    have h9 : nx d.kind a (I.at i) = none := by
      rcases ha with rfl | rfl
      · simp [nx, lists, h, hc rfl, hcn]
      · simp [nx, lists, h, hcn]
    have hcd : code a (I.at i) = 40 := by unfold code; rw [if_neg (by omega)]
    rw [h9, h, hcd]
    simp [Rd.bind]
theorem bind_assoc {α β γ : Type} (x : Rd α) (f : α → Nat → Rd β) (g : β → Nat → Rd γ) : (x.bind f).bind g = x.bind fun a i => (f a i).bind g := by cases x <;> rfl
theorem ok_bind {α β : Type} (a : α) (i : Nat) (f : α → Nat → Rd β) : (Rd.ok a i).bind f = f a i := rfl
theorem bind_congr {α β : Type} {x : Rd α} {f g : α → Nat → Rd β} (h : ∀ a i, x = .ok a i → f a i = g a i) : x.bind f = x.bind g := by
  cases x with
  | bad i c => rfl
  | ok a i => exact h a i rfl
theorem s_trust (he : I.e.1 = 5) (d : Dc) (out : List Dc) (i : Nat) (hc : is 4 [44] (I.at i) = false) (hk : d.kind = 2) (hl : d.level = 4607182418800017408) :
    S I 2 d out i = (I.trust i).bind fun x j => (I.one 4 [59] j).bind fun _ j => S I 0 zero (out ++ [{ d with level := x }]) j := by
  unfold Src.trust
  by_cases ht : is 1 [116, 114, 117, 115, 116] (I.at i) = true
  · have a1 := is_not ht (k' := 1) (s' := [97, 98, 111, 118, 101]) (.inr (by decide))
    have a2 := is_not ht (k' := 1) (s' := [98, 101, 108, 111, 119]) (.inr (by decide))
    have a3 := is_not ht (k' := 4) (s' := [59]) (.inl (by decide))
    have e1 : S I 2 d out i = S I 3 d out (i + 1) := by
      rw [step he (by decide)]
      simp [nx, lists, fill, cnd, hk, hc, ht, a1, a2, a3]
    rw [e1, s_number he, if_pos ht]
    exact bind_congr fun x j _ => s_close he _ _ _
  · simp only [Bool.not_eq_true] at ht
    rw [ht]
    have e1 : S I 2 d out i = (I.one 4 [59] i).bind fun _ j => S I 0 zero (out ++ [d]) j := by
      rw [step he (by decide)]
      unfold Src.one
      by_cases h : is 4 [59] (I.at i) = true
      · have a1 := is_not h (k' := 1) (s' := [97, 98, 111, 118, 101]) (.inl (by decide))
        have a2 := is_not h (k' := 1) (s' := [98, 101, 108, 111, 119]) (.inl (by decide))
        simp [nx, lists, fill, h, hc, a1, a2, Rd.bind]
      · simp only [Bool.not_eq_true] at h
        have h9 : nx d.kind 2 (I.at i) = none := by simp [nx, lists, h, hc, cnd, hk, ht]
        rw [h9, h]
        simp [Rd.bind, code]
    rw [e1]
    have ed : { d with level := 4607182418800017408 } = d := by rw [← hl]
    simp only [Bool.false_eq_true, if_false, ok_bind, ed]
theorem s_cond (he : I.e.1 = 5) (a : Nat) (ha : a = 2 ∨ a = 10) (d : Dc) (out : List Dc) (i : Nat) (hc : a = 2 → is 4 [44] (I.at i) = false) (hk : d.kind = 10 ∨ d.kind = 11) (hl : d.level = 0) (hcd : d.cond = 0) :
    S I a d out i = (I.cond i).bind fun x j => (I.one 4 [59] j).bind fun _ j => S I 0 zero (out ++ [{ d with cond := x.1, level := x.2 }]) j := by
  have hk2 : d.kind ≠ 2 := by omega
  unfold Src.cond
  by_cases hb : is 1 [97, 98, 111, 118, 101] (I.at i) = true
  · have a3 := is_not hb (k' := 4) (s' := [59]) (.inl (by decide))
    have e1 : S I a d out i = S I 3 { d with cond := 1 } out (i + 1) := by
      rw [step he (by omega)]
      rcases ha with rfl | rfl
      · simp [nx, lists, fill, cnd, hk, hk2, hc rfl, hb, a3]
      · simp [nx, lists, fill, cnd, hk, hk2, hb, a3]
    rw [e1, s_number he, if_pos hb, bind_assoc]
    exact bind_congr fun x j _ => s_close he _ _ _
  · simp only [Bool.not_eq_true] at hb
    rw [hb]
    by_cases hw : is 1 [98, 101, 108, 111, 119] (I.at i) = true
    · have a3 := is_not hw (k' := 4) (s' := [59]) (.inl (by decide))
      have e1 : S I a d out i = S I 3 { d with cond := 2 } out (i + 1) := by
        rw [step he (by omega)]
        rcases ha with rfl | rfl
        · simp [nx, lists, fill, cnd, hk, hk2, hc rfl, hb, hw, a3]
        · simp [nx, lists, fill, cnd, hk, hk2, hb, hw, a3]
      rw [e1, s_number he]
      simp only [Bool.false_eq_true, if_false, hw, if_true]
      rw [bind_assoc]
      exact bind_congr fun x j _ => s_close he _ _ _
    · simp only [Bool.not_eq_true] at hw
      rw [hw]
      have e1 : S I a d out i = (I.one 4 [59] i).bind fun _ j => S I 0 zero (out ++ [d]) j := by
        rw [step he (by omega)]
        unfold Src.one
        by_cases h : is 4 [59] (I.at i) = true
        · rcases ha with rfl | rfl
          · simp [nx, lists, fill, h, hc rfl, hb, hw, Rd.bind]
          · simp [nx, lists, fill, h, hb, hw, Rd.bind]
        · simp only [Bool.not_eq_true] at h
          have h9 : nx d.kind a (I.at i) = none := by
            rcases ha with rfl | rfl
            · simp [nx, lists, h, hc rfl, cnd, hk2, hb, hw]
            · simp [nx, lists, h, cnd, hk2, hb, hw]
          have hcx : code a (I.at i) = 40 := by unfold code; rw [if_neg (by omega)]
          rw [h9, h, hcx]
          simp [Rd.bind]
      rw [e1]
      have ed : { d with cond := 0, level := 0 } = d := by
        obtain ⟨k0, l0, c0, h0, o0, n0, al, cd, lv⟩ := d
        simp only at hl hcd
        subst hl hcd
        rfl
      simp only [Bool.false_eq_true, if_false, ok_bind, ed]
theorem s_actions (he : I.e.1 = 5) (d : Dc) (out : List Dc) (i : Nat) (hd : d.names = []) (ha : d.all = false) (hk : d.kind = 10 ∨ d.kind = 11) (hl : d.level = 0) (hcd : d.cond = 0) :
    S I 9 d out i = (I.actions i).bind fun l j => (I.cond j).bind fun x j => (I.one 4 [59] j).bind fun _ j => S I 0 zero (out ++ [{ d with names := l.1, all := l.2, cond := x.1, level := x.2 }]) j := by
  unfold Src.actions
  by_cases h : is 4 [42] (I.at i) = true
  · have hn : isNm (I.at i) = false := by
      unfold is at h
      rw [Bool.and_eq_true, beq_iff_eq, beq_iff_eq] at h
      unfold isNm
      rw [h.1]; rfl
    have e1 : S I 9 d out i = S I 10 { d with all := true } out (i + 1) := by
      rw [step he (by decide)]
      simp [nx, lists, fill, h, hn]
    rw [e1, s_cond he 10 (.inr rfl) { d with all := true } out (i + 1) (fun q => by omega) hk hl hcd, if_pos h, ok_bind]
    simp only [hd]
  · simp only [Bool.not_eq_true] at h
    rw [h]
    simp only [Bool.false_eq_true, if_false]
    have e1 : S I 9 d out i = (I.names i).bind fun l j => S I 2 { d with names := l } out j := by
      have e2 : S I 9 d out i = S I 1 d out i := by
        rw [step (a := 9) he (by decide), step (a := 1) he (by decide)]
        by_cases hn : isNm (I.at i) = true
        · simp [nx, lists, fill, hn]
        · simp only [Bool.not_eq_true] at hn
          simp [nx, lists, hn, h, code]
      rw [e2, s_names he d out i hd]
    rw [e1, bind_assoc]
    refine bind_congr fun l j hj => ?_
    rw [ok_bind]
    rw [s_cond he 2 (.inl rfl) { d with names := l } out j (fun _ => names_end he hj) hk hl hcd]
    simp only [ha]
theorem ite_range {c : Bool} {a b : Int} (ha : a = 0 ∨ (1 ≤ a ∧ a ≤ 12)) (hb : b = 0 ∨ (1 ≤ b ∧ b ≤ 12)) : (if c = true then a else b) = 0 ∨ (1 ≤ (if c = true then a else b) ∧ (if c = true then a else b) ≤ 12) := by
  split
  · exact ha
  · exact hb
theorem kindOf_range (l : List UInt8) : kindOf l = 0 ∨ (1 ≤ kindOf l ∧ kindOf l ≤ 12) := by
  unfold kindOf
  repeat refine ite_range (.inr ⟨by decide, by decide⟩) ?_
  exact .inl rfl
/-- a whole declaration -/
theorem s_decl (he : I.e.1 = 5) (out : List Dc) (i : Nat) (hi : i < I.l.length) : S I 0 zero out i = (I.decl i).bind fun d j => S I 0 zero (out ++ [d]) j := by
  rw [step0 hi]
  unfold Src.decl Src.begin
  by_cases hk : kind (I.at i) = 0
  · have h9 : nx zero.kind 0 (I.at i) = none := by simp [nx, hk]
    rw [h9]
    have : ((I.at i).1 == 1 && kindOf (I.at i).2.1.toList != 0) = false := by
      unfold kind at hk
      by_cases h1 : (I.at i).1 = 1
      · rw [if_pos h1] at hk; rw [hk]; simp
      · rw [show ((I.at i).1 == 1) = false by simpa using h1]; rfl
    rw [this]
    rfl
  · have h1 : (I.at i).1 = 1 := by
      unfold kind at hk
      by_cases h1 : (I.at i).1 = 1
      · exact h1
      · rw [if_neg h1] at hk; exact absurd rfl hk
    have hke : kind (I.at i) = kindOf (I.at i).2.1.toList := by unfold kind; rw [if_pos h1]
    have hb : ((I.at i).1 == 1 && kindOf (I.at i).2.1.toList != 0) = true := by
      rw [h1, ← hke]; simpa using hk
    rw [hb]
    simp only [if_true, ok_bind]
    have hf : fill zero 0 (I.at i) = { zero with kind := kind (I.at i), line := (I.at i).2.2.1, col := (I.at i).2.2.2, level := if kind (I.at i) = 2 then 4607182418800017408 else 0 } := by simp [fill]
    have hn : nx zero.kind 0 (I.at i) = if kind (I.at i) ≤ 5 then some 1 else some 5 := by simp [nx, hk]
    have hkr : 1 ≤ kind (I.at i) ∧ kind (I.at i) ≤ 12 := by
      rcases kindOf_range (I.at i).2.1.toList with h | h
      · rw [← hke] at h; exact absurd h hk
      · rw [← hke] at h; exact h
    rw [hf, hn, ← hke]
    clear hf hn hb hke h1 hk
    generalize kind (I.at i) = K at *
    generalize (I.at i).2.2.1 = ln
    generalize (I.at i).2.2.2 = co
    unfold Src.rest
    by_cases h5 : K ≤ 5
    · rw [if_pos h5]
      simp only [Nat.one_ne_zero, if_false]
      by_cases h2 : K = 2
      · subst h2
        simp only [if_true]
        rw [s_names he _ out (i + 1) rfl]
        try simp only [bind_assoc, ok_bind]
        refine bind_congr fun l j hj => ?_
        rw [s_trust he _ out j (names_end he hj) rfl rfl]
        try simp only [bind_assoc, ok_bind]
        refine bind_congr fun x j' _ => ?_
        try simp only [bind_assoc, ok_bind]
        try simp only [bind_assoc, ok_bind]
        rfl
      · simp only [if_neg h2, zero]
        rw [if_neg (by omega), if_neg (by omega), if_neg (by omega), s_names he _ out (i + 1) rfl]
        try simp only [bind_assoc, ok_bind]
        refine bind_congr fun l j hj => ?_
        rw [s_end he 2 (.inl rfl) _ out j (fun _ => names_end he hj) ⟨h2, by show K ≠ 10; omega, by show K ≠ 11; omega⟩]
        try simp only [bind_assoc, ok_bind]
        rfl
    · rw [if_neg h5]
      have h2 : K ≠ 2 := by omega
      simp only [if_neg h2, zero]
      have h50 : ((5 : Nat) = 0) = False := by simp
      simp only [h50, if_false]
      rw [s_head he]
      by_cases h9 : K ≤ 9
      · rw [if_pos (by omega)]
        try simp only [bind_assoc, ok_bind]
        refine bind_congr fun w j _ => ?_
        rw [s_colon he _ out j h9]
        try simp only [bind_assoc, ok_bind]
        refine bind_congr fun _ j' _ => ?_
        rw [s_names he _ out j' rfl]
        try simp only [bind_assoc, ok_bind]
        refine bind_congr fun l k hk => ?_
        rw [s_end he 2 (.inl rfl) _ out k (fun _ => names_end he hk) ⟨h2, by show K ≠ 10; omega, by show K ≠ 11; omega⟩]
        try simp only [bind_assoc, ok_bind]
        rfl
      · rw [if_neg (by omega)]
        unfold Src.who
        by_cases h12 : K = 12
        · rw [if_neg (by omega), if_pos h12]
          try simp only [bind_assoc, ok_bind]
          refine bind_congr fun w j _ => ?_
          rw [s_onw he _ out j (by show 10 ≤ K; omega)]
          try simp only [bind_assoc, ok_bind]
          refine bind_congr fun _ j1 _ => ?_
          rw [s_on he]
          try simp only [bind_assoc, ok_bind]
          refine bind_congr fun w2 j2 _ => ?_
          rw [s_rule12 he _ out j2 h12]
          try simp only [bind_assoc, ok_bind]
          refine bind_congr fun _ j3 _ => ?_
          rw [s_names he _ out j3 rfl]
          try simp only [bind_assoc, ok_bind]
          refine bind_congr fun l k hk => ?_
          rw [s_end he 2 (.inl rfl) _ out k (fun _ => names_end he hk) ⟨h2, by show K ≠ 10; omega, by show K ≠ 11; omega⟩]
          try simp only [bind_assoc, ok_bind]
          rfl
        · rw [if_pos (by omega)]
          try simp only [bind_assoc, ok_bind]
          refine bind_congr fun w j _ => ?_
          rw [s_onw he _ out j (by show 10 ≤ K; omega)]
          try simp only [bind_assoc, ok_bind]
          refine bind_congr fun _ j1 _ => ?_
          rw [s_on he]
          try simp only [bind_assoc, ok_bind]
          refine bind_congr fun w2 j2 _ => ?_
          rw [s_rule he _ out j2 h12]
          try simp only [bind_assoc, ok_bind]
          refine bind_congr fun _ j3 _ => ?_
          rw [s_actions he _ out j3 rfl rfl (by show K = 10 ∨ K = 11; omega) rfl rfl]
          try simp only [bind_assoc, ok_bind]
          refine bind_congr fun l k hk => ?_
          try simp only [bind_assoc, ok_bind]
          try simp only [bind_assoc, ok_bind]
          refine bind_congr fun x k2 _ => ?_
          try simp only [bind_assoc, ok_bind]
          try simp only [bind_assoc, ok_bind]
          rfl
theorem s_text (he : I.e.1 = 5) : ∀ (f : Nat) (acc : List Dc) (i : Nat), I.l.length ≤ i + f → I.text f acc i = S I 0 zero acc i := by
  intro f
  induction f with
  | zero => intro acc i h; rw [stop0 (by omega)]; rfl
  | succ f ih =>
    intro acc i h
    unfold Src.text
    by_cases hi : i < I.l.length
    · rw [if_pos hi, s_decl he acc i hi]
      refine bind_congr fun d j hd => ?_
      have hij : i + 1 ≤ j := by
        unfold Src.decl at hd
        obtain ⟨d1, i1, h1, hd⟩ := Cut.bind_inv hd
        obtain ⟨d2, i2, h2, hd⟩ := Cut.bind_inv hd
        obtain ⟨_, i3, h3, hd⟩ := Cut.bind_inv hd
        have e1 : i1 = i + 1 := by
          unfold Src.begin at h1
          split at h1
          · cases h1; rfl
          · cases h1
        have e2 := Cut.rest_le h2
        have e3 := Cut.one_le h3
        cases hd
        omega
      exact ih _ _ (by omega)
    · rw [if_neg hi, stop0 (by omega)]
theorem src_end (l : List Tok) : (src l).e.1 = 5 ∧ (src l).l.length ≤ l.length := by
  induction l with
  | nil => exact ⟨rfl, Nat.le_refl _⟩
  | cons t l ih =>
    unfold src
    split
    · exact ⟨rfl, Nat.zero_le _⟩
    · exact ⟨ih.1, by simpa using ih.2⟩
/-- what Decls tells is what the machine comes to -/
theorem decls_run (l : List Tok) : decls l = run (src l).l 0 zero [] 0 := by
  unfold decls
  rw [s_text (src_end l).1 _ _ _ (by have := (src_end l).2; omega)]
  rfl
end M
end R
end Go.Proofs.YtppcofopnelgjaaGreatDoor
set_option linter.unusedVariables false
set_option linter.unusedSimpArgs false
namespace Go.Proofs.YtppcofopnelgjaaGreatDoor
open Go.RowKit
namespace R
namespace M
/-- where the machine stands behind some tokens; none: it has stopped -/
def goto_ : List Tok → Nat → Dc → List Dc → Option (Nat × Dc × List Dc)
  | [], a, d, out => some (a, d, out)
  | t :: ts, a, d, out =>
    match nx d.kind a t with
    | none => none
    | some n => if n = 0 then goto_ ts 0 zero (out ++ [fill d a t]) else goto_ ts n (fill d a t) out
theorem run_go : ∀ (l1 l2 : List Tok) (a : Nat) (d : Dc) (out : List Dc) (i : Nat), run (l1 ++ l2) a d out i = match goto_ l1 a d out with | none => run l1 a d out i | some s => run l2 s.1 s.2.1 s.2.2 (i + l1.length) := by
  intro l1
  induction l1 with
  | nil => intro l2 a d out i; rfl
  | cons t ts ih =>
    intro l2 a d out i
    rw [List.cons_append, run, goto_]
    cases hn : nx d.kind a t with
    | none => simp only [run, hn]
    | some n =>
      simp only [run, hn]
      by_cases h0 : n = 0
      · simp only [h0, if_true]
        rw [ih]
        simp only [List.length_cons, show i + 1 + ts.length = i + (ts.length + 1) by omega]
      · simp only [if_neg h0]
        rw [ih]
        simp only [List.length_cons, show i + 1 + ts.length = i + (ts.length + 1) by omega]
theorem go_app : ∀ (l1 l2 : List Tok) (a : Nat) (d : Dc) (out : List Dc), goto_ (l1 ++ l2) a d out = (goto_ l1 a d out).bind fun s => goto_ l2 s.1 s.2.1 s.2.2 := by
  intro l1
  induction l1 with
  | nil => intro l2 a d out; rfl
  | cons t ts ih =>
    intro l2 a d out
    rw [List.cons_append, goto_, goto_]
    cases hn : nx d.kind a t with
    | none => rfl
    | some n =>
      simp only
      by_cases h0 : n = 0
      · simp only [h0, if_true]; exact ih ..
      · simp only [if_neg h0]; exact ih ..
/-- a stop is a fault, at the first token with which it stops -/
theorem run_stop : ∀ (l : List Tok) (a : Nat) (d : Dc) (out : List Dc) (i : Nat), goto_ l a d out = none → ∃ l1 t l2 s, l = l1 ++ t :: l2 ∧ goto_ l1 a d out = some s ∧ nx s.2.1.kind s.1 t = none ∧ run l a d out i = .bad (i + l1.length) (code s.1 t) := by
  intro l
  induction l with
  | nil => intro a d out i h; cases h
  | cons t ts ih =>
    intro a d out i h
    rw [goto_] at h
    cases hn : nx d.kind a t with
    | none =>
      refine ⟨[], t, ts, (a, d, out), rfl, rfl, hn, ?_⟩
      simp only [run, hn]
      rfl
    | some n =>
      simp only [hn] at h
      by_cases h0 : n = 0
      · simp only [h0, if_true] at h
        obtain ⟨l1, u, l2, s, e1, e2, e3, e4⟩ := ih 0 zero _ (i + 1) h
        refine ⟨t :: l1, u, l2, s, by rw [e1]; rfl, ?_, e3, ?_⟩
        · rw [goto_]; simp only [hn, h0, if_true]; exact e2
        · simp only [run, hn, h0, if_true]
          rw [e4, List.length_cons, show i + 1 + l1.length = i + (l1.length + 1) by omega]
      · simp only [if_neg h0] at h
        obtain ⟨l1, u, l2, s, e1, e2, e3, e4⟩ := ih n _ _ (i + 1) h
        refine ⟨t :: l1, u, l2, s, by rw [e1]; rfl, ?_, e3, ?_⟩
        · rw [goto_]; simp only [hn, if_neg h0]; exact e2
        · simp only [run, hn, if_neg h0]
          rw [e4, List.length_cons, show i + 1 + l1.length = i + (l1.length + 1) by omega]
theorem run_end : ∀ (l : List Tok) (a : Nat) (d : Dc) (out : List Dc) (i : Nat) (s : Nat × Dc × List Dc), goto_ l a d out = some s → run l a d out i = if s.1 = 0 then .ok s.2.2 (i + l.length) else .bad (i + l.length) 40 := by
  intro l a d out i s h
  have := run_go l [] a d out i
  rw [List.append_nil, h] at this
  rw [this]
  rfl
/-! what may close a text that goes on -/
def bn (s : List UInt8) : ByteArray := ⟨s.toArray⟩
def tN : Tok := (2, bn [110], 0, 0)
def tSemi : Tok := (4, bn [59], 0, 0)
def tColon : Tok := (4, bn [58], 0, 0)
def tOn : Tok := (1, bn [111, 110], 0, 0)
def tOne : Tok := (3, bn [49], 0, 0)
def closings : List (List Tok) := [[], [tSemi], [tN, tSemi], [tColon, tN, tSemi], [tN, tColon, tN, tSemi], [tOn, tN, tColon, tN, tSemi], [tN, tOn, tN, tColon, tN, tSemi], [tOne, tSemi]]
theorem nx_le (k : Int) (a : Nat) (t : Tok) : ∀ (n : Nat), nx k a t = some n → n ≤ 10 := by
  have ite : ∀ {c : Prop} [Decidable c] {x y : Option Nat}, (∀ n, x = some n → n ≤ 10) → (∀ n, y = some n → n ≤ 10) → ∀ n, (if c then x else y) = some n → n ≤ 10 := by
    intro c _ x y hx hy n h
    split at h
    · exact hx n h
    · exact hy n h
  have num : ∀ {m : Nat}, m ≤ 10 → ∀ n, some m = some n → n ≤ 10 := fun hm n h => by cases h; exact hm
  have non : ∀ n, (none : Option Nat) = some n → n ≤ 10 := fun n h => by cases h
  have hl : ∀ n, lists k a t = some n → n ≤ 10 := by
    unfold lists
    repeat refine ite (num (by decide)) ?_
    exact non
  unfold nx
  refine ite (ite non (ite (num (by decide)) (num (by decide)))) ?_
  repeat refine ite (num (by decide)) ?_
  first | exact hl | exact non
theorem go_le : ∀ (l : List Tok) (a : Nat) (d : Dc) (out : List Dc) (s : Nat × Dc × List Dc), a ≤ 10 → goto_ l a d out = some s → s.1 ≤ 10 := by
  intro l
  induction l with
  | nil => intro a d out s ha h; cases h; exact ha
  | cons t ts ih =>
    intro a d out s ha h
    rw [goto_] at h
    cases hn : nx d.kind a t with
    | none => simp [hn] at h
    | some n =>
      simp only [hn] at h
      have := nx_le _ _ _ _ hn
      by_cases h0 : n = 0
      · simp only [h0, if_true] at h; exact ih _ _ _ _ (by omega) h
      · simp only [if_neg h0] at h; exact ih _ _ _ _ this h
theorem n_nm : isNm tN = true := by kernel_rfl
theorem n_is (s : List UInt8) : is 4 s tN = false ∧ is 1 s tN = false := ⟨rfl, rfl⟩
/-- the steps of the closing tokens -/
theorem go_semi (a : Nat) (ha : a = 2 ∨ a = 10 ∨ a = 4) (d : Dc) (out : List Dc) : ∃ o, goto_ [tSemi] a d out = some (0, zero, o) := by
  have h1 : isNm tSemi = false := by kernel_rfl
  have h2 : is 4 [59] tSemi = true := by kernel_rfl
  have h3 : is 4 [44] tSemi = false := by kernel_rfl
  have h4 : is 4 [42] tSemi = false := by kernel_rfl
  have hn : nx d.kind a tSemi = some 0 := by
    rcases ha with rfl | rfl | rfl
    · simp [nx, lists, h2, h3]
    · simp [nx, lists, h2]
    · simp [nx, lists, h2]
  exact ⟨_, by rw [goto_]; simp only [hn, if_true]; rfl⟩
theorem go_n (a n : Nat) (h : a = 1 ∧ n = 2 ∨ a = 9 ∧ n = 2 ∨ a = 5 ∧ n = 6 ∨ a = 7 ∧ n = 8) (d : Dc) (out : List Dc) (ts : List Tok) : ∃ d', d'.kind = d.kind ∧ goto_ (tN :: ts) a d out = goto_ ts n d' out := by
  have hn : nx d.kind a tN = some n := by
    rcases h with ⟨rfl, rfl⟩ | ⟨rfl, rfl⟩ | ⟨rfl, rfl⟩ | ⟨rfl, rfl⟩ <;> simp [nx, lists, n_nm]
  refine ⟨fill d a tN, ?_, ?_⟩
  · rcases h with ⟨rfl, rfl⟩ | ⟨rfl, rfl⟩ | ⟨rfl, rfl⟩ | ⟨rfl, rfl⟩ <;> simp [fill, n_nm]
  · rw [goto_]; simp only [hn]; rw [if_neg (by omega)]
theorem colon_is : is 4 [58] tColon = true ∧ is 1 [97, 98, 111, 118, 101] tColon = false ∧ is 1 [98, 101, 108, 111, 119] tColon = false ∧ isNm tColon = false := ⟨by kernel_rfl, by kernel_rfl, by kernel_rfl, by kernel_rfl⟩
theorem go_colon (a n : Nat) (d : Dc) (h : a = 6 ∧ d.kind ≤ 9 ∧ n = 1 ∨ a = 8 ∧ d.kind = 12 ∧ n = 1 ∨ a = 8 ∧ d.kind ≠ 12 ∧ n = 9) (out : List Dc) (ts : List Tok) : goto_ (tColon :: ts) a d out = goto_ ts n d out := by
  obtain ⟨c1, c2, c3, c4⟩ := colon_is
  have hn : nx d.kind a tColon = some n := by
    rcases h with ⟨rfl, h, rfl⟩ | ⟨rfl, h, rfl⟩ | ⟨rfl, h, rfl⟩ <;> simp [nx, lists, c1, h]
  have hf : fill d a tColon = d := by
    rcases h with ⟨rfl, h, rfl⟩ | ⟨rfl, h, rfl⟩ | ⟨rfl, h, rfl⟩ <;> simp [fill, c2, c3]
  rw [goto_]; simp only [hn, hf]; rw [if_neg (by omega)]
theorem on_is : is 1 [111, 110] tOn = true ∧ is 4 [58] tOn = false ∧ is 1 [97, 98, 111, 118, 101] tOn = false ∧ is 1 [98, 101, 108, 111, 119] tOn = false := ⟨by kernel_rfl, by kernel_rfl, by kernel_rfl, by kernel_rfl⟩
theorem go_on (d : Dc) (h : 10 ≤ d.kind) (out : List Dc) (ts : List Tok) : goto_ (tOn :: ts) 6 d out = goto_ ts 7 d out := by
  obtain ⟨c1, c2, c3, c4⟩ := on_is
  have hn : nx d.kind 6 tOn = some 7 := by simp [nx, c1, c2, h]
  have hf : fill d 6 tOn = d := by simp [fill, c3, c4]
  rw [goto_]; simp only [hn, hf]; rw [if_neg (by omega)]
theorem one_fig : figure tOne = true := by kernel_rfl
theorem go_one (d : Dc) (out : List Dc) (ts : List Tok) : ∃ d', goto_ (tOne :: ts) 3 d out = goto_ ts 4 d' out := by
  have hn : nx d.kind 3 tOne = some 4 := by simp [nx, one_fig]
  exact ⟨fill d 3 tOne, by rw [goto_]; simp only [hn]; rw [if_neg (by omega)]⟩
/-- of every state one of the closings closes the text -/
theorem closes (a : Nat) (ha : a ≤ 10) (d : Dc) (out : List Dc) : ∃ c ∈ closings, ∃ o, goto_ c a d out = some (0, zero, o) ∨ (a = 0 ∧ c = [] ∧ goto_ c a d out = some (0, d, o)) := by
  have names : ∀ (n : Nat) (d : Dc), n = 1 ∨ n = 9 → ∃ o, goto_ [tN, tSemi] n d out = some (0, zero, o) := fun n d hn => by
    obtain ⟨d', _, e⟩ := go_n n 2 (by omega) d out [tSemi]
    rw [e]; exact go_semi 2 (.inl rfl) d' out
  have at8 : ∀ d : Dc, ∃ o, goto_ [tColon, tN, tSemi] 8 d out = some (0, zero, o) := fun d => by
    by_cases h : d.kind = 12
    · rw [go_colon 8 1 d (.inr (.inl ⟨rfl, h, rfl⟩))]; exact names 1 d (.inl rfl)
    · rw [go_colon 8 9 d (.inr (.inr ⟨rfl, h, rfl⟩))]; exact names 9 d (.inr rfl)
  have at7 : ∀ d : Dc, ∃ o, goto_ [tN, tColon, tN, tSemi] 7 d out = some (0, zero, o) := fun d => by
    obtain ⟨d', _, e⟩ := go_n 7 8 (by omega) d out [tColon, tN, tSemi]
    rw [e]; exact at8 d'
  have low6 : ∀ d : Dc, d.kind ≤ 9 → ∃ o, goto_ [tColon, tN, tSemi] 6 d out = some (0, zero, o) := fun d h => by
    rw [go_colon 6 1 d (.inl ⟨rfl, h, rfl⟩)]; exact names 1 d (.inl rfl)
  have high6 : ∀ d : Dc, 10 ≤ d.kind → ∃ o, goto_ [tOn, tN, tColon, tN, tSemi] 6 d out = some (0, zero, o) := fun d h => by
    rw [go_on d h]; exact at7 d
  have hcases : a = 0 ∨ a = 1 ∨ a = 2 ∨ a = 3 ∨ a = 4 ∨ a = 5 ∨ a = 6 ∨ a = 7 ∨ a = 8 ∨ a = 9 ∨ a = 10 := by omega
  rcases hcases with rfl | rfl | rfl | rfl | rfl | rfl | rfl | rfl | rfl | rfl | rfl
  · exact ⟨[], by simp [closings], out, .inr ⟨rfl, rfl, rfl⟩⟩
  · obtain ⟨o, h⟩ := names 1 d (.inl rfl); exact ⟨_, by simp [closings], o, .inl h⟩
  · obtain ⟨o, h⟩ := go_semi 2 (.inl rfl) d out; exact ⟨_, by simp [closings], o, .inl h⟩
  · obtain ⟨d', e⟩ := go_one d out [tSemi]
    obtain ⟨o, h⟩ := go_semi 4 (.inr (.inr rfl)) d' out
    exact ⟨[tOne, tSemi], by simp [closings], o, .inl (e.trans h)⟩
  · obtain ⟨o, h⟩ := go_semi 4 (.inr (.inr rfl)) d out; exact ⟨_, by simp [closings], o, .inl h⟩
  · by_cases h9 : d.kind ≤ 9
    · obtain ⟨d', hk, e⟩ := go_n 5 6 (by omega) d out [tColon, tN, tSemi]
      obtain ⟨o, h⟩ := low6 d' (by omega)
      exact ⟨[tN, tColon, tN, tSemi], by simp [closings], o, .inl (e.trans h)⟩
    · obtain ⟨d', hk, e⟩ := go_n 5 6 (by omega) d out [tOn, tN, tColon, tN, tSemi]
      obtain ⟨o, h⟩ := high6 d' (by omega)
      exact ⟨[tN, tOn, tN, tColon, tN, tSemi], by simp [closings], o, .inl (e.trans h)⟩
  · by_cases h9 : d.kind ≤ 9
    · obtain ⟨o, h⟩ := low6 d h9; exact ⟨_, by simp [closings], o, .inl h⟩
    · obtain ⟨o, h⟩ := high6 d (by omega); exact ⟨_, by simp [closings], o, .inl h⟩
  · obtain ⟨o, h⟩ := at7 d; exact ⟨_, by simp [closings], o, .inl h⟩
  · obtain ⟨o, h⟩ := at8 d; exact ⟨_, by simp [closings], o, .inl h⟩
  · obtain ⟨o, h⟩ := names 9 d (.inr rfl); exact ⟨_, by simp [closings], o, .inl h⟩
  · obtain ⟨o, h⟩ := go_semi 10 (.inr (.inl rfl)) d out; exact ⟨_, by simp [closings], o, .inl h⟩
theorem bad_code (l : List Tok) (j : Nat) (c : Int) (h : decls l = .bad j c) : c = 40 ∨ c = 23 := by
  rw [decls_run] at h
  cases hg : goto_ (src l).l 0 zero [] with
  | none =>
    obtain ⟨l1, t, l2, s, e1, e2, e3, e4⟩ := run_stop _ 0 zero [] 0 hg
    rw [e4] at h
    unfold code at h
    split at h <;> cases h
    · exact .inr rfl
    · exact .inl rfl
  | some s =>
    rw [run_end _ _ _ _ _ _ hg] at h
    split at h
    · cases h
    · cases h; exact .inl rfl
def isOk (l : List Tok) : Bool := match decls l with | .ok _ _ => true | .bad _ _ => false
/-- does a list of tokens go on? -/
def alive (l : List Tok) : Bool := (goto_ l 0 zero []).isSome
theorem src_plain (l : List Tok) (h : ∀ t ∈ l, t.1 ≠ 5) : src l = ⟨l, (5, ByteArray.empty, 0, 0)⟩ := by
  induction l with
  | nil => rfl
  | cons t l ih =>
    have h1 : (t.1 == 5) = false := by simpa using h t (List.mem_cons_self ..)
    rw [src, h1, ih (fun x hx => h x (List.mem_cons_of_mem _ hx))]
    rfl
theorem closings_plain : ∀ c ∈ closings, ∀ t ∈ c, t.1 ≠ 5 := by decide
/-- it goes on just where one of the closings makes it a text -/
theorem alive_closes (l : List Tok) (hl : ∀ t ∈ l, t.1 ≠ 5) : alive l = closings.any (fun c => isOk (l ++ c)) := by
  have dr : ∀ c ∈ closings, decls (l ++ c) = run (l ++ c) 0 zero [] 0 := fun c hc => by
    rw [decls_run, src_plain _ (fun t ht => (List.mem_append.1 ht).elim (hl t) (closings_plain c hc t))]
  unfold alive
  cases hg : goto_ l 0 zero [] with
  | none =>
    obtain ⟨l1, t, l2, s, e1, e2, e3, e4⟩ := run_stop l 0 zero [] 0 hg
    symm
    rw [Option.isSome_none, List.any_eq_false]
    intro c hc
    unfold isOk
    rw [dr c hc, run_go, hg]
    simp only [e4]
    decide
  | some s =>
    have hs := go_le l 0 zero [] s (by omega) hg
    obtain ⟨c, hc, o, ho⟩ := closes s.1 hs s.2.1 s.2.2
    symm
    rw [Option.isSome_some, List.any_eq_true]
    refine ⟨c, hc, ?_⟩
    unfold isOk
    rw [dr c hc, run_go, hg]
    simp only
    rcases ho with ho | ⟨_, _, ho⟩
    · rw [run_end _ _ _ _ _ _ ho]; rfl
    · rw [run_end _ _ _ _ _ _ ho]; rfl
theorem half_num : L.isNum (bn [48, 46, 53]) = true := by kernel_rfl
theorem half_fig (l c : Int) : figure (3, bn [48, 46, 53], l, c) = true := by unfold figure; rw [half_num]; rfl
/-- what Decls tells of tokens without an end: the fault is at the first one with which none goes on -/
theorem first_fault (l : List Tok) (hl : ∀ t ∈ l, t.1 ≠ 5) :
    ((∀ k, k ≤ l.length → alive (l.take k) = true) ∧ ((∃ ds j, decls l = .ok ds j) ∨ decls l = .bad l.length 40)) ∨
    ∃ k t, l[k]? = some t ∧ (∀ j, j ≤ k → alive (l.take j) = true) ∧ alive (l.take (k + 1)) = false ∧ decls l = .bad k (if t.1 = 3 ∧ alive (l.take k ++ [(3, bn [48, 46, 53], t.2.2.1, t.2.2.2)]) = true then 23 else 40) := by
  have dr : decls l = run l 0 zero [] 0 := by rw [decls_run, src_plain _ hl]
  have pre : ∀ l1 l2 : List Tok, l = l1 ++ l2 → ∀ s, goto_ l1 0 zero [] = some s → ∀ j, j ≤ l1.length → alive (l.take j) = true := by
    intro l1 l2 e s hs j hj
    have e1 : l.take j = l1.take j := by rw [e, List.take_append_of_le_length hj]
    rw [e1]
    have := go_app (l1.take j) (l1.drop j) 0 zero []
    rw [List.take_append_drop, hs] at this
    unfold alive
    cases hq : goto_ (l1.take j) 0 zero [] with
    | none => rw [hq] at this; cases this
    | some _ => rfl
  cases hg : goto_ l 0 zero [] with
  | some s =>
    refine .inl ⟨fun k hk => pre l [] (by simp) s hg k hk, ?_⟩
    rw [dr, run_end _ _ _ _ _ _ hg]
    split
    · exact .inl ⟨_, _, rfl⟩
    · exact .inr (by rw [Nat.zero_add])
  | none =>
    obtain ⟨l1, t, l2, s, e1, e2, e3, e4⟩ := run_stop l 0 zero [] 0 hg
    have hk : l[l1.length]? = some t := by rw [e1]; simp
    have tk : l.take l1.length = l1 := by rw [e1]; simp
    have tk1 : l.take (l1.length + 1) = l1 ++ [t] := by rw [List.take_add_one, hk, tk]; rfl
    refine .inr ⟨l1.length, t, hk, fun j hj => pre l1 _ e1 s e2 j hj, ?_, ?_⟩
    · rw [tk1]
      unfold alive
      rw [go_app, e2]
      simp [goto_, e3]
    · rw [dr, e4, Nat.zero_add, tk]
      congr 1
      unfold code alive
      rw [go_app, e2]
      have hs := go_le l1 0 zero [] s (by omega) e2
      by_cases h3 : t.1 = 3
      · have hfig : figure (3, bn [48, 46, 53], t.2.2.1, t.2.2.2) = true := half_fig _ _
        by_cases ha : s.1 = 3
        · have hn : nx s.2.1.kind 3 (3, bn [48, 46, 53], t.2.2.1, t.2.2.2) = some 4 := by simp [nx, hfig]
          simp [goto_, hn, ha, h3]
        · have q1 : kind (3, bn [48, 46, 53], t.2.2.1, t.2.2.2) = 0 := rfl
          have q2 : isNm (3, bn [48, 46, 53], t.2.2.1, t.2.2.2) = false := rfl
          have q3 : ∀ x, is 4 x (3, bn [48, 46, 53], t.2.2.1, t.2.2.2) = false := fun x => rfl
          have q4 : ∀ x, is 1 x (3, bn [48, 46, 53], t.2.2.1, t.2.2.2) = false := fun x => rfl
          have q5 : cnd s.2.1.kind (3, bn [48, 46, 53], t.2.2.1, t.2.2.2) = false := by unfold cnd; simp [q4]
          have hn : nx s.2.1.kind s.1 (3, bn [48, 46, 53], t.2.2.1, t.2.2.2) = none := by simp [nx, lists, q1, q2, q3, q4, q5, ha]
          simp [goto_, hn, ha, h3]
      · simp [h3]
end M
end R
end Go.Proofs.YtppcofopnelgjaaGreatDoor
set_option linter.unusedVariables false
set_option linter.unusedSimpArgs false
namespace Go.Proofs.YtppcofopnelgjaaGreatDoor
open Go.RowKit
namespace Fs
/-- several new things, one behind the other -/
theorem news_at : ∀ (os : List Obj) (w : World), (∀ i o, os[i]? = some o → (os.foldl World.alloc w).heap[w.heap.size + i]? = some o) ∧ (os.foldl World.alloc w).heap.size = w.heap.size + os.length ∧ Below w.heap.size w (os.foldl World.alloc w) := by
  intro os
  induction os with
  | nil => intro w; exact ⟨fun i o h => by simp at h, rfl, Below.refl _ _⟩
  | cons x os ih =>
    intro w
    obtain ⟨h1, h2, h3⟩ := ih (w.alloc x)
    have hs : (w.alloc x).heap.size = w.heap.size + 1 := by simp
    rw [List.foldl_cons]
    refine ⟨fun i o h => ?_, by rw [h2, hs, List.length_cons]; omega, ((Below.refl _ _).alloc (Nat.le_refl _) _).trans (h3.mono (by omega))⟩
    cases i with
    | zero =>
      have e : x = o := by simpa using h
      subst e
      have h4 : (w.alloc x).heap[w.heap.size]? = some x := heap_alloc_new w x
      exact (h3.block _ (by omega)).trans h4
    | succ i =>
      have := h1 i o (by simpa using h)
      rw [hs] at this
      rw [show w.heap.size + (i + 1) = w.heap.size + 1 + i by omega]
      exact this
end Fs
end Go.Proofs.YtppcofopnelgjaaGreatDoor
