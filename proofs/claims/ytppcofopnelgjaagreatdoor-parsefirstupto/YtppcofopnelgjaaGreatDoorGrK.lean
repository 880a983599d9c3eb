import Derived.Test.YtppcofopnelgjaaGreatDoorGrG
import Derived.Test.YtppcofopnelgjaaGreatDoorRRo
import Derived.Test.YtppcofopnelgjaaGreatDoorGrJ
import Derived.Laws.FloatBits
import Derived.KernelRfl
import Derived.Maps.AppendAt
import Derived.Laws.AppendOwnNone
import Derived.Tactics
import Derived.Test.YtppcofopnelgjaaGreatDoorScan
set_option linter.unusedVariables false
set_option linter.unusedSimpArgs false
namespace Go.Proofs.YtppcofopnelgjaaGreatDoor
open Go.RowKit
namespace R
/-- the same reading so many places further on -/
def Rd.sh {α : Type} (n : Nat) : Rd α → Rd α
  | .ok a i => .ok a (n + i)
  | .bad i c => .bad (n + i) c
theorem sh_bind {α β : Type} (n : Nat) (x : Rd α) (f g : α → Nat → Rd β) (h : ∀ a i, g a (n + i) = (f a i).sh n) : (x.sh n).bind g = (x.bind f).sh n := by
  cases x with
  | ok a i => exact h a i
  | bad i c => rfl
section
variable {K J : Src} {n : Nat}
/-- K reads from place n on as J does -/
structure Tail (K J : Src) (n : Nat) : Prop where
  at_ : ∀ i, K.at (n + i) = J.at i
  len : K.l.length = n + J.l.length
  endK : K.e.1 = 5
  endJ : J.e.1 = 5
theorem is_lt {I : Src} {k : Int} {s : List UInt8} {i : Nat} (he : I.e.1 = 5) (hk : k ≠ 5) (h : is k s (I.at i) = true) : i < I.l.length := by
  by_cases q : i < I.l.length
  · exact q
  · exfalso
    have e : I.at i = I.e := by simp [Src.at, List.getD, List.getElem?_eq_none (by omega : I.l.length ≤ i)]
    unfold is at h
    rw [e, he] at h
    simp at h
    omega
theorem more_fuel {I : Src} (he : I.e.1 = 5) : ∀ (f f' : Nat) (acc : List Wd) (i : Nat), I.l.length ≤ i + f → I.l.length ≤ i + f' → I.more f acc i = I.more f' acc i := by
  intro f
  induction f with
  | zero =>
    intro f' acc i h h'
    have hn : is 4 [44] (I.at i) = false := by
      cases q : is 4 [44] (I.at i)
      · rfl
      · have := is_lt he (by decide) q; omega
    rw [more_no hn, more_no hn]
  | succ f ih =>
    intro f' acc i h h'
    cases q : is 4 [44] (I.at i)
    · rw [more_no q, more_no q]
    · have hi := is_lt he (by decide) q
      obtain ⟨g, rfl⟩ : ∃ g, f' = g + 1 := ⟨f' - 1, by omega⟩
      unfold Src.more
      rw [q]
      simp only [if_true]
      cases hn : I.name (i + 1) with
      | bad j c => rfl
      | ok x j =>
        have := name_ok hn
        simp only [Rd.bind]
        exact ih g (acc ++ [x]) j (by omega) (by omega)
theorem name_sh (t : Tail K J n) (i : Nat) : K.name (n + i) = (J.name i).sh n := by
  unfold Src.name
  rw [t.at_]
  split <;> rfl
theorem one_sh (t : Tail K J n) (k : Int) (s : List UInt8) (i : Nat) : K.one k s (n + i) = (J.one k s i).sh n := by
  unfold Src.one
  rw [t.at_]
  split <;> rfl
theorem more_sh (t : Tail K J n) : ∀ (f : Nat) (acc : List Wd) (i : Nat), K.more f acc (n + i) = (J.more f acc i).sh n := by
  intro f
  induction f with
  | zero => intro acc i; rfl
  | succ f ih =>
    intro acc i
    unfold Src.more
    rw [t.at_]
    split
    · rw [show n + i + 1 = n + (i + 1) by omega, name_sh t]
      exact sh_bind n _ _ _ (fun a j => ih _ _)
    · rfl
theorem names_sh (t : Tail K J n) (i : Nat) : K.names (n + i) = (J.names i).sh n := by
  unfold Src.names
  rw [name_sh t]
  refine sh_bind n _ _ _ (fun a j => ?_)
  rw [more_fuel t.endK K.l.length J.l.length [a] (n + j) (by omega) (by have := t.len; omega)]
  exact more_sh t _ _ _
theorem number_sh (t : Tail K J n) (i : Nat) : K.number (n + i) = (J.number i).sh n := by
  unfold Src.number
  rw [t.at_]
  split
  · split <;> rfl
  · rfl
theorem trust_sh (t : Tail K J n) (i : Nat) : K.trust (n + i) = (J.trust i).sh n := by
  unfold Src.trust
  rw [t.at_]
  split
  · rw [show n + i + 1 = n + (i + 1) by omega]; exact number_sh t _
  · rfl
theorem who_sh (t : Tail K J n) (i : Nat) : K.who (n + i) = (J.who i).sh n := by
  unfold Src.who
  rw [name_sh t]
  refine sh_bind n _ _ _ (fun a i => ?_)
  rw [one_sh t]
  refine sh_bind n _ _ _ (fun _ i => ?_)
  rw [name_sh t]
  refine sh_bind n _ _ _ (fun b i => ?_)
  rw [one_sh t]
  exact sh_bind n _ _ _ (fun _ i => rfl)
theorem actions_sh (t : Tail K J n) (i : Nat) : K.actions (n + i) = (J.actions i).sh n := by
  unfold Src.actions
  rw [t.at_]
  split
  · rfl
  · rw [names_sh t]
    exact sh_bind n _ _ _ (fun _ i => rfl)
theorem cond_sh (t : Tail K J n) (i : Nat) : K.cond (n + i) = (J.cond i).sh n := by
  unfold Src.cond
  rw [t.at_]
  split
  · rw [show n + i + 1 = n + (i + 1) by omega, number_sh t]
    exact sh_bind n _ _ _ (fun _ i => rfl)
  · split
    · rw [show n + i + 1 = n + (i + 1) by omega, number_sh t]
      exact sh_bind n _ _ _ (fun _ i => rfl)
    · rfl
theorem begin_sh (t : Tail K J n) (i : Nat) : K.begin (n + i) = (J.begin i).sh n := by
  unfold Src.begin
  rw [t.at_]
  split <;> rfl
theorem rest_sh (t : Tail K J n) (d : Dc) (i : Nat) : K.rest d (n + i) = (J.rest d i).sh n := by
  unfold Src.rest
  split
  · rw [names_sh t]
    refine sh_bind n _ _ _ (fun a i => ?_)
    rw [trust_sh t]
    exact sh_bind n _ _ _ (fun _ i => rfl)
  · split
    · rw [name_sh t]
      refine sh_bind n _ _ _ (fun a i => ?_)
      rw [one_sh t]
      refine sh_bind n _ _ _ (fun _ i => ?_)
      rw [names_sh t]
      exact sh_bind n _ _ _ (fun _ i => rfl)
    · split
      · rw [who_sh t]
        refine sh_bind n _ _ _ (fun a i => ?_)
        rw [actions_sh t]
        refine sh_bind n _ _ _ (fun b i => ?_)
        rw [cond_sh t]
        exact sh_bind n _ _ _ (fun _ i => rfl)
      · split
        · rw [who_sh t]
          refine sh_bind n _ _ _ (fun a i => ?_)
          rw [names_sh t]
          exact sh_bind n _ _ _ (fun _ i => rfl)
        · rw [names_sh t]
          exact sh_bind n _ _ _ (fun _ i => rfl)
theorem decl_sh (t : Tail K J n) (i : Nat) : K.decl (n + i) = (J.decl i).sh n := by
  unfold Src.decl
  rw [begin_sh t]
  refine sh_bind n _ _ _ (fun d i => ?_)
  rw [rest_sh t]
  refine sh_bind n _ _ _ (fun d i => ?_)
  rw [one_sh t]
  exact sh_bind n _ _ _ (fun _ i => rfl)
theorem text_sh (t : Tail K J n) : ∀ (f : Nat) (acc pre : List Dc) (i : Nat), K.text f (pre ++ acc) (n + i) = match J.text f acc i with | .ok ds j => .ok (pre ++ ds) (n + j) | .bad j c => .bad (n + j) c := by
  intro f
  induction f with
  | zero => intro acc pre i; rfl
  | succ f ih =>
    intro acc pre i
    unfold Src.text
    have hl := t.len
    by_cases h : i < J.l.length
    · rw [if_pos h, if_pos (by omega), decl_sh t]
      cases J.decl i with
      | bad j c => rfl
      | ok d j =>
        simp only [Rd.sh, Rd.bind]
        rw [List.append_assoc]
        exact ih _ _ _
    · rw [if_neg h, if_neg (by omega)]
end
section
variable {K I : Src} {n : Nat}
/-- K reads up to place n as I does, whose tokens end there -/
structure Head (K I : Src) (n : Nat) : Prop where
  at_ : ∀ i, i < n → K.at i = I.at i
  len : I.l.length = n
  le : n ≤ K.l.length
  endK : K.e.1 = 5
  endI : I.e.1 = 5
theorem name_hd (t : Head K I n) {i j : Nat} {x : Wd} (h : I.name i = .ok x j) (hj : j ≤ n) : K.name i = .ok x j := by
  have hi := name_ok h
  unfold Src.name at h ⊢
  rw [t.at_ i (by omega)]
  exact h
theorem one_hd (t : Head K I n) {k : Int} {s : List UInt8} {i j : Nat} {u : Unit} (h : I.one k s i = .ok u j) (hj : j ≤ n) : K.one k s i = .ok u j := by
  have hi := one_lt h
  unfold Src.one at h ⊢
  rw [t.at_ i (by omega)]
  exact h
theorem number_hd (t : Head K I n) {i j : Nat} {x : Nat} (h : I.number i = .ok x j) (hj : j ≤ n) : K.number i = .ok x j := by
  have hi := number_lt h
  unfold Src.number at h ⊢
  rw [t.at_ i (by omega)]
  exact h
theorem more_hd (t : Head K I n) : ∀ (f f' : Nat) (acc l : List Wd) (i j : Nat), I.more f acc i = .ok l j → j < n → n ≤ i + f → f ≤ f' → K.more f' acc i = .ok l j := by
  intro f
  induction f with
  | zero => intro f' acc l i j h hj hn _; cases h; omega
  | succ f ih =>
    intro f' acc l i j h hj hn hf
    obtain ⟨g, rfl⟩ : ∃ g, f' = g + 1 := ⟨f' - 1, by omega⟩
    have hij := more_le _ _ _ _ _ h
    unfold Src.more at h ⊢
    rw [t.at_ i (by omega)]
    split
    · rename_i q
      rw [if_pos q] at h
      obtain ⟨x, k, h1, h2⟩ := bind_ok h
      have := more_le _ _ _ _ _ h2
      have := name_ok h1
      rw [name_hd t h1 (by omega)]
      exact ih g _ _ _ _ h2 hj (by omega) (by omega)
    · rename_i q
      rw [if_neg q] at h
      exact h
theorem names_hd (t : Head K I n) {i j : Nat} {l : List Wd} (h : I.names i = .ok l j) (hj : j < n) : K.names i = .ok l j := by
  unfold Src.names at h ⊢
  obtain ⟨x, k, h1, h2⟩ := bind_ok h
  have := more_le _ _ _ _ _ h2
  rw [name_hd t h1 (by omega)]
  have hl := t.len
  have hle := t.le
  exact more_hd t _ _ _ _ _ _ h2 hj (by omega) (by omega)
theorem trust_hd (t : Head K I n) {i j : Nat} {x : Nat} (h : I.trust i = .ok x j) (hj : j < n) : K.trust i = .ok x j := by
  have := trust_le h
  unfold Src.trust at h ⊢
  rw [t.at_ i (by omega)]
  split
  · rename_i q
    rw [if_pos q] at h
    exact number_hd t h (by omega)
  · rename_i q
    rw [if_neg q] at h
    exact h
theorem who_hd (t : Head K I n) {i j : Nat} {x : Wd × Wd} (h : I.who i = .ok x j) (hj : j ≤ n) : K.who i = .ok x j := by
  unfold Src.who at h ⊢
  obtain ⟨a, i1, h1, h⟩ := bind_ok h
  obtain ⟨u, i2, h2, h⟩ := bind_ok h
  obtain ⟨c, i3, h3, h⟩ := bind_ok h
  obtain ⟨v, i4, h4, h⟩ := bind_ok h
  cases h
  have := name_ok h1; have := one_lt h2; have := name_ok h3; have := one_lt h4
  rw [name_hd t h1 (by omega)]
  simp only [Rd.bind]
  rw [one_hd t h2 (by omega)]
  simp only
  rw [name_hd t h3 (by omega)]
  simp only
  rw [one_hd t h4 (by omega)]
theorem actions_hd (t : Head K I n) {i j : Nat} {x : List Wd × Bool} (h : I.actions i = .ok x j) (hj : j < n) : K.actions i = .ok x j := by
  have := actions_le h
  unfold Src.actions at h ⊢
  rw [t.at_ i (by omega)]
  split
  · rename_i q
    rw [if_pos q] at h
    exact h
  · rename_i q
    rw [if_neg q] at h
    obtain ⟨a, i1, h1, h⟩ := bind_ok h
    cases h
    rw [names_hd t h1 hj]
    rfl
theorem cond_hd (t : Head K I n) {i j : Nat} {x : Int × Nat} (h : I.cond i = .ok x j) (hj : j < n) : K.cond i = .ok x j := by
  have := cond_le h
  unfold Src.cond at h ⊢
  rw [t.at_ i (by omega)]
  split
  · rename_i q
    rw [if_pos q] at h
    obtain ⟨a, i1, h1, h⟩ := bind_ok h
    cases h
    rw [number_hd t h1 (by omega)]
    rfl
  · rename_i q
    rw [if_neg q] at h
    split
    · rename_i q2
      rw [if_pos q2] at h
      obtain ⟨a, i1, h1, h⟩ := bind_ok h
      cases h
      rw [number_hd t h1 (by omega)]
      rfl
    · rename_i q2
      rw [if_neg q2] at h
      exact h
theorem begin_hd (t : Head K I n) {i j : Nat} {d : Dc} (h : I.begin i = .ok d j) (hj : j ≤ n) : K.begin i = .ok d j := by
  have := (begin_ok h).2
  unfold Src.begin at h ⊢
  rw [t.at_ i (by omega)]
  exact h
theorem rest_hd (t : Head K I n) {d d' : Dc} {i j : Nat} (h : I.rest d i = .ok d' j) (hj : j < n) : K.rest d i = .ok d' j := by
  unfold Src.rest at h ⊢
  split
  · rename_i q
    rw [if_pos q] at h
    obtain ⟨a, i1, h1, h⟩ := bind_ok h
    obtain ⟨c, i2, h2, h⟩ := bind_ok h
    cases h
    have := trust_le h2
    rw [names_hd t h1 (by omega)]
    simp only [Rd.bind]
    rw [trust_hd t h2 hj]
  · rename_i q
    rw [if_neg q] at h
    split
    · rename_i q2
      rw [if_pos q2] at h
      obtain ⟨a, i1, h1, h⟩ := bind_ok h
      obtain ⟨c, i2, h2, h⟩ := bind_ok h
      obtain ⟨e, i3, h3, h⟩ := bind_ok h
      cases h
      have := one_lt h2; have := names_lt h3; have := name_ok h1
      rw [name_hd t h1 (by omega)]
      simp only [Rd.bind]
      rw [one_hd t h2 (by omega)]
      simp only
      rw [names_hd t h3 hj]
    · rename_i q2
      rw [if_neg q2] at h
      split
      · rename_i q3
        rw [if_pos q3] at h
        obtain ⟨a, i1, h1, h⟩ := bind_ok h
        obtain ⟨c, i2, h2, h⟩ := bind_ok h
        obtain ⟨e, i3, h3, h⟩ := bind_ok h
        cases h
        have := actions_le h2; have := cond_le h3
        rw [who_hd t h1 (by omega)]
        simp only [Rd.bind]
        rw [actions_hd t h2 (by omega)]
        simp only
        rw [cond_hd t h3 hj]
      · rename_i q3
        rw [if_neg q3] at h
        split
        · rename_i q4
          rw [if_pos q4] at h
          obtain ⟨a, i1, h1, h⟩ := bind_ok h
          obtain ⟨c, i2, h2, h⟩ := bind_ok h
          cases h
          have := names_lt h2
          rw [who_hd t h1 (by omega)]
          simp only [Rd.bind]
          rw [names_hd t h2 hj]
        · rename_i q4
          rw [if_neg q4] at h
          obtain ⟨a, i1, h1, h⟩ := bind_ok h
          cases h
          rw [names_hd t h1 hj]
          rfl
theorem decl_hd (t : Head K I n) {i j : Nat} {d : Dc} (h : I.decl i = .ok d j) (hj : j ≤ n) : K.decl i = .ok d j := by
  unfold Src.decl at h ⊢
  obtain ⟨a, i1, h1, h⟩ := bind_ok h
  obtain ⟨c, i2, h2, h⟩ := bind_ok h
  obtain ⟨u, i3, h3, h⟩ := bind_ok h
  cases h
  have := rest_le h2; have := one_lt h3
  rw [begin_hd t h1 (by omega)]
  simp only [Rd.bind]
  rw [rest_hd t h2 (by omega)]
  simp only
  rw [one_hd t h3 hj]
theorem decl_in {I : Src} {i j : Nat} {d : Dc} (he : I.e.1 = 5) (h : I.decl i = .ok d j) : j ≤ I.l.length := by
  unfold Src.decl at h
  obtain ⟨a, i1, h1, h⟩ := bind_ok h
  obtain ⟨c, i2, h2, h⟩ := bind_ok h
  obtain ⟨u, i3, h3, h⟩ := bind_ok h
  cases h
  have e := one_lt h3
  unfold Src.one at h3
  split at h3
  · rename_i q
    have := is_lt he (by decide) q
    omega
  · cases h3
theorem text_hd (t : Head K I n) : ∀ (f g : Nat) (acc ds : List Dc) (i j : Nat), I.text f acc i = .ok ds j → n < i + f → i ≤ n → f ≤ g → ∃ g', K.text g acc i = K.text g' ds n ∧ K.l.length - n + (n - i + (g - f)) < g' + (n - i) + (K.l.length - n) + 1 ∧ g - (n - i) ≤ g' := by
  intro f
  induction f with
  | zero => intro g acc ds i j h h1 h2 h3; omega
  | succ f ih =>
    intro g acc ds i j h h1 h2 h3
    by_cases hi : i < n
    · have hl := t.len
      unfold Src.text at h
      rw [if_pos (by omega)] at h
      obtain ⟨d, k, hd, h⟩ := bind_ok h
      have k1 := decl_lt hd
      have k2 := decl_in t.endI hd
      obtain ⟨g0, rfl⟩ : ∃ g0, g = g0 + 1 := ⟨g - 1, by omega⟩
      obtain ⟨g', e1, e2, e3⟩ := ih g0 _ _ _ _ h (by omega) (by omega) (by omega)
      refine ⟨g', ?_, by omega, by omega⟩
      rw [← e1]
      have hle := t.le
      conv => lhs; unfold Src.text
      rw [if_pos (by omega), decl_hd t hd (by omega)]
      rfl
    · have hl := t.len
      have hin : i = n := by omega
      subst hin
      rw [text_end (by omega)] at h
      cases h
      exact ⟨g, rfl, by omega, by omega⟩
end
end R
end Go.Proofs.YtppcofopnelgjaaGreatDoor
set_option linter.unusedVariables false
set_option linter.unusedSimpArgs false
namespace Go.Proofs.YtppcofopnelgjaaGreatDoor
open Go.RowKit
namespace R
theorem text_fuel {I : Src} : ∀ (f f' : Nat) (acc : List Dc) (i : Nat), I.l.length < i + f → I.l.length < i + f' → I.text f acc i = I.text f' acc i := by
  intro f
  induction f with
  | zero =>
    intro f' acc i h h'
    rw [text_end (by omega), text_end (by omega)]
  | succ f ih =>
    intro f' acc i h h'
    by_cases hi : i < I.l.length
    · obtain ⟨g, rfl⟩ : ∃ g, f' = g + 1 := ⟨f' - 1, by omega⟩
      cases hd : I.decl i with
      | bad j c => rw [text_bad hi hd, text_bad hi hd]
      | ok d j =>
        have := decl_lt hd
        rw [text_on hi hd, text_on hi hd]
        exact ih g _ _ (by omega) (by omega)
    · rw [text_end hi, text_end hi]
theorem src_app (a b : List Tok) (ha : ∀ x ∈ a, x.1 ≠ 5) : src (a ++ b) = ⟨a ++ (src b).l, (src b).e⟩ := by
  induction a with
  | nil => rfl
  | cons x a ih =>
    have hx : (x.1 == 5) = false := by simpa using ha x (List.mem_cons_self ..)
    have := ih (fun y hy => ha y (List.mem_cons_of_mem _ hy))
    simp [src, hx, this]
theorem src_end (l : List Tok) : (src l).e.1 = 5 := by
  induction l with
  | nil => rfl
  | cons x l ih =>
    unfold src
    split
    · rfl
    · exact ih
theorem src_le (l : List Tok) : (src l).l.length ≤ l.length := by
  induction l with
  | nil => exact Nat.le_refl _
  | cons x l ih =>
    unfold src
    split
    · simp
    · simp; exact ih
/-- TWO LISTS THAT ARE TAKEN, ONE BEHIND THE OTHER -/
theorem decls_join (a b : List Tok) (ha : ∀ x ∈ a, x.1 ≠ 5) {ds1 ds2 : List Dc} {j1 j2 : Nat} (h1 : decls a = .ok ds1 j1) (h2 : decls b = .ok ds2 j2) : ∃ j, decls (a ++ b) = .ok (ds1 ++ ds2) j := by
  have eK := src_app a b ha
  have eI := src_none a ha
  unfold decls at h1 h2 ⊢
  rw [eI] at h1
  rw [eK]
  obtain ⟨J, hJ⟩ : ∃ J, src b = J := ⟨_, rfl⟩
  have hle := src_le b
  have hend := src_end b
  rw [hJ] at h2 hle hend ⊢
  have hd : Head ⟨a ++ J.l, J.e⟩ ⟨a, (5, ByteArray.empty, 0, 0)⟩ a.length := by
    refine ⟨fun i hi => ?_, rfl, by simp, hend, rfl⟩
    simp [Src.at, List.getD, List.getElem?_append_left hi, List.getElem?_eq_getElem hi]
  have tl : Tail ⟨a ++ J.l, J.e⟩ J a.length := by
    refine ⟨fun i => ?_, by simp, hend, hend⟩
    simp [Src.at, List.getD, List.getElem?_append_right]
  obtain ⟨g', e1, _, e3⟩ := text_hd hd (a.length + 1) ((a ++ b).length + 1) [] ds1 0 j1 h1 (by simp) (Nat.zero_le _) (by simp)
  rw [e1]
  have := text_sh tl g' [] ds1 0
  rw [List.append_nil, Nat.add_zero] at this
  rw [this]
  have hg : b.length + 1 ≤ g' := by simp at e3; omega
  rw [text_fuel g' (b.length + 1) [] 0 (by omega) (by omega), h2]
  exact ⟨_, rfl⟩
end R
end Go.Proofs.YtppcofopnelgjaaGreatDoor
set_option linter.unusedVariables false
set_option linter.unusedSimpArgs false
namespace Go.Proofs.YtppcofopnelgjaaGreatDoor
open Go.RowKit
theorem compare_self_int (x : Int) : compare x x = .eq := by
  show compareOfLessAndEq x x = .eq
  unfold compareOfLessAndEq
  rw [if_neg (Int.lt_irrefl _), if_pos rfl]
theorem compare_self_nat (x : Nat) : compare x x = .eq := by
  show compareOfLessAndEq x x = .eq
  unfold compareOfLessAndEq
  rw [if_neg (Nat.lt_irrefl _), if_pos rfl]
theorem order_self (d : Ieee.Datum) (h : d.isNaN = false) : d.order d = some .eq := by
  cases d with
  | number s m i => simp only [Ieee.Datum.order, compare_self_int]
  | infinity s => simp only [Ieee.Datum.order, compare_self_nat]
  | nan s f => simp [Ieee.Datum.isNaN] at h
theorem word_mod (f : Ieee.Format) (neg : Bool) (rung : Nat) (h : rung < f.signWeight) : f.word neg rung % f.signWeight = rung := by
  unfold Ieee.Format.word
  split
  · rw [Nat.add_mod_left, Nat.mod_eq_of_lt h]
  · exact Nat.mod_eq_of_lt h
theorem word_self (f : Ieee.Format) (neg : Bool) (rung : Nat) (h : rung ≤ f.infRung) : f.order (f.word neg rung) (f.word neg rung) = some .eq := by
  refine order_self _ ?_
  have hm := word_mod f neg rung (Nat.lt_of_le_of_lt h f.infRung_lt)
  unfold Ieee.Format.read
  simp only [hm]
  split
  · rfl
  · split
    · rfl
    · split
      · rfl
      · omega
theorem write_self (f : Ieee.Format) (d : Ieee.Datum) (h : d.isNaN = false) : f.order (f.write d) (f.write d) = some .eq := by
  cases d with
  | number s m i =>
    show f.order (f.nearest s m i) (f.nearest s m i) = _
    unfold Ieee.Format.nearest
    split
    · exact word_self f _ _ (Nat.zero_le _)
    · exact word_self f _ _ (Nat.min_le_right ..)
  | infinity s => exact word_self f _ _ (Nat.le_refl _)
  | nan s f => simp [Ieee.Datum.isNaN] at h
theorem quotient_nan (n : Nat) (x y d : Ieee.Datum) (h : x.quotient n y = some d) : d.isNaN = false := by
  unfold Ieee.Datum.quotient at h
  split at h
  · cases h
  · cases h
  · cases h
  · cases h; rfl
  · cases h; rfl
  · split at h
    · split at h
      · cases h
      · cases h; rfl
    · cases h; rfl
theorem div_self (f : Ieee.Format) {x y r : Nat} (h : f.div x y = some r) : f.order r r = some .eq := by
  unfold Ieee.Format.div at h
  cases hq : (f.read x).quotient (f.fractionBits + 2) (f.read y) with
  | none => rw [hq] at h; cases h
  | some d =>
    rw [hq] at h
    cases h
    exact write_self f d (quotient_nan _ _ _ _ hq)
namespace R
def Fair (x : Nat) : Prop := (FloatKind.f64.format.order x x == some .eq) = true
theorem fair_zero : Fair 0 := by unfold Fair; kernel_rfl
theorem fair_one : Fair 4607182418800017408 := by unfold Fair; kernel_rfl
theorem val_fair (t : ByteArray) : Fair (val t) := by
  unfold val
  split
  · exact fair_zero
  · split
    · unfold Fair; kernel_rfl
    · cases h : FloatKind.f64.format.div (FloatKind.f64.nearest (digs (t.data.toList.drop 2) : Nat)) (FloatKind.f64.nearest (10 ^ (t.size - 2) : Nat)) with
      | none => exact fair_zero
      | some r =>
        unfold Fair
        rw [Option.getD_some, div_self _ h]; rfl
theorem more_len {I : Src} : ∀ (f : Nat) (acc : List Wd) (i : Nat) (l : List Wd) (j : Nat), I.more f acc i = .ok l j → l.length ≤ acc.length + f := by
  intro f
  induction f with
  | zero => intro acc i l j h; cases h; simp
  | succ f ih =>
    intro acc i l j h
    unfold Src.more at h
    split at h
    · obtain ⟨w, k, _, h⟩ := bind_ok h
      have := ih _ _ _ _ h
      simp at this; omega
    · cases h; omega
theorem names_len {I : Src} {i : Nat} {l : List Wd} {j : Nat} (h : I.names i = .ok l j) : l.length ≤ I.l.length + 1 := by
  unfold Src.names at h
  obtain ⟨w, k, _, h⟩ := bind_ok h
  have := more_len _ _ _ _ _ h
  simp at this; omega
theorem number_fair {I : Src} {i : Nat} {x j : Nat} (h : I.number i = .ok x j) : Fair x := by
  unfold Src.number at h
  split at h
  · split at h
    · cases h; exact val_fair _
    · cases h
  · cases h
theorem trust_fair {I : Src} {i : Nat} {x j : Nat} (h : I.trust i = .ok x j) : Fair x := by
  unfold Src.trust at h
  split at h
  · exact number_fair h
  · cases h; exact fair_one
theorem cond_fair {I : Src} {i : Nat} {c : Int × Nat} {j : Nat} (h : I.cond i = .ok c j) : Fair c.2 := by
  unfold Src.cond at h
  split at h
  · obtain ⟨x, k, hx, h⟩ := bind_ok h
    cases h; exact number_fair hx
  · split at h
    · obtain ⟨x, k, hx, h⟩ := bind_ok h
      cases h; exact number_fair hx
    · cases h; exact fair_zero
theorem actions_len {I : Src} {i : Nat} {l : List Wd × Bool} {j : Nat} (h : I.actions i = .ok l j) : l.1.length ≤ I.l.length + 1 := by
  unfold Src.actions at h
  split at h
  · cases h; simp
  · obtain ⟨x, k, hx, h⟩ := bind_ok h
    cases h; exact names_len hx
theorem rest_fair {I : Src} {d : Dc} {i : Nat} {d' : Dc} {j : Nat} (hd : Fair d.level) (h : I.rest d i = .ok d' j) : d'.names.length ≤ I.l.length + 1 ∧ Fair d'.level := by
  unfold Src.rest at h
  split at h
  · obtain ⟨l, k, hl, h⟩ := bind_ok h
    obtain ⟨x, k', hx, h⟩ := bind_ok h
    cases h; exact ⟨names_len hl, trust_fair hx⟩
  · split at h
    · obtain ⟨a, k, _, h⟩ := bind_ok h
      obtain ⟨b, k1, _, h⟩ := bind_ok h
      obtain ⟨l, k2, hl, h⟩ := bind_ok h
      cases h; exact ⟨names_len hl, hd⟩
    · split at h
      · obtain ⟨a, k, _, h⟩ := bind_ok h
        obtain ⟨l, k1, hl, h⟩ := bind_ok h
        obtain ⟨c, k2, hc, h⟩ := bind_ok h
        cases h; exact ⟨actions_len hl, cond_fair hc⟩
      · split at h
        · obtain ⟨a, k, _, h⟩ := bind_ok h
          obtain ⟨l, k1, hl, h⟩ := bind_ok h
          cases h; exact ⟨names_len hl, hd⟩
        · obtain ⟨l, k1, hl, h⟩ := bind_ok h
          cases h; exact ⟨names_len hl, hd⟩
theorem decl_fair {I : Src} {i : Nat} {d : Dc} {j : Nat} (h : I.decl i = .ok d j) : d.names.length ≤ I.l.length + 1 ∧ Fair d.level := by
  unfold Src.decl at h
  obtain ⟨d0, k, h0, h⟩ := bind_ok h
  obtain ⟨d1, k1, h1, h⟩ := bind_ok h
  obtain ⟨_, k2, _, h⟩ := bind_ok h
  cases h
  refine rest_fair ?_ h1
  unfold Src.begin at h0
  split at h0
  · cases h0; exact fair_zero
  · cases h0
theorem text_fair {I : Src} : ∀ (f : Nat) (acc : List Dc) (i : Nat) (ds : List Dc) (j : Nat), (∀ d ∈ acc, d.names.length ≤ I.l.length + 1 ∧ Fair d.level) → I.text f acc i = .ok ds j → (∀ d ∈ ds, d.names.length ≤ I.l.length + 1 ∧ Fair d.level) ∧ ds.length ≤ acc.length + f := by
  intro f
  induction f with
  | zero => intro acc i ds j ha h; cases h; exact ⟨ha, by omega⟩
  | succ f ih =>
    intro acc i ds j ha h
    unfold Src.text at h
    split at h
    · obtain ⟨d, k, hd, h⟩ := bind_ok h
      have := ih _ _ _ _ (fun x hx => by
        rcases List.mem_append.1 hx with hx | hx
        · exact ha x hx
        · obtain rfl := List.mem_singleton.1 hx
          exact decl_fair hd) h
      refine ⟨this.1, ?_⟩
      have := this.2
      simp at this; omega
    · cases h; exact ⟨ha, by omega⟩
theorem decls_fine {l : List Tok} {ds : List Dc} {j : Nat} (few : l.length < R.lim) (h : decls l = .ok ds j) : (∀ d ∈ ds, d.Fine) ∧ ds.length ≤ l.length + 1 := by
  have := text_fair _ _ _ _ _ (fun d hd => by cases hd) h
  have hs := R.src_le l
  refine ⟨fun d hd => ⟨?_, (this.1 d hd).2⟩, ?_⟩
  · have := (this.1 d hd).1; omega
  · have := this.2; simp at this; omega
end R
end Go.Proofs.YtppcofopnelgjaaGreatDoor
set_option linter.unusedVariables false
namespace Go.Proofs.YtppcofopnelgjaaGreatDoor
open Go
/-- append of a slice, nil or not, empty or not, at an operation that is wanted -/
theorem wpList_append_src {P : Program} {w : World} {ops : Array Oper} {rest : List Oper} {o : Oper} {a : Act} {Q : Exit → Act → World → Prop} (hw : Region.wanted o (yielded ops a.tmps) = true) (s x : Operand) (t : TypeId)
    (ho : o.op = .call { callee := .builtin .append, args := #[s, x], argTypes := #[t, t] })
    (base : Nat) (e : TypeId) (i : TypeInfo) (z : Value) (size bytes : Nat) (ht : P.underlying t = some (.slice e)) (hi : P.info? e = some i) (hz : i.zero = some z)
    (hsize : i.size = size) (hby : i.bytes = bytes) (hzs : z.cells.size = size) (hsz : 0 < size)
    (v : Value) (n : Nat) (xs : List Value) (hs : a.eval s = v) (hown : w.ownsRow base e size v n xs)
    (src : Option Addr) (m c : Nat) (news : List Value) (hx : a.eval x = .slice src m c) (hnil : src = none → m = 0 ∧ c = 0) (hl : news.length = m * size) (hnews : ∀ ad, src = some ad → ∀ j u, news[j]? = some u → w.cell? (ad.add j) = some u) (h1 : ∀ u ∈ news, u.oneCell' = true)
    (h63 : n + m ≤ maxLen) (hbytes : (n + m) * bytes ≤ 140737488355328) (hbase : base ≤ w.heap.size)
    (h : ∀ v' w', w'.ownsRow base e size v' (n + m) (xs ++ news) → w.grownBy w' v.ownBlock → (v'.ownBlock = v.ownBlock ∨ v'.ownBlock = some w.heap.size) → wpList P ops Q rest (a.put o.dst v') w') : wpList P ops Q (o :: rest) a w := by
  refine wpList_step fun K hK => ?_
  rw [if_pos hw]
  cases src with
  | none =>
    obtain ⟨rfl, rfl⟩ := hnil rfl
    have hn : news = [] := List.eq_nil_of_length_eq_zero (by rw [hl, Nat.zero_mul])
    subst hn
    have hrun := run_append_owned_none (P := P) (w := w) base t o.type e i size ht hi v n xs hown
    unfold Oper.wp
    simp [execOp, ho, resolve, invoke, builtin, hs, hx, hrun, Result.andThen]
    refine hK _ _ (h v w ?_ ⟨rfl, rfl, rfl, Nat.le_refl _, fun _ _ _ => rfl⟩ (.inl rfl))
    rw [List.append_nil]; exact hown
  | some ad =>
    obtain ⟨v', w', hr, h2, h3, _, h5⟩ := run_append_own_at (P := P) w base t o.type e i z size bytes ht hi hz hsize hby hzs hsz v n xs hown ad m c news hl (hnews ad rfl) h1 h63 hbytes hbase
    unfold Oper.wp execOp
    simp only [ho, resolve, invoke, builtin, Sem.run_bind, Sem.run_pure, Result.andThen_ok, List.map_toArray, List.map_cons, List.map_nil, hs, hx, hr]
    exact hK _ _ (h v' w' h2 h3 h5)
end Go.Proofs.YtppcofopnelgjaaGreatDoor
set_option linter.unusedVariables false
set_option linter.unusedSimpArgs false
namespace Go.Proofs.YtppcofopnelgjaaGreatDoor
open Go.RowKit
def cellsT (x : R.Tok) : List Value := [.int .i8 x.1, .string x.2.1, .int .i64 x.2.2.1, .int .i64 x.2.2.2]
set_option maxRecDepth 100000 in
set_option maxHeartbeats 8000000 in
theorem twin_any (l : List R.Tok) (ao : Option Addr) (cap : Nat) (w : World) (few : l.length ≤ R.lim) (ht : Toks l ao (fun _ => False) w) :
    Calls Tryz.prog 17 #[.slice ao l.length cap] w fun e w' => ∃ v, e = .returned v ∧ w'.ownsRow w.heap.size 44 4 v l.length (l.flatMap cellsT) ∧ Below w.heap.size w w' := by
  have hlen : (l.length : Int) < 1099511627777 := by unfold R.lim at few; omega
  have H := hide' (And.intro ht (And.intro few hlen))
  clear ht few hlen
  have hi44 := info29
  cases hq44 : Tryz.prog.info? 44 with
  | none => simp [hq44] at hi44
  | some i0 =>
  obtain ⟨hz0, hz1, hz2⟩ : i0.zero = some (.agg #[.int .i8 0, .string ByteArray.empty, .int .i64 0, .int .i64 0]) ∧ i0.size = 4 ∧ i0.bytes = 40 := by simpa [hq44] using hi44
  have Hz := hide' (And.intro hq44 (And.intro hz0 (And.intro hz1 hz2)))
  clear hi44 hq44 hz0 hz1 hz2
  go_enter Tryz.func17, Tryz.ntmps17
  go_wp2
  go_loopw [3, 4] (fun v vi wx => ∃ k : Nat, k ≤ l.length ∧ vi = .int .i64 (k : Int) ∧ Below w.heap.size w wx ∧ wx.ownsRow w.heap.size 44 4 v k ((l.take k).flatMap cellsT)) (fun _ vi _ => l.length - idxOf vi)
  case atStart => exact ⟨0, Nat.zero_le _, rfl, Below.refl _ _, rfl, Or.inl ⟨rfl, rfl⟩⟩
  case round =>
    obtain ⟨k, hk, rfl, hb, hrow⟩ := hrel
    have HR := hide' (And.intro hb hrow)
    have hbs := hb.size
    by_cases hkl : k < l.length
    · obtain ⟨tb, to, rfl, _, hl, q0, q1, q2, q3⟩ := (H.out.1.below hb) k _ (List.getElem?_eq_getElem hkl)
      have hkw : IntKind.i64.wrap ((k : Int) + 1) = (k : Int) + 1 := by
        have := H.out.2.2
        rw [IntKind.wrap_i64]; omega
      have b1' : Hid (k + 1 ≤ maxLen) := (show k + 1 ≤ maxLen by have := H.out.2.1; unfold R.lim at this; unfold maxLen; omega)
      have b2' : Hid ((k + 1) * 40 ≤ 140737488355328) := (show (k + 1) * 40 ≤ 140737488355328 by have := H.out.2.1; unfold R.lim at this; omega)
      have hx : l.take (k + 1) = l.take k ++ [l[k]] := by rw [List.take_add_one, List.getElem?_eq_getElem hkl]; rfl
      generalize l[k] = t at *
      obtain ⟨tk, tt, tl, tc⟩ := t
      simp only at q0 q1 q2 q3
      have Hx := hide' hx
      clear hx hb hrow
      go_wp2_with (at_builtin; refine wpList_append_lies _ rfl _ _ 40 rfl w.heap.size 44 i0 _ 4 40 Tryz.underlying40 Hz.out.1 Hz.out.2.1 Hz.out.2.2.1 Hz.out.2.2.2 rfl (by decide) _ _ _ rfl (HR.out.2.alloc _) ⟨wr.heap.size, 0, none⟩ 1 1 [.int .i8 tk, .string tt, .int .i64 tl, .int .i64 tc] rfl rfl (four_new _ _ _ _ _ _) (by simp [Value.oneCell']) (by decide) b1'.out b2'.out (by simp; omega) _ rfl ?_; intro g cp w4 hrow4 hgrow4 hat4 hlt4)
      replace hgrow4 : (wr.alloc (.cells #[.int .i8 tk, .string tt, .int .i64 tl, .int .i64 tc] 44)).grownBy w4 u3.ownBlock := hgrow4
      refine ⟨⟨k + 1, by omega, by simp, ?_, ?_⟩, by simp [idxOf]; omega⟩
      · exact (HR.out.1.alloc (by omega) _).grown hgrow4 (by simp; omega) (fun k hk => (HR.out.2.lt k hk).1)
      · rw [Hx.out, List.flatMap_append]; simpa [cellsT] using hrow4
    · have hke : k = l.length := by omega
      subst hke
      go_wp2
      go_ret
      refine ⟨_, rfl, ?_, HR.out.1⟩
      have := HR.out.2
      rw [List.take_length] at this
      exact this
end Go.Proofs.YtppcofopnelgjaaGreatDoor
set_option linter.unusedVariables false
set_option linter.unusedSimpArgs false
namespace Go.Proofs.YtppcofopnelgjaaGreatDoor
open Go.RowKit
theorem cellsT_len (t : R.Tok) : (cellsT t).length = 4 := rfl
theorem flat4_len (l : List R.Tok) : (l.flatMap cellsT).length = l.length * 4 := by
  induction l with
  | nil => rfl
  | cons y l ih => rw [List.flatMap_cons, List.length_append, ih, cellsT_len, List.length_cons]; omega
theorem flat13_len (l : List (R.Dc × Value)) : (l.flatMap fun p => dl p.1 p.2).length = l.length * 13 := by
  induction l with
  | nil => rfl
  | cons y l ih => rw [List.flatMap_cons, List.length_append, ih, dl_len, List.length_cons]; omega
theorem flat4 (l : List R.Tok) : ∀ (k : Nat) (p : R.Tok), l[k]? = some p → ∀ c, c < 4 → (l.flatMap cellsT)[k * 4 + c]? = (cellsT p)[c]? := by
  induction l with
  | nil => intro k p h; simp at h
  | cons y l ih =>
    intro k p h c hc
    cases k with
    | zero =>
      simp at h
      subst h
      rw [List.flatMap_cons, Nat.zero_mul, Nat.zero_add, List.getElem?_append_left (by rw [cellsT_len]; exact hc)]
    | succ k =>
      rw [List.flatMap_cons, List.getElem?_append_right (by rw [cellsT_len]; omega), cellsT_len, show (k + 1) * 4 + c - 4 = k * 4 + c by omega]
      exact ih k p (by simpa using h) c hc
theorem toks_cells {l : List R.Tok} {ao : Option Addr} {S : Nat → Prop} {w : World} (h : Toks l ao S w) : ∀ ad, ao = some ad → ∀ j u, (l.flatMap cellsT)[j]? = some u → w.cell? (ad.add j) = some u := by
  intro ad ha j u hj
  subst ha
  have hjl : j < (l.flatMap cellsT).length := (List.getElem?_eq_some_iff.1 hj).1
  rw [flat4_len] at hjl
  have hk : j / 4 < l.length := by omega
  obtain ⟨tb, to, e, _, _, q0, q1, q2, q3⟩ := h (j / 4) _ (List.getElem?_eq_getElem hk)
  cases e
  have := flat4 l (j / 4) _ (List.getElem?_eq_getElem hk) (j % 4) (by omega)
  rw [show j / 4 * 4 + j % 4 = j by omega, hj] at this
  have hadd : (⟨tb, to, none⟩ : Addr).add j = ⟨tb, to + j, none⟩ := by simp [Addr.add]
  rw [hadd]
  clear hadd
  generalize l[j / 4] = t at *
  have hm : j % 4 = 0 ∨ j % 4 = 1 ∨ j % 4 = 2 ∨ j % 4 = 3 := by omega
  rcases hm with e | e | e | e <;> rw [e] at this <;> simp [cellsT] at this <;> subst this
  · rw [show to + j = to + j / 4 * 4 by omega]; exact q0
  · rw [show to + j = to + j / 4 * 4 + 1 by omega]; exact q1
  · rw [show to + j = to + j / 4 * 4 + 2 by omega]; exact q2
  · rw [show to + j = to + j / 4 * 4 + 3 by omega]; exact q3
theorem toks_row {w : World} {B : Nat} {v : Value} {l : List R.Tok} (h : w.ownsRow B 44 4 v l.length (l.flatMap cellsT)) : ∃ sa sc, v = .slice sa l.length sc ∧ l.length ≤ sc ∧ Toks l sa (fun _ => False) w := by
  by_cases h0 : l = []
  · subst h0
    obtain ⟨sa, sc, e⟩ := row_form h
    exact ⟨sa, sc, e, Nat.zero_le _, fun j t hj => by simp at hj⟩
  · obtain ⟨g, cap, e, hc, _, hl, hh⟩ := rows_at h h0
    exact ⟨_, cap, e, hc, toks_of_rows hl hh⟩
theorem row_src {w : World} {B : Nat} {e : TypeId} {size : Nat} {v : Value} {n : Nat} {xs : List Value} (h : w.ownsRow B e size v n xs) :
    ∃ src c, v = .slice src n c ∧ (src = none → n = 0 ∧ c = 0) ∧ ∀ ad, src = some ad → ∀ j u, xs[j]? = some u → w.cell? (ad.add j) = some u := by
  rcases h.2 with ⟨rfl, h2⟩ | ⟨g, cap, cur, rfl, _⟩
  · exact ⟨none, 0, by rw [h2], fun _ => ⟨h2, rfl⟩, fun ad q => by cases q⟩
  · refine ⟨some ⟨g, 0, none⟩, cap, rfl, ?_, ?_⟩
    · intro q; cases q
    · intro ad q j u hj
      cases q
      exact h.cells rfl j u hj
theorem Dcs.grown {B B1 : Nat} {ps : List (R.Dc × Value)} {v v1 : Value} {w w' : World} {n1 : Nat} {xs1 : List Value} (h : Dcs B ps v w) (hr1 : w.ownsRow B1 59 13 v1 n1 xs1) (hne : ∀ g, v1.ownBlock = some g → g < B) (hgr : w.grownBy w' v1.ownBlock) : Dcs B ps v w' := by
  refine ⟨h.row.kept hgr ?_, fun p hp => (h.names p hp).kept hgr ?_, h.sep⟩
  · cases hu : v.ownBlock with
    | none => exact Or.inl rfl
    | some k => exact Or.inr (fun e => by have := hne k e.symm; have := (h.row.lt k hu).1; omega)
  · cases hu : p.2.ownBlock with
    | none => exact Or.inl rfl
    | some k => exact Or.inr (fun e => rows_ne (h.names p hp) hr1 k hu e.symm)
theorem Dcs.join {B B2 : Nat} {ps1 ps2 : List (R.Dc × Value)} {v1 v2 v' : Value} {w w' : World} (h1 : Dcs B ps1 v1 w) (h2 : Dcs B2 ps2 v2 w) (hlow : ∀ p ∈ ps1, ∀ g, p.2.ownBlock = some g → g < B2) (hB : B ≤ B2)
    (hrow : w'.ownsRow B 59 13 v' (ps1.length + ps2.length) ((ps1.flatMap fun p => dl p.1 p.2) ++ (ps2.flatMap fun p => dl p.1 p.2))) (hgr : w.grownBy w' v1.ownBlock) : Dcs B (ps1 ++ ps2) v' w' := by
  have kept : ∀ {B' : Nat} {u : Value} {n : Nat} {xs : List Value}, w.ownsRow B' 55 3 u n xs → w'.ownsRow B' 55 3 u n xs := fun {B' u n xs} hr => by
    refine hr.kept hgr ?_
    cases hu : u.ownBlock with
    | none => exact Or.inl rfl
    | some k => exact Or.inr (fun e => rows_ne hr h1.row k hu e.symm)
  refine ⟨by rw [List.length_append, List.flatMap_append]; exact hrow, fun p hp => ?_, ?_⟩
  · rcases List.mem_append.1 hp with hp | hp
    · exact kept (h1.names p hp)
    · exact row_mono (kept (h2.names p hp)) hB
  · rw [List.pairwise_append]
    refine ⟨h1.sep, h2.sep, fun p hp q hq g e1 e2 => ?_⟩
    have a1 := hlow p hp g e1
    have a2 := ((h2.names q hq).lt g e2).1
    omega
theorem row_srcs {w : World} {B : Nat} {e : TypeId} {size : Nat} {src : Option Addr} {n' c n : Nat} {xs : List Value} (h : w.ownsRow B e size (.slice src n' c) n xs) :
    n' = n ∧ (src = none → n = 0 ∧ c = 0) ∧ ∀ ad, src = some ad → ∀ j u, xs[j]? = some u → w.cell? (ad.add j) = some u := by
  obtain ⟨s, c', e, h1, h2⟩ := row_src h
  cases e
  exact ⟨rfl, h1, h2⟩
theorem flat4_one (l : List R.Tok) : ∀ u ∈ l.flatMap cellsT, u.oneCell' = true := by
  intro u hu
  obtain ⟨t, _, h⟩ := List.mem_flatMap.1 hu
  simp [cellsT] at h
  rcases h with rfl | rfl | rfl | rfl <;> rfl
theorem Dcs.one {B : Nat} {ps : List (R.Dc × Value)} {v : Value} {w : World} (h : Dcs B ps v w) : ∀ u ∈ ps.flatMap fun p => dl p.1 p.2, u.oneCell' = true := by
  intro u hu
  obtain ⟨p, hp, hu⟩ := List.mem_flatMap.1 hu
  obtain ⟨sa, sc, e⟩ := row_form (h.names p hp)
  rw [e] at hu
  simp [dl] at hu
  rcases hu with rfl | rfl | rfl | rfl | rfl | rfl | rfl | rfl | rfl | rfl | rfl | rfl | rfl <;> rfl
end Go.Proofs.YtppcofopnelgjaaGreatDoor
