import Derived.Test.YtjmkofdnlhfaiaaBas
set_option linter.unusedVariables false
set_option linter.unusedSimpArgs false
namespace Go.Proofs.Ytjmkofdnlhfaiaa
open Go.RowKit
namespace C
/-- a triple -/
structure Tr where
  s : Int
  o : Int
  a : Int
theorem Tr.ext' {x y : Tr} (h1 : x.s = y.s) (h2 : x.o = y.o) (h3 : x.a = y.a) : x = y := by cases x; cases y; simp_all
instance : DecidableEq Tr := fun x y =>
  if h : x.s = y.s ∧ x.o = y.o ∧ x.a = y.a then isTrue (Tr.ext' h.1 h.2.1 h.2.2) else isFalse (fun e => h (by subst e; exact ⟨rfl, rfl, rfl⟩))
/-- a decision -/
structure De where
  t : Tr
  tag : Int
  al : Bool
  mr : Bool
abbrev Pf := Nat → Option De
/-- a place's cells -/
def pcs : Option De → List Value
  | none => [.bool false, .int .i64 0, .int .i64 0, .int .i64 0, .int .i64 0, .bool false, .bool false]
  | some d => [.bool true, .int .i64 d.t.s, .int .i64 d.t.o, .int .i64 d.t.a, .int .i64 d.tag, .bool d.al, .bool d.mr]
theorem pcs_len (d : Option De) : (pcs d).length = 7 := by cases d <;> rfl
def pv (d : Option De) (k : Nat) : Value := (pcs d).getD k (.bool false)
theorem pv_at (d : Option De) {k : Nat} (h : k < 7) : (pcs d)[k]? = some (pv d k) := by
  unfold pv
  rw [List.getD, List.getElem?_eq_getElem (by rw [pcs_len]; exact h)]; rfl
def prow (f : Pf) : Nat → Value := fun i => pv (f (i / 7)) (i % 7)
theorem prow_at (f : Pf) (j k : Nat) (h : k < 7) : prow f (j * 7 + k) = pv (f j) k := by
  unfold prow
  rw [show (j * 7 + k) / 7 = j by omega, show (j * 7 + k) % 7 = k by omega]
def srow (b : Nat → Nat) (v : Nat) (h : Nat → Nat) : Nat → Value := fun i => if i % 2 = 0 then .slice (some ⟨b (i / 2), 0, none⟩) v v else .int .i64 ((h (i / 2) : Nat) : Int)
theorem srow_even (b : Nat → Nat) (v : Nat) (h : Nat → Nat) (i : Nat) : srow b v h (i * 2) = .slice (some ⟨b i, 0, none⟩) v v := by
  unfold srow
  rw [if_pos (by omega), show i * 2 / 2 = i by omega]
theorem srow_odd (b : Nat → Nat) (v : Nat) (h : Nat → Nat) (i : Nat) : srow b v h (i * 2 + 1) = .int .i64 ((h i : Nat) : Int) := by
  unfold srow
  rw [if_neg (by omega), show (i * 2 + 1) / 2 = i by omega]
/-- the first of a kind below n -/
def fst (p : Nat → Bool) : Nat → Option Nat
  | 0 => none
  | n + 1 => match fst p n with
    | some j => some j
    | none => if p n then some n else none
theorem fst_none {p : Nat → Bool} : ∀ {n : Nat}, fst p n = none → ∀ i, i < n → p i = false := by
  intro n
  induction n with
  | zero => intro _ i hi; omega
  | succ n ih =>
    intro h i hi
    unfold fst at h
    cases e : fst p n with
    | some k => rw [e] at h; cases h
    | none =>
      rw [e] at h
      by_cases hp : p n = true
      · simp [hp] at h
      · by_cases hi' : i < n
        · exact ih e i hi'
        · obtain rfl : i = n := by omega
          simpa using hp
theorem fst_some {p : Nat → Bool} : ∀ {n j : Nat}, fst p n = some j → j < n ∧ p j = true ∧ ∀ i, i < j → p i = false := by
  intro n
  induction n with
  | zero => intro j h; cases h
  | succ n ih =>
    intro j h
    unfold fst at h
    cases e : fst p n with
    | some k =>
      rw [e] at h
      simp only [Option.some.injEq] at h
      subst h
      have := ih e
      exact ⟨by omega, this.2⟩
    | none =>
      rw [e] at h
      by_cases hp : p n = true
      · simp only [hp, if_true, Option.some.injEq] at h
        subst h
        exact ⟨by omega, hp, fst_none e⟩
      · simp [hp] at h
theorem fst_mk {p : Nat → Bool} {n j : Nat} (hj : j < n) (hp : p j = true) (h : ∀ i, i < j → p i = false) : fst p n = some j := by
  cases e : fst p n with
  | none => have := fst_none e j hj; rw [hp] at this; cases this
  | some k =>
    have := fst_some e
    rcases Nat.lt_trichotomy k j with q | q | q
    · rw [h k q] at this; cases this.2.1
    · rw [q]
    · have := this.2.2 j q; rw [hp] at this; cases this
theorem fst_no {p : Nat → Bool} {n : Nat} (h : ∀ i, i < n → p i = false) : fst p n = none := by
  cases e : fst p n with
  | none => rfl
  | some k =>
    have := fst_some e
    rw [h k this.1] at this
    cases this.2.1
def has (f : Pf) (t : Tr) (j : Nat) : Bool := match f j with
  | some d => decide (d.t = t)
  | none => false
def fre (f : Pf) (j : Nat) : Bool := (f j).isNone
def mkd (f : Pf) (j : Nat) : Bool := match f j with
  | some d => d.mr
  | none => false
theorem has_true {f : Pf} {t : Tr} {j : Nat} (h : has f t j = true) : ∃ d, f j = some d ∧ d.t = t := by
  unfold has at h
  cases e : f j with
  | none => rw [e] at h; cases h
  | some d => rw [e] at h; exact ⟨d, rfl, of_decide_eq_true h⟩
theorem has_of {f : Pf} {t : Tr} {j : Nat} {d : De} (h : f j = some d) (e : d.t = t) : has f t j = true := by
  unfold has; rw [h]; exact decide_eq_true e
theorem has_not {f : Pf} {t : Tr} {j : Nat} (h : has f t j = false) : f j = none ∨ ∃ d, f j = some d ∧ d.t ≠ t := by
  unfold has at h
  cases e : f j with
  | none => exact .inl rfl
  | some d => rw [e] at h; exact .inr ⟨d, rfl, of_decide_eq_false h⟩
theorem mkd_true {f : Pf} {j : Nat} (h : mkd f j = true) : ∃ d, f j = some d ∧ d.mr = true := by
  unfold mkd at h
  cases e : f j with
  | none => rw [e] at h; cases h
  | some d => rw [e] at h; exact ⟨d, rfl, h⟩
/-- its mark is taken away -/
def umk (d : De) : De := ⟨d.t, d.tag, d.al, false⟩
def mrk (d : De) : De := ⟨d.t, d.tag, d.al, true⟩
def unm (f : Pf) (k : Nat) : Pf := fup f k ((f k).map umk)
def nx (v k : Nat) : Nat := if k + 1 = v then 0 else k + 1
theorem nx_lt {v k : Nat} (h : k < v) : nx v k < v := by unfold nx; split <;> omega
theorem nx_mod {v k : Nat} (h : k < v) : (k + 1) % v = nx v k := by
  unfold nx
  split
  · next e => rw [e, Nat.mod_self]
  · exact Nat.mod_eq_of_lt (by omega)
/-- where the hand comes to rest, and what it has left -/
def trn (v : Nat) (f : Pf) (k : Nat) : Nat → Pf × Nat
  | 0 => (f, k)
  | m + 1 => if mkd f k then trn v (unm f k) (nx v k) m else (f, k)
theorem trn_yes {v m : Nat} {f : Pf} {k : Nat} (h : mkd f k = true) : trn v f k (m + 1) = trn v (unm f k) (nx v k) m := by
  show (if mkd f k then _ else _) = _
  rw [if_pos h]
theorem trn_no {v m : Nat} {f : Pf} {k : Nat} (h : mkd f k = false) : trn v f k m = (f, k) := by
  cases m with
  | zero => rfl
  | succ m => show (if mkd f k then _ else _) = _; rw [if_neg (by rw [h]; decide)]
/-- how far a place lies ahead of the hand -/
def dst (v k j : Nat) : Nat := if k ≤ j then j - k else j + v - k
theorem dst_lt {v k j : Nat} (hk : k < v) (hj : j < v) : dst v k j < v := by unfold dst; split <;> omega
theorem dst_nx {v k j : Nat} (hk : k < v) (hj : j < v) (h : j ≠ k) : dst v (nx v k) j + 1 = dst v k j := by
  unfold dst nx
  split <;> split <;> split <;> omega
theorem unm_self (f : Pf) (k : Nat) : mkd (unm f k) k = false := by
  unfold mkd unm
  rw [fup_self]
  cases f k <;> rfl
theorem unm_ne {f : Pf} {k j : Nat} (h : j ≠ k) : unm f k j = f j := fup_ne _ _ h
theorem unm_mkd {f : Pf} {k j : Nat} (h : j ≠ k) : mkd (unm f k) j = mkd f j := by
  unfold mkd; rw [unm_ne h]
theorem trn_inv {v m k : Nat} {f : Pf} (hk : k < v) (h : ∀ j, j < v → mkd f j = true → dst v k j < m + 1) (hm : mkd f k = true) : ∀ j, j < v → mkd (unm f k) j = true → dst v (nx v k) j < m := by
  intro j hj hm'
  by_cases e : j = k
  · subst e; rw [unm_self] at hm'; cases hm'
  · rw [unm_mkd e] at hm'
    have := h j hj hm'
    have := dst_nx hk hj e
    omega
/-- the marks, counted -/
def cnt (f : Pf) : Nat → Nat
  | 0 => 0
  | n + 1 => cnt f n + (if mkd f n then 1 else 0)
theorem cnt_congr {f g : Pf} {n : Nat} (h : ∀ j, j < n → mkd f j = mkd g j) : cnt f n = cnt g n := by
  induction n with
  | zero => rfl
  | succ n ih => unfold cnt; rw [ih (fun j hj => h j (by omega)), h n (by omega)]
theorem cnt_unm {f : Pf} {k : Nat} : ∀ {n : Nat}, k < n → mkd f k = true → cnt (unm f k) n < cnt f n := by
  intro n
  induction n with
  | zero => intro h; omega
  | succ n ih =>
    intro h hm
    unfold cnt
    by_cases e : k = n
    · subst e
      rw [unm_self, hm, cnt_congr (fun j hj => unm_mkd (show j ≠ k by omega))]
      simp
    · have := ih (by omega) hm
      rw [unm_mkd (show n ≠ k by omega)]
      omega
/-- the hash, the set -/
def hsh (t : Tr) : Int := wrap64 (wrap64 (wrap64 (wrap64 (t.s * 31) + t.o) * 31) + t.a)
def spt (n : Nat) (t : Tr) : Nat := (hsh t % (n : Int)).toNat
theorem spt_lt {n : Nat} (h : 0 < n) (t : Tr) : spt n t < n := by
  unfold spt
  have h3 := Int.emod_nonneg (hsh t) (b := (n : Int)) (by omega)
  have h4 := Int.emod_lt_of_pos (hsh t) (b := (n : Int)) (by omega)
  omega
theorem spt_eq {n : Nat} (h : 0 < n) (t : Tr) : ((spt n t : Nat) : Int) = hsh t % (n : Int) := by
  unfold spt
  have h3 := Int.emod_nonneg (hsh t) (b := (n : Int)) (by omega)
  omega
/-- a cache's state -/
structure St where
  f : Nat → Pf
  h : Nat → Nat
  hi : Nat
  mi : Nat
  ev : Nat
def st0 : St := ⟨fun _ _ => none, fun _ => 0, 0, 0, 0⟩
def fup2 (f : Nat → Pf) (i j : Nat) (d : Option De) : Nat → Pf := fup f i (fup (f i) j d)
end C
end Go.Proofs.Ytjmkofdnlhfaiaa
