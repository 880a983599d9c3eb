import Derived.Test.YtjmkofdnlhfaiaaRm1
import Derived.Test.YtjmkofdnlhfaiaaAvW
set_option linter.unusedVariables false
set_option linter.unusedSimpArgs false
namespace Go.Proofs.Ytjmkofdnlhfaiaa
open Go.RowKit
namespace C
/-- a decision of the document's list -/
structure Dc where
  i : Nat
  j : Nat
  d : De
def Dc.cells (x : Dc) : List Value := [.int .i64 (x.i : Nat), .int .i64 (x.j : Nat), .int .i64 x.d.t.s, .int .i64 x.d.t.o, .int .i64 x.d.t.a, .int .i64 x.d.tag, .bool x.d.al, .bool x.d.mr]
def dcl (L : List Dc) : List Value := L.flatMap Dc.cells
theorem dcl_add (L : List Dc) (x : Dc) : dcl (L ++ [x]) = dcl L ++ x.cells := by
  unfold dcl
  rw [List.flatMap_append]
  simp
theorem dcl_at : ∀ (L : List Dc) (k r : Nat) (z : Dc), r < 8 → L[k]? = some z → (dcl L)[k * 8 + r]? = z.cells[r]? := by
  intro L
  induction L with
  | nil => intro k r z _ h; simp at h
  | cons a t ih =>
    intro k r z hr h
    rw [show dcl (a :: t) = a.cells ++ dcl t from rfl]
    have hl : a.cells.length = 8 := rfl
    cases k with
    | zero =>
      simp only [List.getElem?_cons_zero, Option.some.injEq] at h
      subst h
      rw [Nat.zero_mul, Nat.zero_add, List.getElem?_append_left (by omega)]
    | succ k =>
      rw [List.getElem?_cons_succ] at h
      rw [List.getElem?_append_right (by omega), hl, show (k + 1) * 8 + r - 8 = k * 8 + r by omega]
      exact ih k r z hr h
theorem dcl_len (L : List Dc) : (dcl L).length = L.length * 8 := by
  induction L with
  | nil => rfl
  | cons a t ih => rw [show dcl (a :: t) = a.cells ++ dcl t from rfl, List.length_append, ih, List.length_cons]; show 8 + _ = _; omega
/-- an entry is written over -/
theorem dcl_set : ∀ (L : List Dc) (k r : Nat) (z z' : Dc) (u : Value), r < 8 → L[k]? = some z → z.cells.set r u = z'.cells → (dcl L).set (k * 8 + r) u = dcl (L.set k z') := by
  intro L
  induction L with
  | nil => intro k r z z' u _ h; simp at h
  | cons a t ih =>
    intro k r z z' u hr h hz
    rw [show dcl (a :: t) = a.cells ++ dcl t from rfl]
    have hl : a.cells.length = 8 := rfl
    cases k with
    | zero =>
      simp only [List.getElem?_cons_zero, Option.some.injEq] at h
      subst h
      rw [Nat.zero_mul, Nat.zero_add, List.set_append_left _ _ (by omega), hz]
      rfl
    | succ k =>
      rw [List.getElem?_cons_succ] at h
      rw [List.set_append_right _ _ (by omega), hl, show (k + 1) * 8 + r - 8 = k * 8 + r by omega, ih k r z z' u hr h hz]
      rfl
/-- a list that says what a cache holds -/
structure Lr (n v : Nat) (s : St) (L : List Dc) : Prop where
  mem : ∀ i j d, i < n → j < v → (s.f i j = some d ↔ (⟨i, j, d⟩ : Dc) ∈ L)
  rng : ∀ x, x ∈ L → x.i < n ∧ x.j < v
  inj : ∀ (k k' : Nat) (x x' : Dc), L[k]? = some x → L[k']? = some x' → x.i = x'.i → x.j = x'.j → k = k'
  spot : ∀ x, x ∈ L → spt n x.d.t = x.i
  uniq : ∀ i j j' d d', i < n → j < v → j' < v → s.f i j = some d → s.f i j' = some d' → d.t = d'.t → j = j'
variable {n v : Nat} {s : St} {L : List Dc}
theorem lr0 : Lr n v st0 [] := ⟨fun i j d _ _ => ⟨(fun h => by cases h), (fun h => by cases h)⟩, (fun x h => by cases h), (fun k k' x x' h => by simp at h), (fun x h => by cases h), (fun i j j' d d' _ _ _ h => by cases h)⟩
theorem Lr.at (h : Lr n v s L) {k : Nat} {x : Dc} (hx : L[k]? = some x) : s.f x.i x.j = some x.d ∧ x.i < n ∧ x.j < v := by
  have hm := List.mem_of_getElem? hx
  have hr := h.rng x hm
  exact ⟨(h.mem x.i x.j x.d hr.1 hr.2).2 hm, hr⟩
/-- one triple stands once -/
theorem Lr.one (h : Lr n v s L) {k k' : Nat} {x x' : Dc} (hx : L[k]? = some x) (hx' : L[k']? = some x') (ht : x.d.t = x'.d.t) : k = k' := by
  obtain ⟨a1, a2, a3⟩ := h.at hx
  obtain ⟨b1, b2, b3⟩ := h.at hx'
  have e1 := h.spot x (List.mem_of_getElem? hx)
  have e2 := h.spot x' (List.mem_of_getElem? hx')
  have ei : x.i = x'.i := by rw [← e1, ← e2, ht]
  refine h.inj k k' x x' hx hx' ei ?_
  rw [← ei] at b1
  exact h.uniq x.i x.j x'.j x.d x'.d a2 a3 b3 a1 b1 ht
/-- where a triple stands in the list -/
def ofp (L : List Dc) (t : Tr) (k : Nat) : Bool := match L[k]? with
  | some x => decide (x.d.t = t)
  | none => false
def inp (L : List Dc) (i j : Nat) (k : Nat) : Bool := match L[k]? with
  | some x => decide (x.i = i ∧ x.j = j)
  | none => false
def idx : Option Nat → Int
  | some k => (k : Int)
  | none => -1
/-- the program's place and the document's -/
theorem Lr.of_none (h : Lr n v s L) (hn : 1 ≤ n) {t : Tr} (hf : fst (has (s.f (spt n t)) t) v = none) : fst (ofp L t) L.length = none := fst_no (fun k hk => by
  obtain ⟨x, hx⟩ : ∃ x, L[k]? = some x := ⟨_, List.getElem?_eq_getElem hk⟩
  unfold ofp
  rw [hx]
  refine decide_eq_false (fun e => ?_)
  obtain ⟨a1, a2, a3⟩ := h.at hx
  have e1 := h.spot x (List.mem_of_getElem? hx)
  rw [e] at e1
  rw [← e1] at a1
  have := fst_none hf x.j a3
  rw [has_of a1 e] at this
  cases this)
theorem Lr.of_some (h : Lr n v s L) (hn : 1 ≤ n) {t : Tr} {j : Nat} {d : De} (hf : fst (has (s.f (spt n t)) t) v = some j) (hd : s.f (spt n t) j = some d) : d.t = t ∧ j < v ∧ ∃ k, fst (ofp L t) L.length = some k ∧ L[k]? = some ⟨spt n t, j, d⟩ := by
  obtain ⟨hj, hh, _⟩ := fst_some hf
  obtain ⟨d', hd', ht⟩ := has_true hh
  rw [hd] at hd'
  cases hd'
  have hm := (h.mem _ j d (spt_lt hn t) hj).1 hd
  obtain ⟨k, hk⟩ := List.getElem?_of_mem hm
  have hkl := (List.getElem?_eq_some_iff.1 hk).1
  refine ⟨ht, hj, k, fst_mk hkl (by unfold ofp; rw [hk]; exact decide_eq_true ht) (fun i hi => ?_), hk⟩
  obtain ⟨x, hx⟩ : ∃ x, L[i]? = some x := ⟨_, List.getElem?_eq_getElem (by omega)⟩
  unfold ofp
  rw [hx]
  refine decide_eq_false (fun e => ?_)
  have := h.one hx hk (by rw [e]; exact ht.symm)
  omega
theorem Lr.in_none (h : Lr n v s L) {i j : Nat} (hi : i < n) (hj : j < v) (hf : s.f i j = none) : fst (inp L i j) L.length = none := fst_no (fun k hk => by
  obtain ⟨x, hx⟩ : ∃ x, L[k]? = some x := ⟨_, List.getElem?_eq_getElem hk⟩
  unfold inp
  rw [hx]
  refine decide_eq_false (fun e => ?_)
  obtain ⟨a1, _, _⟩ := h.at hx
  rw [e.1, e.2, hf] at a1
  cases a1)
theorem Lr.in_some (h : Lr n v s L) {i j : Nat} {d : De} (hi : i < n) (hj : j < v) (hf : s.f i j = some d) : ∃ k, fst (inp L i j) L.length = some k ∧ L[k]? = some ⟨i, j, d⟩ := by
  have hm := (h.mem i j d hi hj).1 hf
  obtain ⟨k, hk⟩ := List.getElem?_of_mem hm
  have hkl := (List.getElem?_eq_some_iff.1 hk).1
  refine ⟨k, fst_mk hkl (by unfold inp; rw [hk]; exact decide_eq_true ⟨rfl, rfl⟩) (fun q hq => ?_), hk⟩
  obtain ⟨x, hx⟩ : ∃ x, L[q]? = some x := ⟨_, List.getElem?_eq_getElem (by omega)⟩
  unfold inp
  rw [hx]
  refine decide_eq_false (fun e => ?_)
  have := h.inj q k x _ hx hk e.1 e.2
  omega
theorem mem_set {L : List Dc} {k : Nat} {x : Dc} (hk : k < L.length) (z : Dc) : z ∈ L.set k x ↔ z = x ∨ ∃ q, q ≠ k ∧ L[q]? = some z := by
  constructor
  · intro h
    obtain ⟨q, hq⟩ := List.getElem?_of_mem h
    by_cases e : q = k
    · subst e
      rw [List.getElem?_set_self hk] at hq
      exact .inl (Option.some.inj hq).symm
    · rw [List.getElem?_set_ne (fun z => e z.symm)] at hq
      exact .inr ⟨q, e, hq⟩
  · rintro (h | ⟨q, h1, h2⟩)
    · subst h
      exact List.mem_of_getElem? (i := k) (List.getElem?_set_self hk)
    · exact List.mem_of_getElem? (i := q) (by rw [List.getElem?_set_ne (fun z => h1 z.symm)]; exact h2)
/-- an entry changes, its place stays; its triple stays, or is new -/
theorem Lr.set (h : Lr n v s L) (hn : 1 ≤ n) {k : Nat} {x : Dc} (hx : L[k]? = some x) (d' : De) (hs : spt n d'.t = x.i) (hu : ∀ j d, j < v → j ≠ x.j → s.f x.i j = some d → d.t ≠ d'.t) {s' : St} (hf : ∀ i j, i < n → j < v → s'.f i j = if i = x.i ∧ j = x.j then some d' else s.f i j) : Lr n v s' (L.set k ⟨x.i, x.j, d'⟩) := by
  have hkl := (List.getElem?_eq_some_iff.1 hx).1
  obtain ⟨a1, a2, a3⟩ := h.at hx
  refine ⟨fun i j d hi hj => ?_, fun z hz => ?_, fun q q' z z' hz hz' e1 e2 => ?_, fun z hz => ?_, fun i j j' d e hi hj hj' h1 h2 ht => ?_⟩
  · rw [hf i j hi hj, mem_set hkl]
    by_cases e : i = x.i ∧ j = x.j
    · rw [if_pos e]
      constructor
      · intro q; cases q; left; rw [e.1, e.2]
      · rintro (q | ⟨q, hq, hz⟩)
        · cases q; rfl
        · exact absurd (h.inj q k _ x hz hx e.1 e.2) hq
    · rw [if_neg e, h.mem i j d hi hj]
      constructor
      · intro q
        obtain ⟨r, hr⟩ := List.getElem?_of_mem q
        refine .inr ⟨r, fun z => e ?_, hr⟩
        subst z
        rw [hx] at hr
        cases hr
        exact ⟨rfl, rfl⟩
      · rintro (q | ⟨q, hq, hz⟩)
        · cases q; exact absurd ⟨rfl, rfl⟩ e
        · exact List.mem_of_getElem? hz
  · rcases (mem_set hkl z).1 hz with q | ⟨q, hq, hz⟩
    · rw [q]; exact ⟨a2, a3⟩
    · exact h.rng z (List.mem_of_getElem? hz)
  · have key : ∀ (q : Nat) (z : Dc), (L.set k ⟨x.i, x.j, d'⟩)[q]? = some z → ∃ y, L[q]? = some y ∧ y.i = z.i ∧ y.j = z.j := fun q z hz => by
      by_cases e : q = k
      · subst e
        rw [List.getElem?_set_self hkl] at hz
        cases hz
        exact ⟨x, hx, rfl, rfl⟩
      · rw [List.getElem?_set_ne (fun z => e z.symm)] at hz
        exact ⟨z, hz, rfl, rfl⟩
    obtain ⟨y, hy, y1, y2⟩ := key q z hz
    obtain ⟨y', hy', y1', y2'⟩ := key q' z' hz'
    exact h.inj q q' y y' hy hy' (by rw [y1, y1', e1]) (by rw [y2, y2', e2])
  · rcases (mem_set hkl z).1 hz with q | ⟨q, hq, hz⟩
    · rw [q]; exact hs
    · exact h.spot z (List.mem_of_getElem? hz)
  · rw [hf i j hi hj] at h1
    rw [hf i j' hi hj'] at h2
    by_cases q1 : i = x.i ∧ j = x.j
    · by_cases q2 : i = x.i ∧ j' = x.j
      · rw [q1.2, q2.2]
      · rw [if_pos q1] at h1
        rw [if_neg q2] at h2
        cases h1
        rw [q1.1] at h2
        exact absurd ht.symm (hu j' e hj' (fun z => q2 ⟨q1.1, z⟩) h2)
    · rw [if_neg q1] at h1
      by_cases q2 : i = x.i ∧ j' = x.j
      · rw [if_pos q2] at h2
        cases h2
        rw [q2.1] at h1
        exact absurd ht (hu j d hj (fun z => q1 ⟨q2.1, z⟩) h1)
      · rw [if_neg q2] at h2
        exact h.uniq i j j' d e hi hj hj' h1 h2 ht
theorem Lr.add (h : Lr n v s L) {i j : Nat} (hi : i < n) (hj : j < v) (hfree : s.f i j = none) (d' : De) (hs : spt n d'.t = i) (hu : ∀ j d, j < v → s.f i j = some d → d.t ≠ d'.t) {s' : St} (hf : ∀ i' j', i' < n → j' < v → s'.f i' j' = if i' = i ∧ j' = j then some d' else s.f i' j') : Lr n v s' (L ++ [⟨i, j, d'⟩]) := by
  have nox : ∀ x, x ∈ L → ¬ (x.i = i ∧ x.j = j) := fun x hx e => by
    have hr := h.rng x hx
    have := (h.mem x.i x.j x.d hr.1 hr.2).2 hx
    rw [e.1, e.2, hfree] at this
    cases this
  refine ⟨fun i' j' d hi' hj' => ?_, fun z hz => ?_, fun q q' z z' hz hz' e1 e2 => ?_, fun z hz => ?_, fun i' j1 j2 d e hi' h1 h2 f1 f2 ht => ?_⟩
  · rw [hf i' j' hi' hj', List.mem_append, List.mem_singleton]
    by_cases e : i' = i ∧ j' = j
    · rw [if_pos e]
      constructor
      · intro q; cases q; right; rw [e.1, e.2]
      · rintro (q | q)
        · exact absurd e (nox _ q)
        · cases q; rfl
    · rw [if_neg e, h.mem i' j' d hi' hj']
      constructor
      · exact fun q => .inl q
      · rintro (q | q)
        · exact q
        · cases q; exact absurd ⟨rfl, rfl⟩ e
  · rcases List.mem_append.1 hz with q | q
    · exact h.rng z q
    · rw [List.mem_singleton.1 q]; exact ⟨hi, hj⟩
  · have hq := (List.getElem?_eq_some_iff.1 hz).1
    have hq' := (List.getElem?_eq_some_iff.1 hz').1
    rw [List.length_append, List.length_singleton] at hq hq'
    by_cases a : q < L.length
    · rw [List.getElem?_append_left a] at hz
      by_cases a' : q' < L.length
      · rw [List.getElem?_append_left a'] at hz'
        exact h.inj q q' z z' hz hz' e1 e2
      · have : q' = L.length := by omega
        subst this
        rw [List.getElem?_concat_length] at hz'
        cases hz'
        exact absurd ⟨e1, e2⟩ (nox z (List.mem_of_getElem? hz))
    · have : q = L.length := by omega
      subst this
      rw [List.getElem?_concat_length] at hz
      cases hz
      by_cases a' : q' < L.length
      · rw [List.getElem?_append_left a'] at hz'
        exact absurd ⟨e1.symm, e2.symm⟩ (nox z' (List.mem_of_getElem? hz'))
      · omega
  · rcases List.mem_append.1 hz with q | q
    · exact h.spot z q
    · rw [List.mem_singleton.1 q]; exact hs
  · rw [hf i' j1 hi' h1] at f1
    rw [hf i' j2 hi' h2] at f2
    by_cases q1 : i' = i ∧ j1 = j
    · by_cases q2 : i' = i ∧ j2 = j
      · rw [q1.2, q2.2]
      · rw [if_pos q1] at f1
        rw [if_neg q2] at f2
        cases f1
        rw [q1.1] at f2
        exact absurd ht.symm (hu j2 e h2 f2)
    · rw [if_neg q1] at f1
      by_cases q2 : i' = i ∧ j2 = j
      · rw [if_pos q2] at f2
        cases f2
        rw [q2.1] at f1
        exact absurd ht (hu j1 d h1 f1)
      · rw [if_neg q2] at f2
        exact h.uniq i' j1 j2 d e hi' h1 h2 f1 f2 ht
theorem get_erase {L : List Dc} {k q : Nat} : (L.eraseIdx k)[q]? = if q < k then L[q]? else L[q + 1]? := by
  rw [List.getElem?_eraseIdx]
theorem Lr.drop (h : Lr n v s L) {k : Nat} {x : Dc} (hx : L[k]? = some x) {s' : St} (hf : ∀ i j, i < n → j < v → s'.f i j = if i = x.i ∧ j = x.j then none else s.f i j) : Lr n v s' (L.eraseIdx k) := by
  obtain ⟨a1, a2, a3⟩ := h.at hx
  have key : ∀ (q : Nat) (z : Dc), (L.eraseIdx k)[q]? = some z → ∃ r, r ≠ k ∧ L[r]? = some z ∧ r = (if q < k then q else q + 1) := fun q z hz => by
    rw [get_erase] at hz
    by_cases e : q < k
    · rw [if_pos e] at hz; exact ⟨q, by omega, hz, by rw [if_pos e]⟩
    · rw [if_neg e] at hz; exact ⟨q + 1, by omega, hz, by rw [if_neg e]⟩
  have mem' : ∀ z, z ∈ L.eraseIdx k ↔ ∃ r, r ≠ k ∧ L[r]? = some z := fun z => by
    constructor
    · intro hz
      obtain ⟨q, hq⟩ := List.getElem?_of_mem hz
      obtain ⟨r, h1, h2, _⟩ := key q z hq
      exact ⟨r, h1, h2⟩
    · rintro ⟨r, h1, h2⟩
      by_cases e : r < k
      · exact List.mem_of_getElem? (i := r) (by rw [get_erase, if_pos e]; exact h2)
      · exact List.mem_of_getElem? (i := r - 1) (by rw [get_erase, if_neg (by omega), show r - 1 + 1 = r by omega]; exact h2)
  refine ⟨fun i j d hi hj => ?_, fun z hz => ?_, fun q q' z z' hz hz' e1 e2 => ?_, fun z hz => ?_, fun i j j' d e hi hj hj' h1 h2 ht => ?_⟩
  · rw [hf i j hi hj, mem']
    by_cases e : i = x.i ∧ j = x.j
    · rw [if_pos e]
      refine ⟨(fun q => by cases q), fun ⟨r, h1, h2⟩ => absurd (h.inj r k _ x h2 hx e.1 e.2) h1⟩
    · rw [if_neg e, h.mem i j d hi hj]
      constructor
      · intro q
        obtain ⟨r, hr⟩ := List.getElem?_of_mem q
        refine ⟨r, fun z => e ?_, hr⟩
        subst z
        rw [hx] at hr
        cases hr
        exact ⟨rfl, rfl⟩
      · rintro ⟨r, _, h2⟩; exact List.mem_of_getElem? h2
  · obtain ⟨r, _, h2⟩ := (mem' z).1 hz
    exact h.rng z (List.mem_of_getElem? h2)
  · obtain ⟨r, h1, h2, h3⟩ := key q z hz
    obtain ⟨r', h1', h2', h3'⟩ := key q' z' hz'
    have := h.inj r r' z z' h2 h2' e1 e2
    rw [h3, h3'] at this
    by_cases a : q < k
    · rw [if_pos a] at this
      by_cases a' : q' < k
      · rw [if_pos a'] at this; exact this
      · rw [if_neg a'] at this; omega
    · rw [if_neg a] at this
      by_cases a' : q' < k
      · rw [if_pos a'] at this; omega
      · rw [if_neg a'] at this; omega
  · obtain ⟨r, _, h2⟩ := (mem' z).1 hz
    exact h.spot z (List.mem_of_getElem? h2)
  · rw [hf i j hi hj] at h1
    rw [hf i j' hi hj'] at h2
    split at h1
    · cases h1
    · split at h2
      · cases h2
      · exact h.uniq i j j' d e hi hj hj' h1 h2 ht
end C
end Go.Proofs.Ytjmkofdnlhfaiaa
