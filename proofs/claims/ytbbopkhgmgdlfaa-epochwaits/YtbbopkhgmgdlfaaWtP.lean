import Derived.Test.YtbbopkhgmgdlfaaFm
set_option linter.unusedVariables false
set_option linter.unusedSimpArgs false
namespace Go.Proofs.Ytbbopkhgmgdlfaa
namespace Wt
open V
/-- a section, as the statement has seen it and as it is -/
structure Li where
  slot : Nat
  first : Int
  begun : Int
  left : Int
  mark : Int
  read : Int
  md : Int
  sn : Int
/-- a grace period likewise -/
structure Wa where
  first : Int
  steps : Int
  vain : Int
  over : Bool
  put : Int
  old : Int
  si : Int
  nx : Int
structure St where
  ep : Int
  cur : Int
  wd : Nat → Int
  L : List Li
  inn : Nat → Int
  A : List Wa
  turn : Nat → Int
def fup (f : Nat → Int) (k : Nat) (v : Int) : Nat → Int := fun j => if j = k then v else f j
theorem fup_self (f : Nat → Int) (k : Nat) (v : Int) : fup f k v k = v := if_pos rfl
theorem fup_ne (f : Nat → Int) {k j : Nat} (v : Int) (h : j ≠ k) : fup f k v j = f j := if_neg h
/-- what is kept of each section -/
structure LiOk (n : Nat) (ep cur now : Int) (l : Li) : Prop where
  slot : l.slot < n
  first : 0 ≤ l.first ∧ l.first < now
  sn : 1 ≤ l.sn ∧ l.sn ≤ ep
  no : l.begun < 0 → l.begun = -1 ∧ l.md = 1 ∧ l.read = -1 ∧ l.left = -1
  yes : 0 ≤ l.begun → l.md = 2 ∧ l.mark = l.sn ∧ l.first < l.begun ∧ l.begun < now
  read : -1 ≤ l.read ∧ l.read ≤ cur
  left : -1 ≤ l.left ∧ l.left < now
/-- and of each grace period -/
structure WaOk (n : Nat) (ep cur now : Int) (a : Wa) : Prop where
  old : 0 ≤ a.old ∧ a.old < cur
  no : a.first < 0 → a.first = -1 ∧ a.nx = -1 ∧ a.si = 0 ∧ a.steps = 0 ∧ a.vain = 0 ∧ a.over = false
  yes : 0 ≤ a.first → a.first < now ∧ a.si ≤ ep ∧ 0 ≤ a.nx ∧ a.nx ≤ n ∧ a.steps = 1 + a.nx + a.vain ∧ 0 ≤ a.vain ∧ a.steps ≤ now ∧ (a.over = true ↔ a.nx = n)
/-- and of each two -/
structure LwOk (l : Li) (a : Wa) : Prop where
  e : 0 ≤ a.first → (l.first < a.first ∧ l.sn < a.si) ∨ (a.first < l.first ∧ a.si ≤ l.sn)
  r : 0 ≤ a.first → 0 ≤ l.read → l.read ≤ a.old → l.begun < a.first
  p : 0 ≤ a.first → (l.slot : Int) < a.nx → 0 ≤ l.begun → l.begun < a.first → 0 ≤ l.left
structure Inv (n K : Nat) (s : St) (now : Int) : Prop where
  n1 : 1 ≤ n
  ep : 1 ≤ s.ep
  nw : 0 ≤ now
  epb : s.ep ≤ 1000000 + now
  cur : 0 ≤ s.cur ∧ s.cur ≤ now
  li : ∀ (i : Nat) (l : Li), s.L[i]? = some l → LiOk n s.ep s.cur now l
  wa : ∀ (i : Nat) (a : Wa), s.A[i]? = some a → WaOk n s.ep s.cur now a
  lw : ∀ (i j : Nat) (l : Li) (a : Wa), s.L[i]? = some l → s.A[j]? = some a → LwOk l a
  d : ∀ (i j : Nat) (o l : Li), s.L[i]? = some o → s.L[j]? = some l → 0 ≤ o.begun → o.begun < l.first → o.mark ≤ l.sn
  cnt : ∀ (i : Nat) (l : Li), s.L[i]? = some l → l.left < 0 → s.inn l.slot = (i : Nat)
  inn : ∀ (k : Nat), k < n → (s.inn k = -1 ∧ s.wd k = 0) ∨ ∃ (j : Nat) (l : Li), s.inn k = (j : Nat) ∧ s.L[j]? = some l ∧ l.slot = k ∧ l.left < 0 ∧ s.wd k = if l.begun < 0 then 0 else l.mark
  turn : ∀ (k : Nat), k < K → s.turn k = -1 ∨ ∃ (j : Nat) (a : Wa), s.turn k = (j : Nat) ∧ s.A[j]? = some a
variable {n K : Nat} {s : St} {now : Int}
theorem LiOk.mono {ep ep' cur cur' now' : Int} {l : Li} (h : LiOk n ep cur now l) (h1 : ep ≤ ep') (h2 : cur ≤ cur') (h3 : now ≤ now') : LiOk n ep' cur' now' l :=
  ⟨h.slot, ⟨h.first.1, by have := h.first.2; omega⟩, ⟨h.sn.1, by have := h.sn.2; omega⟩, h.no, fun q => by have := h.yes q; exact ⟨this.1, this.2.1, this.2.2.1, by omega⟩, ⟨h.read.1, by have := h.read.2; omega⟩, ⟨h.left.1, by have := h.left.2; omega⟩⟩
theorem WaOk.mono {ep ep' cur cur' now' : Int} {a : Wa} (h : WaOk n ep cur now a) (h1 : ep ≤ ep') (h2 : cur ≤ cur') (h3 : now ≤ now') : WaOk n ep' cur' now' a :=
  ⟨⟨h.old.1, by have := h.old.2; omega⟩, h.no, fun q => by
    obtain ⟨a1, a2, a3, a4, a5, a6, a7, a8⟩ := h.yes q
    exact ⟨by omega, by omega, a3, a4, a5, a6, by omega, a8⟩⟩
/-- a reader enters, and makes its first step -/
def r0 (s : St) (k : Nat) (now : Int) : St := ⟨s.ep, s.cur, s.wd, s.L ++ [⟨k, now, -1, -1, 0, -1, 1, s.ep⟩], fup s.inn k (s.L.length : Nat), s.A, s.turn⟩
theorem inv_r0 (h : Inv n K s now) {k : Nat} (hk : k < n) (hi : s.inn k = -1) : Inv n K (r0 s k now) (now + 1) := by
  have hep := h.ep
  have hc := h.cur
  have hnow := h.nw
  refine ⟨h.n1, h.ep, by omega, by have := h.epb; show s.ep ≤ _; omega, ⟨hc.1, by show s.cur ≤ _; omega⟩, fun i l hl => ?_, fun i a ha => (h.wa i a ha).mono (by show s.ep ≤ s.ep; omega) (by show s.cur ≤ s.cur; omega) (by omega), fun i j l a hl ha => ?_, fun i j o l ho hl h1 h2 => ?_, fun i l hl h1 => ?_, fun q hq => ?_, h.turn⟩
  · rcases add_getO i l hl with ⟨rfl, rfl⟩ | ⟨_, hl⟩
    · exact ⟨hk, ⟨hnow, by show now < now + 1; omega⟩, ⟨hep, by show s.ep ≤ s.ep; omega⟩, fun _ => ⟨rfl, rfl, rfl, rfl⟩, fun q => absurd q (by show ¬ (0 : Int) ≤ -1; omega), ⟨by show (-1 : Int) ≤ -1; omega, by show (-1 : Int) ≤ s.cur; omega⟩, ⟨by show (-1 : Int) ≤ -1; omega, by show (-1 : Int) < now + 1; omega⟩⟩
    · exact (h.li i l hl).mono (by show s.ep ≤ s.ep; omega) (by show s.cur ≤ s.cur; omega) (by omega)
  · rcases add_getO i l hl with ⟨rfl, rfl⟩ | ⟨_, hl⟩
    · refine ⟨fun q => .inr ⟨((h.wa j a ha).yes q).1, ((h.wa j a ha).yes q).2.1⟩, fun _ q => absurd q (by show ¬ (0 : Int) ≤ -1; omega), fun _ _ q => absurd q (by show ¬ (0 : Int) ≤ -1; omega)⟩
    · exact h.lw i j l a hl ha
  · rcases add_getO i o ho with ⟨rfl, rfl⟩ | ⟨_, ho⟩
    · exact absurd h1 (by show ¬ (0 : Int) ≤ -1; omega)
    · rcases add_getO j l hl with ⟨rfl, rfl⟩ | ⟨_, hl⟩
      · have a1 := h.li i o ho
        have := a1.yes h1
        have := a1.sn
        show o.mark ≤ s.ep
        omega
      · exact h.d i j o l ho hl h1 h2
  · rcases add_getO i l hl with ⟨rfl, rfl⟩ | ⟨hlt, hl⟩
    · exact fup_self _ _ _
    · have := h.cnt i l hl h1
      have e : l.slot ≠ k := fun e => by rw [e, hi] at this; omega
      exact (fup_ne _ _ e).trans this
  · by_cases e : q = k
    · subst e
      refine .inr ⟨s.L.length, _, fup_self _ _ _, List.getElem?_concat_length, rfl, by show (-1 : Int) < 0; omega, ?_⟩
      rcases h.inn q hq with ⟨_, h2⟩ | ⟨j, l, h1, _⟩
      · show s.wd q = if (-1 : Int) < 0 then 0 else 0
        rw [h2]; rfl
      · rw [hi] at h1; omega
    · rcases h.inn q hq with ⟨h1, h2⟩ | ⟨j, l, h1, h2, h3⟩
      · exact .inl ⟨(fup_ne _ _ e).trans h1, h2⟩
      · refine .inr ⟨j, l, (fup_ne _ _ e).trans h1, ?_, h3⟩
        show (s.L ++ [_])[j]? = some l
        rw [List.getElem?_append_left (List.getElem?_eq_some_iff.1 h2).1, h2]
/-- it makes its second step -/
def b1 (l : Li) (now : Int) : Li := ⟨l.slot, l.first, now, l.left, l.sn, l.read, 2, l.sn⟩
def r1 (s : St) (k j : Nat) (l : Li) (now : Int) : St := ⟨s.ep, s.cur, fup s.wd k l.sn, s.L.set j (b1 l now), s.inn, s.A, s.turn⟩
theorem inv_r1 (h : Inv n K s now) {k j : Nat} {l : Li} (hk : k < n) (hi : s.inn k = (j : Nat)) (hj : s.L[j]? = some l) (hb : l.begun < 0) : Inv n K (r1 s k j l now) (now + 1) := by
  have hep := h.ep
  have hc := h.cur
  have hnow := h.nw
  have hlt := (List.getElem?_eq_some_iff.1 hj).1
  have hl := h.li j l hj
  have hno := hl.no hb
  have hfi := hl.first
  have hsl : l.slot = k ∧ l.left < 0 := by
    rcases h.inn k hk with ⟨h1, _⟩ | ⟨j', l', h1, h2, h3, h4, _⟩
    · rw [hi] at h1; omega
    · have e : j' = j := by rw [hi] at h1; omega
      subst e; rw [hj] at h2; cases h2; exact ⟨h3, h4⟩
  refine ⟨h.n1, h.ep, by omega, by have := h.epb; show s.ep ≤ _; omega, ⟨hc.1, by show s.cur ≤ _; omega⟩, fun i m hm => ?_, fun i a ha => (h.wa i a ha).mono (by show s.ep ≤ s.ep; omega) (by show s.cur ≤ s.cur; omega) (by omega), fun i i2 m a hm ha => ?_, fun i i2 o m ho hm h1 h2 => ?_, fun i m hm h1 => ?_, fun q hq => ?_, h.turn⟩
  · rcases set_getO hlt i m hm with ⟨rfl, rfl⟩ | ⟨_, hm⟩
    · exact ⟨hl.slot, ⟨hfi.1, by show l.first < now + 1; omega⟩, hl.sn, fun q => absurd q (by show ¬ now < 0; omega), fun _ => ⟨rfl, rfl, hfi.2, by show now < now + 1; omega⟩, hl.read, ⟨hl.left.1, by have := hl.left.2; show l.left < now + 1; omega⟩⟩
    · exact (h.li i m hm).mono (by show s.ep ≤ s.ep; omega) (by show s.cur ≤ s.cur; omega) (by omega)
  · rcases set_getO hlt i m hm with ⟨rfl, rfl⟩ | ⟨_, hm⟩
    · have := h.lw i i2 l a hj ha
      refine ⟨this.e, fun _ q => absurd q (by show ¬ (0 : Int) ≤ l.read; omega), fun q _ _ q2 => ?_⟩
      have := ((h.wa i2 a ha).yes q).1
      have : now < a.first := q2
      omega
    · exact h.lw i i2 m a hm ha
  · rcases set_getO hlt i2 m hm with ⟨rfl, rfl⟩ | ⟨_, hm⟩
    · rcases set_getO hlt i o ho with ⟨_, rfl⟩ | ⟨_, ho⟩
      · show l.sn ≤ l.sn; omega
      · exact h.d i i2 o l ho hj h1 h2
    · rcases set_getO hlt i o ho with ⟨_, rfl⟩ | ⟨_, ho⟩
      · have := (h.li i2 m hm).first
        have : now < m.first := h2
        omega
      · exact h.d i i2 o m ho hm h1 h2
  · rcases set_getO hlt i m hm with ⟨rfl, rfl⟩ | ⟨_, hm⟩
    · exact h.cnt i l hj h1
    · exact h.cnt i m hm h1
  · by_cases e : q = k
    · subst e
      refine .inr ⟨j, _, hi, List.getElem?_set_self hlt, hsl.1, hsl.2, ?_⟩
      show fup s.wd q l.sn q = if now < 0 then 0 else l.sn
      rw [fup_self, if_neg (by omega)]
    · rcases h.inn q hq with ⟨h1, h2⟩ | ⟨j2, l2, h1, h2, h3, h4, h5⟩
      · exact .inl ⟨h1, (fup_ne _ _ e).trans h2⟩
      · have ne : j ≠ j2 := fun z => by subst z; rw [hj] at h2; cases h2; exact e (h3.symm.trans hsl.1)
        refine .inr ⟨j2, l2, h1, ?_, h3, h4, (fup_ne _ _ e).trans h5⟩
        show (s.L.set j _)[j2]? = some l2
        rw [List.getElem?_set_ne ne, h2]
/-- and its mark is at least that of any that began ahead of its first step -/
theorem mark_r1 (h : Inv n K s now) {j : Nat} {l : Li} (hj : s.L[j]? = some l) (hb : l.begun < 0) (i : Nat) (o : Li) (ho : (s.L.set j (b1 l now))[i]? = some o) (h0 : 0 ≤ o.begun) (h1 : o.begun < l.first) : o.mark ≤ l.sn := by
  rcases set_getO (List.getElem?_eq_some_iff.1 hj).1 i o ho with ⟨rfl, rfl⟩ | ⟨_, ho⟩
  · show l.sn ≤ l.sn; omega
  · exact h.d i j o l ho hj h0 h1
/-- it reads the current thing -/
def r2l (l : Li) (v : Int) : Li := ⟨l.slot, l.first, l.begun, l.left, l.mark, v, l.md, l.sn⟩
def r2 (s : St) (j : Nat) (l : Li) : St := ⟨s.ep, s.cur, s.wd, s.L.set j (r2l l s.cur), s.inn, s.A, s.turn⟩
theorem inv_r2 (h : Inv n K s now) {j : Nat} {l : Li} (hj : s.L[j]? = some l) (hb : 0 ≤ l.begun) : Inv n K (r2 s j l) (now + 1) := by
  have hep := h.ep
  have hc := h.cur
  have hnow := h.nw
  have hlt := (List.getElem?_eq_some_iff.1 hj).1
  have hl := h.li j l hj
  refine ⟨h.n1, h.ep, by omega, by have := h.epb; show s.ep ≤ _; omega, ⟨hc.1, by show s.cur ≤ _; omega⟩, fun i m hm => ?_, fun i a ha => (h.wa i a ha).mono (by show s.ep ≤ s.ep; omega) (by show s.cur ≤ s.cur; omega) (by omega), fun i i2 m a hm ha => ?_, fun i i2 o m ho hm h1 h2 => ?_, fun i m hm h1 => ?_, fun q hq => ?_, h.turn⟩
  · rcases set_getO hlt i m hm with ⟨rfl, rfl⟩ | ⟨_, hm⟩
    · have a1 := hl.mono (ep' := s.ep) (cur' := s.cur) (now' := now + 1) (by omega) (by omega) (by omega)
      exact ⟨a1.slot, a1.first, a1.sn, fun q => absurd q (by show ¬ l.begun < 0; omega), a1.yes, ⟨by show -1 ≤ s.cur; omega, by show s.cur ≤ s.cur; omega⟩, a1.left⟩
    · exact (h.li i m hm).mono (by show s.ep ≤ s.ep; omega) (by show s.cur ≤ s.cur; omega) (by omega)
  · rcases set_getO hlt i m hm with ⟨rfl, rfl⟩ | ⟨_, hm⟩
    · have := h.lw i i2 l a hj ha
      refine ⟨this.e, fun q _ q2 => ?_, this.p⟩
      have := (h.wa i2 a ha).old
      have : s.cur ≤ a.old := q2
      omega
    · exact h.lw i i2 m a hm ha
  · rcases set_getO hlt i2 m hm with ⟨_, rfl⟩ | ⟨_, hm2⟩ <;> rcases set_getO hlt i o ho with ⟨_, rfl⟩ | ⟨_, ho2⟩
    · exact h.d _ _ l l hj hj h1 h2
    · exact h.d _ _ o l ho2 hj h1 h2
    · exact h.d _ _ l m hj hm2 h1 h2
    · exact h.d i i2 o m ho2 hm2 h1 h2
  · rcases set_getO hlt i m hm with ⟨rfl, rfl⟩ | ⟨_, hm⟩
    · exact h.cnt i l hj h1
    · exact h.cnt i m hm h1
  · rcases h.inn q hq with ⟨h1, h2⟩ | ⟨j2, l2, h1, h2, h3, h4, h5⟩
    · exact .inl ⟨h1, h2⟩
    · by_cases e : j = j2
      · subst e
        rw [hj] at h2; cases h2
        exact .inr ⟨j, _, h1, List.getElem?_set_self hlt, h3, h4, h5⟩
      · refine .inr ⟨j2, l2, h1, ?_, h3, h4, h5⟩
        show (s.L.set j _)[j2]? = some l2
        rw [List.getElem?_set_ne e, h2]
/-- it leaves -/
def r3l (l : Li) (now : Int) : Li := ⟨l.slot, l.first, l.begun, now, l.mark, l.read, l.md, l.sn⟩
def r3 (s : St) (k j : Nat) (l : Li) (now : Int) : St := ⟨s.ep, s.cur, fup s.wd k 0, s.L.set j (r3l l now), fup s.inn k (-1), s.A, s.turn⟩
theorem inv_r3 (h : Inv n K s now) {k j : Nat} {l : Li} (hk : k < n) (hi : s.inn k = (j : Nat)) (hj : s.L[j]? = some l) (hb : 0 ≤ l.begun) : Inv n K (r3 s k j l now) (now + 1) := by
  have hep := h.ep
  have hc := h.cur
  have hnow := h.nw
  have hlt := (List.getElem?_eq_some_iff.1 hj).1
  have hl := h.li j l hj
  have hsl : l.slot = k ∧ l.left < 0 := by
    rcases h.inn k hk with ⟨h1, _⟩ | ⟨j', l', h1, h2, h3, h4, _⟩
    · rw [hi] at h1; omega
    · have e : j' = j := by rw [hi] at h1; omega
      subst e; rw [hj] at h2; cases h2; exact ⟨h3, h4⟩
  refine ⟨h.n1, h.ep, by omega, by have := h.epb; show s.ep ≤ _; omega, ⟨hc.1, by show s.cur ≤ _; omega⟩, fun i m hm => ?_, fun i a ha => (h.wa i a ha).mono (by show s.ep ≤ s.ep; omega) (by show s.cur ≤ s.cur; omega) (by omega), fun i i2 m a hm ha => ?_, fun i i2 o m ho hm h1 h2 => ?_, fun i m hm h1 => ?_, fun q hq => ?_, h.turn⟩
  · rcases set_getO hlt i m hm with ⟨rfl, rfl⟩ | ⟨_, hm⟩
    · have a1 := hl.mono (ep' := s.ep) (cur' := s.cur) (now' := now + 1) (by omega) (by omega) (by omega)
      exact ⟨a1.slot, a1.first, a1.sn, fun q => absurd q (by show ¬ l.begun < 0; omega), a1.yes, a1.read, ⟨by show -1 ≤ now; omega, by show now < now + 1; omega⟩⟩
    · exact (h.li i m hm).mono (by show s.ep ≤ s.ep; omega) (by show s.cur ≤ s.cur; omega) (by omega)
  · rcases set_getO hlt i m hm with ⟨rfl, rfl⟩ | ⟨_, hm⟩
    · have := h.lw i i2 l a hj ha
      exact ⟨this.e, this.r, fun _ _ _ _ => hnow⟩
    · exact h.lw i i2 m a hm ha
  · rcases set_getO hlt i2 m hm with ⟨_, rfl⟩ | ⟨_, hm2⟩ <;> rcases set_getO hlt i o ho with ⟨_, rfl⟩ | ⟨_, ho2⟩
    · exact h.d _ _ l l hj hj h1 h2
    · exact h.d _ _ o l ho2 hj h1 h2
    · exact h.d _ _ l m hj hm2 h1 h2
    · exact h.d i i2 o m ho2 hm2 h1 h2
  · rcases set_getO hlt i m hm with ⟨rfl, rfl⟩ | ⟨ne, hm⟩
    · exact absurd h1 (by show ¬ now < 0; omega)
    · have := h.cnt i m hm h1
      have e : m.slot ≠ k := fun e => by rw [e, hi] at this; exact ne (by omega)
      exact (fup_ne _ _ e).trans this
  · by_cases e : q = k
    · subst e
      exact .inl ⟨fup_self _ _ _, fup_self _ _ _⟩
    · rcases h.inn q hq with ⟨h1, h2⟩ | ⟨j2, l2, h1, h2, h3, h4, h5⟩
      · exact .inl ⟨(fup_ne _ _ e).trans h1, (fup_ne _ _ e).trans h2⟩
      · have ne : j ≠ j2 := fun z => by subst z; rw [hj] at h2; cases h2; exact e (h3.symm.trans hsl.1)
        refine .inr ⟨j2, l2, (fup_ne _ _ e).trans h1, ?_, h3, h4, (fup_ne _ _ e).trans h5⟩
        show (s.L.set j _)[j2]? = some l2
        rw [List.getElem?_set_ne ne, h2]
/-- a writer puts another thing there -/
def w0 (s : St) (k : Nat) : St := ⟨s.ep, s.cur + 1, s.wd, s.L, s.inn, s.A ++ [⟨-1, 0, 0, false, s.cur + 1, s.cur, 0, -1⟩], fup s.turn k (s.A.length : Nat)⟩
theorem inv_w0 (h : Inv n K s now) {k : Nat} : Inv n K (w0 s k) (now + 1) := by
  have hep := h.ep
  have hc := h.cur
  have hnow := h.nw
  refine ⟨h.n1, h.ep, by omega, by have := h.epb; show s.ep ≤ _; omega, ⟨by show 0 ≤ s.cur + 1; omega, by show s.cur + 1 ≤ _; omega⟩, fun i l hl => (h.li i l hl).mono (by show s.ep ≤ s.ep; omega) (by show s.cur ≤ s.cur + 1; omega) (by omega), fun i a ha => ?_, fun i j l a hl ha => ?_, h.d, h.cnt, h.inn, fun q hq => ?_⟩
  · rcases add_getO i a ha with ⟨rfl, rfl⟩ | ⟨_, ha⟩
    · exact ⟨⟨hc.1, by show s.cur < s.cur + 1; omega⟩, fun _ => ⟨rfl, rfl, rfl, rfl, rfl, rfl⟩, fun q => absurd q (by show ¬ (0 : Int) ≤ -1; omega)⟩
    · exact (h.wa i a ha).mono (by show s.ep ≤ s.ep; omega) (by show s.cur ≤ s.cur + 1; omega) (by omega)
  · rcases add_getO j a ha with ⟨rfl, rfl⟩ | ⟨_, ha⟩
    · exact ⟨fun q => absurd q (by show ¬ (0 : Int) ≤ -1; omega), fun q => absurd q (by show ¬ (0 : Int) ≤ -1; omega), fun q => absurd q (by show ¬ (0 : Int) ≤ -1; omega)⟩
    · exact h.lw i j l a hl ha
  · by_cases e : q = k
    · subst e
      exact .inr ⟨s.A.length, _, fup_self _ _ _, List.getElem?_concat_length⟩
    · rcases h.turn q hq with h1 | ⟨j, a, h1, h2⟩
      · exact .inl ((fup_ne _ _ e).trans h1)
      · refine .inr ⟨j, a, (fup_ne _ _ e).trans h1, ?_⟩
        show (s.A ++ [_])[j]? = some a
        rw [List.getElem?_append_left (List.getElem?_eq_some_iff.1 h2).1, h2]
theorem turn_set (h : Inv n K s now) {j : Nat} {a a' : Wa} (hj : s.A[j]? = some a) (q : Nat) (hq : q < K) : s.turn q = -1 ∨ ∃ (i : Nat) (b : Wa), s.turn q = (i : Nat) ∧ (s.A.set j a')[i]? = some b := by
  have hlt := (List.getElem?_eq_some_iff.1 hj).1
  rcases h.turn q hq with h1 | ⟨i, b, h1, h2⟩
  · exact .inl h1
  · by_cases e : j = i
    · subst e; exact .inr ⟨j, _, h1, List.getElem?_set_self hlt⟩
    · exact .inr ⟨i, b, h1, by rw [List.getElem?_set_ne e, h2]⟩
/-- its grace period's first step -/
def w1a (a : Wa) (ep now : Int) : Wa := ⟨now, 1, 0, false, a.put, a.old, ep + 1, 0⟩
def w1 (s : St) (j : Nat) (a : Wa) (now : Int) : St := ⟨s.ep + 1, s.cur, s.wd, s.L, s.inn, s.A.set j (w1a a s.ep now), s.turn⟩
theorem inv_w1 (h : Inv n K s now) {j : Nat} {a : Wa} (hj : s.A[j]? = some a) : Inv n K (w1 s j a now) (now + 1) := by
  have hep := h.ep
  have hc := h.cur
  have hnow := h.nw
  have hn := h.n1
  have hlt := (List.getElem?_eq_some_iff.1 hj).1
  refine ⟨h.n1, by show 1 ≤ s.ep + 1; omega, by omega, by have := h.epb; show s.ep + 1 ≤ _; omega, ⟨hc.1, by show s.cur ≤ _; omega⟩, fun i l hl => (h.li i l hl).mono (by show s.ep ≤ s.ep + 1; omega) (by show s.cur ≤ s.cur; omega) (by omega), fun i b hb => ?_, fun i i2 l b hl hb => ?_, h.d, h.cnt, h.inn, turn_set h hj⟩
  · rcases set_getO hlt i b hb with ⟨rfl, rfl⟩ | ⟨_, hb⟩
    · refine ⟨(h.wa i a hj).old, fun q => absurd q (by show ¬ now < 0; omega), fun _ => ⟨by show now < now + 1; omega, by show s.ep + 1 ≤ s.ep + 1; omega, by show (0 : Int) ≤ 0; omega, by show (0 : Int) ≤ n; omega, rfl, by show (0 : Int) ≤ 0; omega, by show (1 : Int) ≤ now + 1; omega, ?_⟩⟩
      exact ⟨fun q => (by cases q), fun q => by have : (0 : Int) = n := q; omega⟩
    · exact (h.wa i b hb).mono (by show s.ep ≤ s.ep + 1; omega) (by show s.cur ≤ s.cur; omega) (by omega)
  · rcases set_getO hlt i2 b hb with ⟨rfl, rfl⟩ | ⟨_, hb⟩
    · have hl' := h.li i l hl
      have hf := hl'.first
      have hs := hl'.sn
      refine ⟨fun _ => .inl ⟨hf.2, by show l.sn < s.ep + 1; omega⟩, fun _ q _ => ?_, fun _ q => absurd q (by show ¬ (l.slot : Int) < 0; omega)⟩
      show l.begun < now
      by_cases e : l.begun < 0
      · omega
      · have := hl'.yes (by omega); omega
    · exact h.lw i i2 l b hl hb
/-- it looks at a slot: lets it go, or in vain -/
def ltq (si v : Int) : Bool := decide (v = 0 ∨ si ≤ v)
def w2a (n : Nat) (a : Wa) (v : Int) : Wa := ⟨a.first, a.steps + 1, if ltq a.si v then a.vain else a.vain + 1, if ltq a.si v then decide (a.nx + 1 = n) else false, a.put, a.old, a.si, if ltq a.si v then a.nx + 1 else a.nx⟩
def w2 (n : Nat) (s : St) (j : Nat) (a : Wa) (k : Nat) : St := ⟨s.ep, s.cur, s.wd, s.L, s.inn, s.A.set j (w2a n a (s.wd k)), s.turn⟩
theorem inv_w2 (h : Inv n K s now) {j k : Nat} {a : Wa} (hj : s.A[j]? = some a) (hf : 0 ≤ a.first) (hx : a.nx = (k : Nat)) (hk : k < n) : Inv n K (w2 n s j a k) (now + 1) := by
  have hep := h.ep
  have hc := h.cur
  have hnow := h.nw
  have hn := h.n1
  have hlt := (List.getElem?_eq_some_iff.1 hj).1
  obtain ⟨y1, y2, y3, y4, y5, y6, y7, y8⟩ := (h.wa j a hj).yes hf
  refine ⟨h.n1, h.ep, by omega, by have := h.epb; show s.ep ≤ _; omega, ⟨hc.1, by show s.cur ≤ _; omega⟩, fun i l hl => (h.li i l hl).mono (by show s.ep ≤ s.ep; omega) (by show s.cur ≤ s.cur; omega) (by omega), fun i b hb => ?_, fun i i2 l b hl hb => ?_, h.d, h.cnt, h.inn, turn_set h hj⟩
  · rcases set_getO hlt i b hb with ⟨rfl, rfl⟩ | ⟨_, hb⟩
    · refine ⟨(h.wa i a hj).old, fun q => absurd q (by show ¬ a.first < 0; omega), fun _ => ?_⟩
      unfold w2a
      cases hv : ltq a.si (s.wd k)
      · simp only [Bool.false_eq_true, ↓reduceIte]
        exact ⟨by omega, y2, y3, y4, by omega, by omega, by omega, ⟨fun q => (by cases q), fun q => by omega⟩⟩
      · simp only [↓reduceIte]
        exact ⟨by omega, y2, by omega, by omega, by omega, by omega, by omega, by rw [decide_eq_true_iff]⟩
    · exact (h.wa i b hb).mono (by show s.ep ≤ s.ep; omega) (by show s.cur ≤ s.cur; omega) (by omega)
  · rcases set_getO hlt i2 b hb with ⟨rfl, rfl⟩ | ⟨_, hb⟩
    · have h0 := h.lw i i2 l a hl hj
      refine ⟨h0.e, h0.r, fun _ q1 q2 q3 => ?_⟩
      have q3' : l.begun < a.first := q3
      have q1' : (l.slot : Int) < if ltq a.si (s.wd k) then a.nx + 1 else a.nx := q1
      cases hv : ltq a.si (s.wd k)
      · rw [hv] at q1'
        exact h0.p hf q1' q2 q3'
      · rw [hv, if_pos rfl] at q1'
        by_cases e : (l.slot : Int) < a.nx
        · exact h0.p hf e q2 q3'
        · have es : l.slot = k := by omega
          by_cases hle : 0 ≤ l.left
          · exact hle
          · exfalso
            have hin := h.cnt i l hl (by omega)
            have hl' := h.li i l hl
            have hy := hl'.yes q2
            have hsn := hl'.sn
            rcases h.inn k hk with ⟨h1, _⟩ | ⟨j2, l2, h1, h2, h3, h4, h5⟩
            · rw [es, h1] at hin; omega
            · have e2 : j2 = i := by rw [es, h1] at hin; omega
              subst e2
              have e3 : l2 = l := Option.some.inj (h2.symm.trans hl)
              subst e3
              rw [if_neg (by omega)] at h5
              have hv' : s.wd k = 0 ∨ a.si ≤ s.wd k := of_decide_eq_true hv
              rcases h0.e hf with ⟨_, z⟩ | ⟨z, _⟩ <;> omega
    · exact h.lw i i2 l b hl hb
/-- (b): in vain only where a section in the slot made its first step ahead of the period's -/
theorem held_w2 (h : Inv n K s now) {j k : Nat} {a : Wa} (hj : s.A[j]? = some a) (hf : 0 ≤ a.first) (hk : k < n) (hv : ltq a.si (s.wd k) = false) : ∃ (i : Nat) (l : Li), s.inn k = (i : Nat) ∧ s.L[i]? = some l ∧ 0 ≤ l.begun ∧ l.first < a.first := by
  have hv' : ¬ (s.wd k = 0 ∨ a.si ≤ s.wd k) := of_decide_eq_false hv
  rcases h.inn k hk with ⟨_, h1⟩ | ⟨i, l, h1, h2, h3, h4, h5⟩
  · exact absurd (.inl h1) hv'
  · have hb : 0 ≤ l.begun := by
      by_cases e : l.begun < 0
      · rw [if_pos e] at h5; exact absurd (.inl h5) hv'
      · omega
    rw [if_neg (by omega)] at h5
    refine ⟨i, l, h1, h2, hb, ?_⟩
    have := (h.li i l h2).yes hb
    rcases (h.lw i j l a h2 hj).e hf with ⟨z, _⟩ | ⟨_, z⟩
    · exact z
    · exact absurd (.inr (by omega)) hv'
/-- (a): behind the end -/
theorem passed_w2 (h : Inv n K s now) {j : Nat} {a : Wa} (hj : s.A[j]? = some a) (hf : 0 ≤ a.first) (hx : a.nx = (n : Nat)) (i : Nat) (l : Li) (hl : s.L[i]? = some l) (hle : l.left < 0) : ¬ (0 ≤ l.begun ∧ l.begun < a.first) ∧ l.read ≠ a.old := by
  have h0 := h.lw i j l a hl hj
  have h1 := h.li i l hl
  have hs := h1.slot
  have key : ¬ (0 ≤ l.begun ∧ l.begun < a.first) := fun q => by
    have := h0.p hf (by rw [hx]; omega) q.1 q.2
    omega
  refine ⟨key, fun e => ?_⟩
  have ho := (h.wa j a hj).old
  have hr := h0.r hf (by omega) (by omega)
  by_cases hb : l.begun < 0
  · have := h1.no hb; omega
  · exact key ⟨by omega, hr⟩
end Wt
end Go.Proofs.Ytbbopkhgmgdlfaa
