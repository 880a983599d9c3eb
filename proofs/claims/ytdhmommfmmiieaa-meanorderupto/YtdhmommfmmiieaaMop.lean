import Derived.Test.YtdhmommfmmiieaaOnl
set_option linter.unusedVariables false
set_option linter.unusedSimpArgs false
namespace Go.Proofs.Ytdhmommfmmiieaa
open Go.RowKit Go.Maps
namespace U
/-- what is reached hangs on which pairs there are alone -/
theorem clo_sub {ps qs : List K2} (h : ∀ p, p ∈ ps → p ∈ qs) (z : ByteArray) : ∀ y ∈ N.clo ps z, y ∈ N.clo qs z :=
  N.clo_least (N.clo_self qs z) (fun p hp k => N.clo_closed (h p hp) k)
theorem clo_isIn {ps qs : List K2} (h : ∀ p, p ∈ ps ↔ p ∈ qs) (z y : ByteArray) : isIn (N.clo ps z) y = isIn (N.clo qs z) y := by
  rw [Bool.eq_iff_iff, isIn_mem, isIn_mem]
  exact ⟨fun q => clo_sub (fun p => (h p).1) z y q, fun q => clo_sub (fun p => (h p).2) z y q⟩
/-- the same names, and the same pairs, rules and excepts, in whatever order and however often -/
structure Ord (F J : Pf) : Prop where
  a : J.a.2.2 = F.a.2.2
  s : J.s.2.2 = F.s.2.2
  r : J.r.2.2 = F.r.2.2
  o : J.o.2.2 = F.o.2.2
  g : J.g.2.2 = F.g.2.2
  m : J.m.2.2.length ≤ 2 * F.m.2.2.length ∧ ∀ q, q ∈ J.m.2.2 ↔ q ∈ F.m.2.2
  i : J.i.2.2.length ≤ 2 * F.i.2.2.length ∧ ∀ q, q ∈ J.i.2.2 ↔ q ∈ F.i.2.2
  p : J.p.2.2.length ≤ 2 * F.p.2.2.length ∧ ∀ q, q ∈ J.p.2.2 ↔ q ∈ F.p.2.2
  w : J.w.2.2.length ≤ 2 * F.w.2.2.length ∧ ∀ q, q ∈ J.w.2.2 ↔ q ∈ F.w.2.2
  u : J.u.2.2.length ≤ 2 * F.u.2.2.length ∧ ∀ q, q ∈ J.u.2.2 ↔ q ∈ F.u.2.2
  x : J.x.2.2.length ≤ 2 * F.x.2.2.length ∧ ∀ q, q ∈ J.x.2.2 ↔ q ∈ F.x.2.2
theorem mtc_ord {F J : Pf} (h : Ord F J) (R : Ru) (ts to ta : ByteArray) : mtc J.po R ts to ta = mtc F.po R ts to ta := by
  have e1 : ∀ y, isIn (N.clo (J.m.2.2 ++ J.i.2.2) ts) y = isIn (N.clo (F.m.2.2 ++ F.i.2.2) ts) y := clo_isIn (fun p => by rw [List.mem_append, List.mem_append, h.m.2 p, h.i.2 p]) ts
  have e2 : ∀ y, isIn (N.clo (J.p.2.2 ++ J.w.2.2) to) y = isIn (N.clo (F.p.2.2 ++ F.w.2.2) to) y := clo_isIn (fun p => by rw [List.mem_append, List.mem_append, h.p.2 p, h.w.2 p]) to
  unfold mtc
  simp only [Pf.po, h.a, h.s, h.o, e1, e2]
theorem any_mem {α : Type} {us vs : List α} (h : ∀ q, q ∈ us ↔ q ∈ vs) (f : α → Bool) : us.any f = vs.any f := by
  rw [Bool.eq_iff_iff, List.any_eq_true, List.any_eq_true]
  exact ⟨fun ⟨q, h1, h2⟩ => ⟨q, (h q).1 h1, h2⟩, fun ⟨q, h1, h2⟩ => ⟨q, (h q).2 h1, h2⟩⟩
theorem alw_ord {F J : Pf} (h : Ord F J) (ts to ta : ByteArray) : alw J ts to ta = alw F ts to ta := by
  have e1 : ∀ dn, rany J ts to ta dn J.u.2.2 = rany F ts to ta dn F.u.2.2 := fun dn => by
    unfold rany
    rw [any_mem h.u.2]
    congr 1
    funext R
    unfold rsay
    rw [mtc_ord h]
  unfold alw
  rw [e1, e1, exc_isIn, exc_isIn]
  have e2 : isIn J.x.2.2 (ts, to, ta) = isIn F.x.2.2 (ts, to, ta) := by rw [Bool.eq_iff_iff, isIn_mem, isIn_mem]; exact h.x.2 _
  rw [e2]
theorem rel_ord {F J : Pf} (h : Ord F J) : rel J = rel F := by
  rw [rel_trs, rel_trs]
  have e : J.trs = F.trs := by unfold Pf.trs; rw [h.a, h.s, h.o]
  rw [e]
  apply List.filter_congr
  intro t _
  exact alw_ord h _ _ _
theorem Ord.fine {F J : Pf} {N : Nat} (h : Ord F J) (f : Fine F N) (hm : 2 * (F.m.2.2.length + F.i.2.2.length) ≤ N) (hp : 2 * (F.p.2.2.length + F.w.2.2.length) ≤ N) (hu : 2 * F.u.2.2.length ≤ N) (hx : 2 * F.x.2.2.length ≤ N) : Fine J N where
  n := f.n
  a := by rw [h.a]; exact f.a
  s := by rw [h.s]; exact f.s
  r := by rw [h.r]; exact f.r
  o := by rw [h.o]; exact f.o
  g := by rw [h.g]; exact f.g
  mi := by have := h.m.1; have := h.i.1; omega
  pw := by have := h.p.1; have := h.w.1; omega
  u := by have := h.u.1; omega
  x := by have := h.x.1; omega
  za := by rw [h.a]; exact f.za
  zs := by rw [h.s]; exact f.zs
  zo := by rw [h.o]; exact f.zo
  zm := fun q hq => f.zm q (by rw [List.mem_append] at hq ⊢; rwa [h.m.2, h.i.2] at hq)
  zp := fun q hq => f.zp q (by rw [List.mem_append] at hq ⊢; rwa [h.p.2, h.w.2] at hq)
  zu := fun R hR => f.zu R ((h.u.2 R).1 hR)
  zx := fun t ht => f.zx t ((h.x.2 t).1 ht)
theorem few_ord {F J : Pf} (h : Ord F J) : (fos J.s.2.2).length * ((fo J.o.2.2).length * (fo J.a.2.2).length) = (fos F.s.2.2).length * ((fo F.o.2.2).length * (fo F.a.2.2).length) := by rw [h.a, h.s, h.o]
theorem mem_both {α : Type} {zs l : List α} (h : ∀ q ∈ zs, q ∈ l) (q : α) : q ∈ zs ++ l ↔ q ∈ l := by
  rw [List.mem_append]
  exact ⟨fun k => k.elim (h q) id, .inr⟩
theorem rev_take {α : Type} {l : List α} {i : Nat} {R : α} (h : l[l.length - 1 - i]? = some R) (hi : i < l.length) : l.reverse.take (i + 1) = l.reverse.take i ++ [R] := by
  rw [List.take_add_one, List.getElem?_reverse hi, h]
  rfl
end U
end Go.Proofs.Ytdhmommfmmiieaa
