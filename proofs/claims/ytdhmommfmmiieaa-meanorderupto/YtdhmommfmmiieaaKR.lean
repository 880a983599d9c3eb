import Derived.Test.YtdhmommfmmiieaaKQ
import Derived.Deep.RegionHeld3
set_option linter.unusedVariables false
set_option linter.unusedSimpArgs false
namespace Go.Proofs.Ytdhmommfmmiieaa
open Go.RowKit Go.Maps
namespace U
/-- a rule, but for where its actions lie -/
def Ru.core (R : Ru) : Ru := { R with ro := none, rc := 0 }
theorem kindQ {B : Nat} {no : Option Addr} {ncap : Nat} {zs : List K2} {w : World} (h : Q.RowI B no ncap zs w) {j : Nat} (q : Q.At no j) : ∃ cur, w.heap[j]? = some (.cells cur 98 (0, 0)) := by
  obtain ⟨a, e, rfl⟩ := q
  rcases h.2 with ⟨hv, _⟩ | ⟨g, c, cur, hv, _, hg, _⟩
  · rw [e] at hv; cases hv
  · simp only [Value.slice.injEq] at hv; rw [hv.1] at e; cases e; exact ⟨cur, hg⟩
/-- only structs and rules are turned -/
def Soft2 (Z : Nat → Prop) (V : World) : Prop := ∀ j, Z j → ∃ c t, V.heap[j]? = some (.cells c t (0, 0)) ∧ (t = 34 ∨ t = 27)
theorem Soft2.ne {Z : Nat → Prop} {V : World} (h : Soft2 Z V) {j : Nat} {c : Array Value} {t : Nat} (q : V.heap[j]? = some (.cells c t (0, 0))) (h34 : t ≠ 34) (h27 : t ≠ 27) : ¬ Z j := fun r => by
  obtain ⟨c', t', k, e⟩ := h j r
  rcases e with rfl | rfl
  · exact cells_ne q k h34 rfl
  · exact cells_ne q k h27 rfl
/-- a policy in rows of one's own, but for the row of its rules -/
structure Rest (B : Nat) (J : Pf) (V : World) : Prop where
  a : S.RowI B J.a.1 J.a.2.1 J.a.2.2 V
  s : T.RowI B J.s.1 J.s.2.1 J.s.2.2 V
  r : S.RowI B J.r.1 J.r.2.1 J.r.2.2 V
  o : S.RowI B J.o.1 J.o.2.1 J.o.2.2 V
  g : S.RowI B J.g.1 J.g.2.1 J.g.2.2 V
  m : Q.RowI B J.m.1 J.m.2.1 J.m.2.2 V
  i : Q.RowI B J.i.1 J.i.2.1 J.i.2.2 V
  p : Q.RowI B J.p.1 J.p.2.1 J.p.2.2 V
  w : Q.RowI B J.w.1 J.w.2.1 J.w.2.2 V
  ur : ∀ R ∈ J.u.2.2, S.RowI B R.ro R.rc R.rl V ∧ (∃ b, R.d = .bool b) ∧ R.rl.length ≤ 1048576
  x : X.RowI B J.x.1 J.x.2.1 J.x.2.2 V
theorem srow_soft {B : Nat} {o : Option Addr} {c : Nat} {l : List ByteArray} {V V' : World} {Z : Nat → Prop} (h : S.RowI B o c l V) (t : Turn Z V V') (hT : Soft2 Z V) : S.RowI B o c l V' := h.turn t (fun j q => by obtain ⟨cur, k⟩ := kindS h q; exact hT.ne k (by decide) (by decide))
theorem trow_soft {B : Nat} {o : Option Addr} {c : Nat} {l : List Sb} {V V' : World} {Z : Nat → Prop} (h : T.RowI B o c l V) (t : Turn Z V V') (hT : Soft2 Z V) : T.RowI B o c l V' := h.turn t (fun j q => by obtain ⟨cur, k⟩ := kindT h q; exact hT.ne k (by decide) (by decide))
theorem qrow_soft {B : Nat} {o : Option Addr} {c : Nat} {l : List K2} {V V' : World} {Z : Nat → Prop} (h : Q.RowI B o c l V) (t : Turn Z V V') (hT : Soft2 Z V) : Q.RowI B o c l V' := h.turn t (fun j q => by obtain ⟨cur, k⟩ := kindQ h q; exact hT.ne k (by decide) (by decide))
theorem xrow_soft {B : Nat} {o : Option Addr} {c : Nat} {l : List X.K3} {V V' : World} {Z : Nat → Prop} (h : X.RowI B o c l V) (t : Turn Z V V') (hT : Soft2 Z V) : X.RowI B o c l V' := h.turn t (fun j q => by obtain ⟨cur, k⟩ := kindX h j q; exact hT.ne k (by decide) (by decide))
theorem Rest.turn {B : Nat} {J : Pf} {V V' : World} {Z : Nat → Prop} (h : Rest B J V) (t : Turn Z V V') (hT : Soft2 Z V) : Rest B J V' :=
  ⟨srow_soft h.a t hT, trow_soft h.s t hT, srow_soft h.r t hT, srow_soft h.o t hT, srow_soft h.g t hT, qrow_soft h.m t hT, qrow_soft h.i t hT, qrow_soft h.p t hT, qrow_soft h.w t hT, fun R hR => ⟨srow_soft (h.ur R hR).1 t hT, (h.ur R hR).2⟩, xrow_soft h.x t hT⟩
theorem Rest.below {B : Nat} {J : Pf} {V V' : World} (h : Rest B J V) (t : Below V.heap.size V V') : Rest B J V' := h.turn (turn_below (S := fun _ => False) t) (fun _ q => q.elim)
abbrev URow (B : Nat) (J : Pf) (V : World) : Prop := G.RowI 27 6 B J.u.1 J.u.2.1 (J.u.2.2.map Ru.cells) V
/-- a policy in the making, in a block of its own -/
structure Tp (F : Pf) (b1 b2 b3 : Nat) (J : Pf) (w V : World) : Prop where
  b : Below w.heap.size w V
  h1 : V.heap[b1]? = some (.cells F.arr 34 (0, 0))
  h2 : ∃ c, V.heap[b2]? = some (.cells c 34 (0, 0)) ∧ c.size = 11
  h3 : V.heap[b3]? = some (.cells J.arr 34 (0, 0))
  n1 : b1 ≠ b3
  n2 : b2 ≠ b3
  l2 : w.heap.size ≤ b2
  l3 : w.heap.size ≤ b3
  rs : Rest w.heap.size J V
  u : URow w.heap.size J V
theorem Tp.below {F : Pf} {b1 b2 b3 : Nat} {J : Pf} {w V V' : World} (h : Tp F b1 b2 b3 J w V) (t : Below V.heap.size V V') : Tp F b1 b2 b3 J w V' := by
  obtain ⟨c, hc, hz⟩ := h.h2
  exact ⟨h.b.trans (t.mono h.b.size), (t.block _ (lt_of_heap h.h1)).trans h.h1, ⟨c, (t.block _ (lt_of_heap hc)).trans hc, hz⟩, (t.block _ (lt_of_heap h.h3)).trans h.h3, h.n1, h.n2, h.l2, h.l3, h.rs.below t, h.u.below t⟩
/-- the blocks alone -/
structure Tf (F : Pf) (b1 b2 b3 : Nat) (A : Array Value) (w V : World) : Prop where
  b : Below w.heap.size w V
  h1 : V.heap[b1]? = some (.cells F.arr 34 (0, 0))
  h2 : ∃ c, V.heap[b2]? = some (.cells c 34 (0, 0)) ∧ c.size = 11
  h3 : V.heap[b3]? = some (.cells A 34 (0, 0))
  n1 : b1 ≠ b3
  n2 : b2 ≠ b3
  l2 : w.heap.size ≤ b2
  l3 : w.heap.size ≤ b3
theorem Tp.tf {F : Pf} {b1 b2 b3 : Nat} {J : Pf} {w V : World} (h : Tp F b1 b2 b3 J w V) : Tf F b1 b2 b3 J.arr w V := ⟨h.b, h.h1, h.h2, h.h3, h.n1, h.n2, h.l2, h.l3⟩
theorem Tf.put {F : Pf} {b1 b2 b3 : Nat} {A : Array Value} {J' : Pf} {w V : World} (h : Tf F b1 b2 b3 A w V) (i : Nat) (v : Value) (e : A.setIfInBounds i v = J'.arr) (hr : Rest w.heap.size J' V) (hu : URow w.heap.size J' V) : Tp F b1 b2 b3 J' w (V.setCell ⟨b3, i, none⟩ v) := by
  have t : Turn (fun j => j = b3) V (V.setCell ⟨b3, i, none⟩ v) := set_turn b3 i v V
  have hT : Soft2 (fun j => j = b3) V := fun j q => by
    have e : j = b3 := q
    subst e
    exact ⟨_, 34, h.h3, .inl rfl⟩
  obtain ⟨c, hc, hz⟩ := h.h2
  refine ⟨h.b.trans (below_own t (fun j q => by rw [q]; exact h.l3) h.b.size), (t.block _ (lt_of_heap h.h1) h.n1).trans h.h1, ⟨c, (t.block _ (lt_of_heap hc) h.n2).trans hc, hz⟩, ?_, h.n1, h.n2, h.l2, h.l3, hr.turn t hT, hu.turn t (fun j q e2 => ?_)⟩
  · rw [heap_set h.h3, e]
  · obtain ⟨cur, k⟩ := kindG hu q
    rw [e2] at k
    exact cells_ne k h.h3 (by decide) rfl
/-- a field is written over -/
theorem Tp.put {F : Pf} {b1 b2 b3 : Nat} {J J' : Pf} {w V : World} (h : Tp F b1 b2 b3 J w V) (i : Nat) (v : Value) (e : J.arr.setIfInBounds i v = J'.arr) (hr : Rest w.heap.size J' V) (hu : URow w.heap.size J' V) : Tp F b1 b2 b3 J' w (V.setCell ⟨b3, i, none⟩ v) := h.tf.put i v e hr hu
theorem Tp.box {F : Pf} {b1 b2 b3 q : Nat} {J : Pf} {w V V' : World} {c : Array Value} (h : Tp F b1 b2 b3 J w V) (t : Turn (fun j => j = q) V V') (hq : V.heap[q]? = some (.cells c 27 (0, 0))) (hu : ∀ j, G.At J.u.1 j → j ≠ q) (hl : w.heap.size ≤ q) : Tp F b1 b2 b3 J w V' := by
  have hT : Soft2 (fun j => j = q) V := fun j e => by
    have e' : j = q := e
    subst e'
    exact ⟨_, 27, hq, .inr rfl⟩
  obtain ⟨c2, hc, hz⟩ := h.h2
  exact ⟨h.b.trans (below_own t (fun j q => by rw [q]; exact hl) h.b.size), (t.block _ (lt_of_heap h.h1) (cells_ne h.h1 hq (by decide))).trans h.h1, ⟨c2, (t.block _ (lt_of_heap hc) (cells_ne hc hq (by decide))).trans hc, hz⟩, (t.block _ (lt_of_heap h.h3) (cells_ne h.h3 hq (by decide))).trans h.h3, h.n1, h.n2, h.l2, h.l3, h.rs.turn t hT, h.u.turn t hu⟩
/-- rules are turned -/
theorem Tp.tfu {F : Pf} {b1 b2 b3 : Nat} {J : Pf} {w V V' : World} (h : Tp F b1 b2 b3 J w V) (t : Turn (G.At J.u.1) V V') : Tf F b1 b2 b3 J.arr w V' := by
  have ne : ∀ {b : Nat} {c : Array Value}, V.heap[b]? = some (.cells c 34 (0, 0)) → ¬ G.At J.u.1 b := fun k q => by obtain ⟨cur, k2⟩ := kindG h.u q; exact cells_ne k k2 (by decide) rfl
  obtain ⟨c, hc, hz⟩ := h.h2
  exact ⟨h.b.trans (below_own t (fun j q => (h.u.lt j q).1) h.b.size), (t.block _ (lt_of_heap h.h1) (ne h.h1)).trans h.h1, ⟨c, (t.block _ (lt_of_heap hc) (ne hc)).trans hc, hz⟩, (t.block _ (lt_of_heap h.h3) (ne h.h3)).trans h.h3, h.n1, h.n2, h.l2, h.l3⟩
/-- a rule was appended, and its slice is written into the block -/
theorem Tp.rule {F : Pf} {b1 b2 b3 : Nat} {J J' : Pf} {R : Ru} {w V V' : World} {g cap : Nat} (h : Tp F b1 b2 b3 J w V) (t : Turn (G.At J.u.1) V V') (r : G.RowI 27 6 w.heap.size (some ⟨g, 0, none⟩) cap (J.u.2.2.map Ru.cells ++ [R.cells]) V') (hR : S.RowI w.heap.size R.ro R.rc R.rl V ∧ (∃ b, R.d = .bool b) ∧ R.rl.length ≤ 1048576) (e : J' = { J with u := (some ⟨g, 0, none⟩, cap, J.u.2.2 ++ [R]) }) :
    Tp F b1 b2 b3 J' w (V'.setCell ⟨b3, 9, none⟩ (.slice (some ⟨g, 0, none⟩) (J.u.2.2.length + 1) cap)) := by
  subst e
  have hT : Soft2 (G.At J.u.1) V := fun j q => by obtain ⟨cur, k⟩ := kindG h.u q; exact ⟨cur, 27, k, .inr rfl⟩
  refine (h.tfu t).put 9 _ (by show _ = Pf.arr _; simp [Pf.arr]) ?_ ?_
  · have rs := h.rs.turn t hT
    exact ⟨rs.a, rs.s, rs.r, rs.o, rs.g, rs.m, rs.i, rs.p, rs.w, fun R' hR' => by
      rcases List.mem_append.1 hR' with q | q
      · exact rs.ur R' q
      · rw [List.mem_singleton] at q; subst q; exact ⟨srow_soft hR.1 t hT, hR.2⟩, rs.x⟩
  · show G.RowI 27 6 _ _ _ ((J.u.2.2 ++ [R]).map Ru.cells) V'
    rw [List.map_append]; exact r
theorem Tp.c3 {F : Pf} {b1 b2 b3 : Nat} {J : Pf} {w V : World} (h : Tp F b1 b2 b3 J w V) (i : Nat) : V.cell? ⟨b3, i, none⟩ = J.arr[i]? := by rw [Lib.cell_of_heap h.h3]
theorem Tp.c1 {F : Pf} {b1 b2 b3 : Nat} {J : Pf} {w V : World} (h : Tp F b1 b2 b3 J w V) (i : Nat) : V.cell? ⟨b1, i, none⟩ = F.arr[i]? := by rw [Lib.cell_of_heap h.h1]
theorem Tp.f3 {F : Pf} {b1 b2 b3 : Nat} {J : Pf} {w V : World} (h : Tp F b1 b2 b3 J w V) (i : Nat) : V.frozen? ⟨b3, i, none⟩ = false := Lib.frozen_of_heap h.h3 i
theorem row_ok {α : Type} {o : Option Addr} {c : Nat} {l : List α} {B z : Nat} (h : (o = none ∧ l = [] ∧ c = 0) ∨ ∃ g, o = some ⟨g, 0, none⟩ ∧ B ≤ g ∧ g < z ∧ l.length ≤ c) : l.length ≤ c ∧ (o = none → c = 0) := by
  rcases h with ⟨h1, h2, h3⟩ | ⟨g, h1, _, _, h4⟩
  · exact ⟨by rw [h2]; simp, fun _ => h3⟩
  · exact ⟨h4, fun q => by rw [q] at h1; cases h1⟩
theorem cells6 (us : List Ru) : ∀ k ∈ us.map Ru.cells, k.length = 6 := fun k hk => by
  obtain ⟨R, _, rfl⟩ := List.mem_map.1 hk
  rfl
theorem Rest.pin {B : Nat} {J : Pf} {V : World} (h : Rest B J V) (hu : URow B J V) : J.In V where
  a := ⟨h.a.ints, row_ok h.a.form⟩
  s := ⟨h.s.subs, row_ok h.s.form⟩
  r := ⟨h.r.ints, row_ok h.r.form⟩
  o := ⟨h.o.ints, row_ok h.o.form⟩
  g := ⟨h.g.ints, row_ok h.g.form⟩
  m := ⟨h.m.ints, row_ok h.m.form⟩
  i := ⟨h.i.ints, row_ok h.i.form⟩
  p := ⟨h.p.ints, row_ok h.p.form⟩
  w := ⟨h.w.ints, row_ok h.w.form⟩
  u := by
    have q := row_ok hu.form
    rw [List.length_map] at q
    exact ⟨⟨lies_row hu (cells6 _), fun R hR => ⟨⟨(h.ur R hR).1.ints, row_ok (h.ur R hR).1.form⟩, (h.ur R hR).2⟩⟩, q⟩
  x := ⟨h.x.ints, row_ok h.x.form⟩
/-- what twin tells: the same policy in new rows -/
structure Tw (F J : Pf) : Prop where
  a : J.a.2.2 = F.a.2.2
  s : J.s.2.2 = F.s.2.2
  r : J.r.2.2 = F.r.2.2
  o : J.o.2.2 = F.o.2.2
  g : J.g.2.2 = F.g.2.2
  m : J.m.2.2 = F.m.2.2
  i : J.i.2.2 = F.i.2.2
  p : J.p.2.2 = F.p.2.2
  w : J.w.2.2 = F.w.2.2
  u : J.u.2.2.map Ru.core = F.u.2.2.map Ru.core
  x : J.x.2.2 = F.x.2.2
def TwinIs (F : Pf) (w : World) (e : Ending) (w' : World) : Prop := ∃ J : Pf, e = .returned (.agg J.arr) ∧ Tw F J ∧ Rest w.heap.size J w' ∧ URow w.heap.size J w' ∧ Below w.heap.size w w'
/-- the beginning -/
def J0 (F : Pf) (o1 : Option Addr) (c1 : Nat) (o2 : Option Addr) (c2 : Nat) (o3 : Option Addr) (c3 : Nat) (o4 : Option Addr) (c4 : Nat) : Pf := ⟨(o1, c1, F.a.2.2), (none, 0, []), (o2, c2, F.r.2.2), (o3, c3, F.o.2.2), (o4, c4, F.g.2.2), (none, 0, []), (none, 0, []), (none, 0, []), (none, 0, []), (none, 0, []), (none, 0, [])⟩
theorem tp_start {F : Pf} {w V W w4 : World} {b1 b2 b3 c1 c2 c3 c4 : Nat} {o1 o2 o3 o4 : Option Addr} {c : Array Value} (hV : Below w.heap.size w V) (h1 : V.heap[b1]? = some (.cells F.arr 34 (0, 0))) (h2 : V.heap[b2]? = some (.cells c 34 (0, 0))) (hz : c.size = 11) (l2 : w.heap.size ≤ b2) (d : Below V.heap.size V w4) (qt : Turn (fun j => j = b3) w4 W) (qh : W.heap[b3]? = some (.cells (J0 F o1 c1 o2 c2 o3 c3 o4 c4).arr 34 (0, 0))) (hV3 : V.heap.size ≤ b3) (hn : ∀ j c, w4.heap[j]? = some (.cells c 9 (0, 0)) → j ≠ b3)
    (r1 : S.RowI V.heap.size o1 c1 F.a.2.2 w4) (r2 : S.RowI V.heap.size o2 c2 F.r.2.2 w4) (r3 : S.RowI V.heap.size o3 c3 F.o.2.2 w4) (r4 : S.RowI V.heap.size o4 c4 F.g.2.2 w4) : Tp F b1 b2 b3 (J0 F o1 c1 o2 c2 o3 c3 o4 c4) w W := by
  have dW : Below V.heap.size V W := d.trans (below_own qt (fun j q => by rw [q]; exact hV3) d.size)
  have hs := hV.size
  have l1 := lt_of_heap h1
  have l2' := lt_of_heap h2
  have rw' : ∀ {o : Option Addr} {c : Nat} {l : List ByteArray}, S.RowI V.heap.size o c l w4 → S.RowI w.heap.size o c l W := fun r => (r.turn qt (fun j q e => by obtain ⟨cur, k⟩ := kindS r q; exact hn j cur k e)).mono hs
  exact ⟨hV.trans (dW.mono hs), (dW.block _ l1).trans h1, ⟨c, (dW.block _ l2').trans h2, hz⟩, qh, by omega, by omega, l2, by omega, ⟨rw' r1, T.RowI.nil _ _, rw' r2, rw' r3, rw' r4, Q.RowI.nil _ _, Q.RowI.nil _ _, Q.RowI.nil _ _, Q.RowI.nil _ _, (fun R hR => by cases hR), X.RowI.nil _ _⟩, G.RowI.nil _ _ _ _⟩
end U
namespace S
set_option maxRecDepth 100000 in
set_option maxHeartbeats 1000000 in
theorem texts_any (ro : Option Addr) (rc : Nat) (row : List ByteArray) (w : World) (hI : Ints ro row w) (hn : ro = none → rc = 0) (hb : Hid (row.length < 4398046511104)) :
    Calls Try.prog 71 #[.slice ro row.length rc] w fun e w' => ∃ o c, e = .returned (.slice o row.length c) ∧ RowI w.heap.size o c row w' ∧ Below w.heap.size w w' := by
  have HI := hide' hI
  have HN := hide' hn
  clear hI hn
  go_enter Try.func71, Try.ntmps71
  go_wp2_with (at_builtin; refine wpList_appS _ rfl _ _ rfl w.heap.size ro rc row rfl rfl HI.out HN.out hb (Nat.le_refl _) ?_; intro o1 c1 w1 r1 b1; have E1 := hide' (And.intro r1 b1); clear r1 b1)
  go_ret
  exact ⟨o1, c1, rfl, E1.out.1, E1.out.2⟩
end S
end Go.Proofs.Ytdhmommfmmiieaa
set_option linter.unusedVariables false
set_option linter.unusedSimpArgs false
namespace Go.Proofs.Ytdhmommfmmiieaa
open Go.RowKit Go.Maps
namespace U
theorem setRow_turn (V : World) (g : Nat) (c : Array Value) : Turn (fun j => j = g) V (V.setRow g c) := ⟨rfl, rfl, rfl, by simp [World.setRow], fun k _ hk => setRow_other V g k c hk⟩
theorem stay_fa3 {P : Program} {ops : Array Oper} {rest : List Oper} {o : Oper} {a : Act} {Q : Exit → Act → World → Prop} {w : World} {k : Nat} (ho : o.op = .fieldAddr 34 (.tmp 3) k) (h : Stay (wpList P ops Q (o :: rest) a w)) : wpList P ops Q (o :: rest) a w := h
theorem stay_fa1 {P : Program} {ops : Array Oper} {rest : List Oper} {o : Oper} {a : Act} {Q : Exit → Act → World → Prop} {w : World} {k : Nat} (ho : o.op = .fieldAddr 34 (.tmp 1) k) (h : Stay (wpList P ops Q (o :: rest) a w)) : wpList P ops Q (o :: rest) a w := h
set_option maxRecDepth 100000 in
set_option maxHeartbeats 4000000 in
theorem twin_any (F : Pf) (w : World) (h : F.In w) (hs : F.Small) : Calls Try.prog 37 #[.agg F.arr] w fun e w' => TwinIs F w e w' := by
  have H := hide' h
  have Hs := hide' hs
  clear h hs
  go_enter Try.func37, Try.ntmps37
  go_wp2_with fail
  obtain ⟨V, hV⟩ : ∃ V, V = ((w.alloc (.cells F.arr 34)).alloc (.cells #[.slice none 0 0, .slice none 0 0, .slice none 0 0, .slice none 0 0, .slice none 0 0, .slice none 0 0, .slice none 0 0, .slice none 0 0, .slice none 0 0, .slice none 0 0, .slice none 0 0] 34)) := ⟨_, rfl⟩
  rw [← hV]
  have K0 : Hid (Below w.heap.size w V ∧ V.heap[w.heap.size]? = some (.cells F.arr 34 (0, 0)) ∧ V.heap[w.heap.size + 1]? = some (.cells #[.slice none 0 0, .slice none 0 0, .slice none 0 0, .slice none 0 0, .slice none 0 0, .slice none 0 0, .slice none 0 0, .slice none 0 0, .slice none 0 0, .slice none 0 0, .slice none 0 0] 34 (0, 0))) := by
    have a1 := heap_alloc_new w (.cells F.arr 34)
    have a2 := heap_alloc_new (w.alloc (.cells F.arr 34)) (.cells #[.slice none 0 0, .slice none 0 0, .slice none 0 0, .slice none 0 0, .slice none 0 0, .slice none 0 0, .slice none 0 0, .slice none 0 0, .slice none 0 0, .slice none 0 0, .slice none 0 0] 34)
    have z1 : (w.alloc (.cells F.arr 34)).heap.size = w.heap.size + 1 := by simp
    rw [z1] at a2
    rw [hV]
    exact ⟨((Below.refl _ _).alloc (Nat.le_refl _) _).alloc (by simp) _, (Below.heap_alloc _ _ _ (by omega)).trans a1, a2⟩
  clear hV
  obtain ⟨b1, hb1⟩ : ∃ b1, b1 = w.heap.size := ⟨_, rfl⟩
  obtain ⟨b2, hb2⟩ : ∃ b2, b2 = w.heap.size + 1 := ⟨_, rfl⟩
  rw [← hb2, ← hb1]
  have HB : Hid (w.heap.size ≤ b2) := by show _ ≤ _; omega
  have K1 : Hid (Below w.heap.size w V ∧ V.heap[b1]? = some (.cells F.arr 34 (0, 0)) ∧ V.heap[b2]? = some (.cells #[.slice none 0 0, .slice none 0 0, .slice none 0 0, .slice none 0 0, .slice none 0 0, .slice none 0 0, .slice none 0 0, .slice none 0 0, .slice none 0 0, .slice none 0 0, .slice none 0 0] 34 (0, 0))) := by rw [hb1, hb2]; exact K0
  clear K0 hb1 hb2
  have KI : Hid (∀ W, Below V.heap.size V W → F.In W) := fun W b => H.out.below (K1.out.1.trans (b.mono K1.out.1.size))
  have KC : Hid (∀ W, Below V.heap.size V W → W.cell? ⟨b1, 0, none⟩ = some (.slice F.a.1 F.a.2.2.length F.a.2.1) ∧ W.cell? ⟨b1, 2, none⟩ = some (.slice F.r.1 F.r.2.2.length F.r.2.1) ∧ W.cell? ⟨b1, 3, none⟩ = some (.slice F.o.1 F.o.2.2.length F.o.2.1) ∧ W.cell? ⟨b1, 4, none⟩ = some (.slice F.g.1 F.g.2.2.length F.g.2.1)) := fun W b => by
    have g := (b.block _ (lt_of_heap K1.out.2.1)).trans K1.out.2.1
    exact ⟨by rw [Lib.cell_of_heap g]; rfl, by rw [Lib.cell_of_heap g]; rfl, by rw [Lib.cell_of_heap g]; rfl, by rw [Lib.cell_of_heap g]; rfl⟩
  have d0 : Below V.heap.size V V.drew := ⟨rfl, rfl, rfl, Nat.le_refl _, fun _ _ => rfl⟩
  have LA := hide' (fun W (b : Below V.heap.size V W) => S.texts_any F.a.1 F.a.2.1 F.a.2.2 W (KI.out W b).a.1 (KI.out W b).a.2.2 (by have := Hs.out.a; show _ < _; omega))
  have LR := hide' (fun W (b : Below V.heap.size V W) => S.texts_any F.r.1 F.r.2.1 F.r.2.2 W (KI.out W b).r.1 (KI.out W b).r.2.2 (by have := Hs.out.r; show _ < _; omega))
  have LO := hide' (fun W (b : Below V.heap.size V W) => S.texts_any F.o.1 F.o.2.1 F.o.2.2 W (KI.out W b).o.1 (KI.out W b).o.2.2 (by have := Hs.out.o; show _ < _; omega))
  have LG := hide' (fun W (b : Below V.heap.size V W) => S.texts_any F.g.1 F.g.2.1 F.g.2.2 W (KI.out W b).g.1 (KI.out W b).g.2.2 (by have := Hs.out.g; show _ < _; omega))
  obtain ⟨e0, e2, e3, e4⟩ := KC.out V (Below.refl _ _)
  refine Code.wp_mono (Q := fun e a W => e = .normal ∧ ∃ b3 o1 c1 o2 c2 o3 c3 o4 c4, a = { tmps := #[.agg F.arr, .pointer (some ⟨b1, 0, none⟩), .pointer (some ⟨b2, 0, none⟩), .pointer (some ⟨b3, 0, none⟩), undef, undef, .pointer (some ⟨b1, 0, none⟩), .slice F.a.1 F.a.2.2.length F.a.2.1, .slice o1 F.a.2.2.length c1, .pointer (some ⟨b1, 2, none⟩), .slice F.r.1 F.r.2.2.length F.r.2.1, .slice o2 F.r.2.2.length c2, .pointer (some ⟨b1, 3, none⟩), .slice F.o.1 F.o.2.2.length F.o.2.1, .slice o3 F.o.2.2.length c3, .pointer (some ⟨b1, 4, none⟩), .slice F.g.1 F.g.2.2.length F.g.2.1, .slice o4 F.g.2.2.length c4, .agg #[.slice o1 F.a.2.2.length c1, .slice none 0 0, .slice o2 F.r.2.2.length c2, .slice o3 F.o.2.2.length c3, .slice o4 F.g.2.2.length c4, .slice none 0 0, .slice none 0 0, .slice none 0 0, .slice none 0 0, .slice none 0 0, .slice none 0 0], undef, undef, undef, undef, undef, undef, undef, undef, undef, undef, undef, undef, undef, undef, undef, undef, undef, undef, undef, undef, undef, undef, undef, undef, undef, undef, undef, undef, undef, undef, undef, undef, undef, undef, undef, undef, undef, undef, undef, undef, undef, undef, undef, undef, undef, undef, undef, undef, undef, undef, undef, undef, undef, undef, undef, undef, undef, undef, undef], defers := [] } ∧ Hid (Tp F b1 b2 b3 (J0 F o1 c1 o2 c2 o3 c3 o4 c4) w W)) ?_ ?_
  rotate_left
  · go_region_held3 (fun W => W.cell? ⟨b1, 0, none⟩ = some (.slice F.a.1 F.a.2.2.length F.a.2.1) ∧ W.cell? ⟨b1, 2, none⟩ = some (.slice F.r.1 F.r.2.2.length F.r.2.1) ∧ W.cell? ⟨b1, 3, none⟩ = some (.slice F.o.1 F.o.2.2.length F.o.2.1) ∧ W.cell? ⟨b1, 4, none⟩ = some (.slice F.g.1 F.g.2.2.length F.g.2.1)) (first | with_reducible exact KC.out _ d0 | with_reducible exact KC.out _ d4 | with_reducible exact KC.out _ d3 | with_reducible exact KC.out _ d2 | with_reducible exact KC.out _ d1 | with_reducible exact KC.out _ dq | with_reducible exact KC.out _ (d4.alloc d4.size _) | with_reducible exact KC.out _ (d3.alloc d3.size _) | with_reducible exact KC.out _ (d2.alloc d2.size _) | with_reducible exact KC.out _ (d1.alloc d1.size _) | with_reducible exact KC.out _ (d0.alloc d0.size _) | go_keep) (first | (go_at_call 71; (fail_if_success (have G := d1)); (first | (refine (LA.out _ d0).mono ?_; rintro e w1 ⟨o1, c1, rfl, r1, t1⟩; have R1 : Hid (S.RowI V.heap.size o1 c1 F.a.2.2 w1) := r1.mono d0.size; (first | (have G3 := h3; clear G3; have h3 := (t1.block _ (lt_of_heap h3.1)).trans h3.1; have h3 := And.intro h3 hb3) | skip)) | (refine (LA.out _ (d0.alloc d0.size _)).mono ?_; rintro e w1 ⟨o1, c1, rfl, r1, t1⟩; have h3 : w1.heap[V.heap.size]? = some (.cells #[.slice none 0 0, .slice none 0 0, .slice none 0 0, .slice none 0 0, .slice none 0 0, .slice none 0 0, .slice none 0 0, .slice none 0 0, .slice none 0 0, .slice none 0 0, .slice none 0 0] 34 (0, 0)) := (t1.block V.drew.heap.size (by simp)).trans (heap_alloc_new V.drew _); have hb3 : V.heap.size ≤ V.heap.size := d0.size; have h3 := And.intro h3 hb3; have R1 : Hid (S.RowI V.heap.size o1 c1 F.a.2.2 w1) := r1.mono (d0.alloc d0.size _).size; have t1 : Below V.drew.heap.size V.drew w1 := ((Below.refl _ _).alloc (Nat.le_refl _) _).trans (t1.mono (by simp)))); have d1 : Below V.heap.size V w1 := d0.trans (t1.mono d0.size); clear r1 t1) | (go_at_call 71; have G := d1; (fail_if_success (have G := d2)); (first | (refine (LR.out _ d1).mono ?_; rintro e w2 ⟨o2, c2, rfl, r2, t2⟩; have R2 : Hid (S.RowI V.heap.size o2 c2 F.r.2.2 w2) := r2.mono d1.size; (first | (have G3 := h3; clear G3; have h3 := (t2.block _ (lt_of_heap h3.1)).trans h3.1; have h3 := And.intro h3 hb3) | skip)) | (refine (LR.out _ (d1.alloc d1.size _)).mono ?_; rintro e w2 ⟨o2, c2, rfl, r2, t2⟩; have h3 : w2.heap[w1.heap.size]? = some (.cells #[.slice none 0 0, .slice none 0 0, .slice none 0 0, .slice none 0 0, .slice none 0 0, .slice none 0 0, .slice none 0 0, .slice none 0 0, .slice none 0 0, .slice none 0 0, .slice none 0 0] 34 (0, 0)) := (t2.block w1.heap.size (by simp)).trans (heap_alloc_new w1 _); have hb3 : V.heap.size ≤ w1.heap.size := d1.size; have h3 := And.intro h3 hb3; have R2 : Hid (S.RowI V.heap.size o2 c2 F.r.2.2 w2) := r2.mono (d1.alloc d1.size _).size; have t2 : Below w1.heap.size w1 w2 := ((Below.refl _ _).alloc (Nat.le_refl _) _).trans (t2.mono (by simp)))); have d2 : Below V.heap.size V w2 := d1.trans (t2.mono d1.size); have R1 : Hid (S.RowI V.heap.size o1 c1 F.a.2.2 w2) := R1.out.below t2; clear r2 t2) | (go_at_call 71; have G := d2; (fail_if_success (have G := d3)); (first | (refine (LO.out _ d2).mono ?_; rintro e w3 ⟨o3, c3, rfl, r3, t3⟩; have R3 : Hid (S.RowI V.heap.size o3 c3 F.o.2.2 w3) := r3.mono d2.size; (first | (have G3 := h3; clear G3; have h3 := (t3.block _ (lt_of_heap h3.1)).trans h3.1; have h3 := And.intro h3 hb3) | skip)) | (refine (LO.out _ (d2.alloc d2.size _)).mono ?_; rintro e w3 ⟨o3, c3, rfl, r3, t3⟩; have h3 : w3.heap[w2.heap.size]? = some (.cells #[.slice none 0 0, .slice none 0 0, .slice none 0 0, .slice none 0 0, .slice none 0 0, .slice none 0 0, .slice none 0 0, .slice none 0 0, .slice none 0 0, .slice none 0 0, .slice none 0 0] 34 (0, 0)) := (t3.block w2.heap.size (by simp)).trans (heap_alloc_new w2 _); have hb3 : V.heap.size ≤ w2.heap.size := d2.size; have h3 := And.intro h3 hb3; have R3 : Hid (S.RowI V.heap.size o3 c3 F.o.2.2 w3) := r3.mono (d2.alloc d2.size _).size; have t3 : Below w2.heap.size w2 w3 := ((Below.refl _ _).alloc (Nat.le_refl _) _).trans (t3.mono (by simp)))); have d3 : Below V.heap.size V w3 := d2.trans (t3.mono d2.size); have R1 : Hid (S.RowI V.heap.size o1 c1 F.a.2.2 w3) := R1.out.below t3; have R2 : Hid (S.RowI V.heap.size o2 c2 F.r.2.2 w3) := R2.out.below t3; clear r3 t3) | (go_at_call 71; have G := d3; (first | (refine (LG.out _ d3).mono ?_; rintro e w4 ⟨o4, c4, rfl, r4, t4⟩; have R4 : Hid (S.RowI V.heap.size o4 c4 F.g.2.2 w4) := r4.mono d3.size; (first | (have G3 := h3; clear G3; have h3 := (t4.block _ (lt_of_heap h3.1)).trans h3.1; have h3 := And.intro h3 hb3) | skip)) | (refine (LG.out _ (d3.alloc d3.size _)).mono ?_; rintro e w4 ⟨o4, c4, rfl, r4, t4⟩; have h3 : w4.heap[w3.heap.size]? = some (.cells #[.slice none 0 0, .slice none 0 0, .slice none 0 0, .slice none 0 0, .slice none 0 0, .slice none 0 0, .slice none 0 0, .slice none 0 0, .slice none 0 0, .slice none 0 0, .slice none 0 0] 34 (0, 0)) := (t4.block w3.heap.size (by simp)).trans (heap_alloc_new w3 _); have hb3 : V.heap.size ≤ w3.heap.size := d3.size; have h3 := And.intro h3 hb3; have R4 : Hid (S.RowI V.heap.size o4 c4 F.g.2.2 w4) := r4.mono (d3.alloc d3.size _).size; have t4 : Below w3.heap.size w3 w4 := ((Below.refl _ _).alloc (Nat.le_refl _) _).trans (t4.mono (by simp)))); have d4 : Below V.heap.size V w4 := d3.trans (t4.mono d3.size); have R1 : Hid (S.RowI V.heap.size o1 c1 F.a.2.2 w4) := R1.out.below t4; have R2 : Hid (S.RowI V.heap.size o2 c2 F.r.2.2 w4) := R2.out.below t4; have R3 : Hid (S.RowI V.heap.size o3 c3 F.o.2.2 w4) := R3.out.below t4; (first | (fail_if_success (have G3 := h3)) | (obtain ⟨qc0, qf0, qc1, qf1, qc2, qf2, qc3, qf3, qc4, qf4, qc5, qf5, qc6, qf6, qc7, qf7, qc8, qf8, qc9, qf9, qc10, qf10, qh, qt⟩ := st34 h3.1 (.slice o1 F.a.2.2.length c1) (.slice none 0 0) (.slice o2 F.r.2.2.length c2) (.slice o3 F.o.2.2.length c3) (.slice o4 F.g.2.2.length c4) (.slice none 0 0) (.slice none 0 0) (.slice none 0 0) (.slice none 0 0) (.slice none 0 0) (.slice none 0 0); have dq := d4.trans (below_own qt (fun _ q => by rw [q]; exact hb3) d4.size); have HN := hide' (fun (j : Nat) (c : Array Value) (k : w4.heap[j]? = some (.cells c 9 (0, 0))) => cells_ne k h3.1 (by decide)); have QH := hide' (And.intro qh (And.intro qt hb3)); clear qh qt)); clear r4 t4))
    all_goals (refine ⟨rfl, _, o1, c1, o2, c2, o3, c3, o4, c4, rfl, ?_⟩)
    all_goals (first | (have G3 := QH; clear G3) | (have QH := hide' (And.intro (heap_alloc_new w4 (.cells #[.slice o1 F.a.2.2.length c1, .slice none 0 0, .slice o2 F.r.2.2.length c2, .slice o3 F.o.2.2.length c3, .slice o4 F.g.2.2.length c4, .slice none 0 0, .slice none 0 0, .slice none 0 0, .slice none 0 0, .slice none 0 0, .slice none 0 0] 34)) (And.intro ((Turn.refl (fun j => j = w4.heap.size) w4).alloc (.cells #[.slice o1 F.a.2.2.length c1, .slice none 0 0, .slice o2 F.r.2.2.length c2, .slice o3 F.o.2.2.length c3, .slice o4 F.g.2.2.length c4, .slice none 0 0, .slice none 0 0, .slice none 0 0, .slice none 0 0, .slice none 0 0, .slice none 0 0] 34)) d4.size)); have HN := hide' (fun (j : Nat) (c : Array Value) (k : w4.heap[j]? = some (.cells c 9 (0, 0))) => (show j ≠ w4.heap.size from by have := lt_of_heap k; omega))))
    all_goals exact tp_start K1.out.1 K1.out.2.1 K1.out.2.2 rfl HB.out d4 QH.out.2.1 QH.out.1 QH.out.2.2 HN.out R1.out R2.out R3.out R4.out
  rintro _ a V1 ⟨rfl, b3, o1, c1, o2, c2, o3, c3, o4, c4, rfl, TP⟩
  clear e0 e2 e3 e4 LA LR LO LG KI KC K1 d0 HB V
  simp only [Exit.then]
  have INV : Hid (∀ (J : Pf) W, Tp F b1 b2 b3 J w W → F.In W) := fun J W q => H.out.below q.b
  have TP1 : Hid (Tp F b1 b2 b3 (⟨(o1, c1, F.a.2.2), (none, 0, []), (o2, c2, F.r.2.2), (o3, c3, F.o.2.2), (o4, c4, F.g.2.2), (none, 0, []), (none, 0, []), (none, 0, []), (none, 0, []), (none, 0, []), (none, 0, [])⟩ : Pf) w V1) := TP
  clear TP
  have x1a : V1.cell? ⟨b3, 1, none⟩ = some (.slice none 0 0) := TP1.out.c3 1
  have x1b : V1.cell? ⟨b1, 1, none⟩ = some (.slice F.s.1 F.s.2.2.length F.s.2.1) := TP1.out.c1 1
  have I1 := hide' (INV.out _ _ TP1.out)
  go_wp2_with (at_builtin; refine stay_app _ _ _ rfl ?_)
  unfold Stay
  refine T.wpList_appS _ rfl _ _ rfl w.heap.size F.s.1 F.s.2.1 F.s.2.2 rfl rfl I1.out.s.1 I1.out.s.2.2 (by have := Hs.out.s; show _ < _; omega) TP1.out.b.size ?_
  intro o11 c11 w11 r11 t11
  have q11 : w11.cell? ⟨b3, 1, none⟩ = some (.slice none 0 0) := (TP1.out.below t11).c3 1
  have f11 := (TP1.out.below t11).f3 1
  have TP2 : Hid (Tp F b1 b2 b3 (⟨(o1, c1, F.a.2.2), (o11, c11, F.s.2.2), (o2, c2, F.r.2.2), (o3, c3, F.o.2.2), (o4, c4, F.g.2.2), (none, 0, []), (none, 0, []), (none, 0, []), (none, 0, []), (none, 0, []), (none, 0, [])⟩ : Pf) w (w11.setCell ⟨b3, 1, none⟩ (.slice o11 F.s.2.2.length c11))) := (TP1.out.below t11).put 1 _ rfl { (TP1.out.below t11).rs with s := r11 } (TP1.out.below t11).u
  clear r11 t11 I1 TP1 x1a x1b
  go_wp2_with (with_reducible refine stay_fa3 (k := 5) rfl ?_)
  unfold Stay
  generalize w11.setCell ⟨b3, 1, none⟩ (.slice o11 F.s.2.2.length c11) = V2 at *
  clear q11 f11
  have x2a : V2.cell? ⟨b3, 5, none⟩ = some (.slice none 0 0) := TP2.out.c3 5
  have x2b : V2.cell? ⟨b1, 5, none⟩ = some (.slice F.m.1 F.m.2.2.length F.m.2.1) := TP2.out.c1 5
  have I2 := hide' (INV.out _ _ TP2.out)
  go_wp2_with (at_builtin; refine stay_app _ _ _ rfl ?_)
  unfold Stay
  refine Q.wpList_appS _ rfl _ _ rfl w.heap.size F.m.1 F.m.2.1 F.m.2.2 rfl rfl I2.out.m.1 I2.out.m.2.2 (by have := Hs.out.m; show _ < _; omega) TP2.out.b.size ?_
  intro o12 c12 w12 r12 t12
  have q12 : w12.cell? ⟨b3, 5, none⟩ = some (.slice none 0 0) := (TP2.out.below t12).c3 5
  have f12 := (TP2.out.below t12).f3 5
  have TP3 : Hid (Tp F b1 b2 b3 (⟨(o1, c1, F.a.2.2), (o11, c11, F.s.2.2), (o2, c2, F.r.2.2), (o3, c3, F.o.2.2), (o4, c4, F.g.2.2), (o12, c12, F.m.2.2), (none, 0, []), (none, 0, []), (none, 0, []), (none, 0, []), (none, 0, [])⟩ : Pf) w (w12.setCell ⟨b3, 5, none⟩ (.slice o12 F.m.2.2.length c12))) := (TP2.out.below t12).put 5 _ rfl { (TP2.out.below t12).rs with m := r12 } (TP2.out.below t12).u
  clear r12 t12 I2 TP2 x2a x2b
  go_wp2_with (with_reducible refine stay_fa3 (k := 6) rfl ?_)
  unfold Stay
  generalize w12.setCell ⟨b3, 5, none⟩ (.slice o12 F.m.2.2.length c12) = V3 at *
  clear q12 f12
  have x3a : V3.cell? ⟨b3, 6, none⟩ = some (.slice none 0 0) := TP3.out.c3 6
  have x3b : V3.cell? ⟨b1, 6, none⟩ = some (.slice F.i.1 F.i.2.2.length F.i.2.1) := TP3.out.c1 6
  have I3 := hide' (INV.out _ _ TP3.out)
  go_wp2_with (at_builtin; refine stay_app _ _ _ rfl ?_)
  unfold Stay
  refine Q.wpList_appS _ rfl _ _ rfl w.heap.size F.i.1 F.i.2.1 F.i.2.2 rfl rfl I3.out.i.1 I3.out.i.2.2 (by have := Hs.out.i; show _ < _; omega) TP3.out.b.size ?_
  intro o13 c13 w13 r13 t13
  have q13 : w13.cell? ⟨b3, 6, none⟩ = some (.slice none 0 0) := (TP3.out.below t13).c3 6
  have f13 := (TP3.out.below t13).f3 6
  have TP4 : Hid (Tp F b1 b2 b3 (⟨(o1, c1, F.a.2.2), (o11, c11, F.s.2.2), (o2, c2, F.r.2.2), (o3, c3, F.o.2.2), (o4, c4, F.g.2.2), (o12, c12, F.m.2.2), (o13, c13, F.i.2.2), (none, 0, []), (none, 0, []), (none, 0, []), (none, 0, [])⟩ : Pf) w (w13.setCell ⟨b3, 6, none⟩ (.slice o13 F.i.2.2.length c13))) := (TP3.out.below t13).put 6 _ rfl { (TP3.out.below t13).rs with i := r13 } (TP3.out.below t13).u
  clear r13 t13 I3 TP3 x3a x3b
  go_wp2_with (with_reducible refine stay_fa3 (k := 7) rfl ?_)
  unfold Stay
  generalize w13.setCell ⟨b3, 6, none⟩ (.slice o13 F.i.2.2.length c13) = V4 at *
  clear q13 f13
  have x4a : V4.cell? ⟨b3, 7, none⟩ = some (.slice none 0 0) := TP4.out.c3 7
  have x4b : V4.cell? ⟨b1, 7, none⟩ = some (.slice F.p.1 F.p.2.2.length F.p.2.1) := TP4.out.c1 7
  have I4 := hide' (INV.out _ _ TP4.out)
  go_wp2_with (at_builtin; refine stay_app _ _ _ rfl ?_)
  unfold Stay
  refine Q.wpList_appS _ rfl _ _ rfl w.heap.size F.p.1 F.p.2.1 F.p.2.2 rfl rfl I4.out.p.1 I4.out.p.2.2 (by have := Hs.out.p; show _ < _; omega) TP4.out.b.size ?_
  intro o14 c14 w14 r14 t14
  have q14 : w14.cell? ⟨b3, 7, none⟩ = some (.slice none 0 0) := (TP4.out.below t14).c3 7
  have f14 := (TP4.out.below t14).f3 7
  have TP5 : Hid (Tp F b1 b2 b3 (⟨(o1, c1, F.a.2.2), (o11, c11, F.s.2.2), (o2, c2, F.r.2.2), (o3, c3, F.o.2.2), (o4, c4, F.g.2.2), (o12, c12, F.m.2.2), (o13, c13, F.i.2.2), (o14, c14, F.p.2.2), (none, 0, []), (none, 0, []), (none, 0, [])⟩ : Pf) w (w14.setCell ⟨b3, 7, none⟩ (.slice o14 F.p.2.2.length c14))) := (TP4.out.below t14).put 7 _ rfl { (TP4.out.below t14).rs with p := r14 } (TP4.out.below t14).u
  clear r14 t14 I4 TP4 x4a x4b
  go_wp2_with (with_reducible refine stay_fa3 (k := 8) rfl ?_)
  unfold Stay
  generalize w14.setCell ⟨b3, 7, none⟩ (.slice o14 F.p.2.2.length c14) = V5 at *
  clear q14 f14
  have x5a : V5.cell? ⟨b3, 8, none⟩ = some (.slice none 0 0) := TP5.out.c3 8
  have x5b : V5.cell? ⟨b1, 8, none⟩ = some (.slice F.w.1 F.w.2.2.length F.w.2.1) := TP5.out.c1 8
  have I5 := hide' (INV.out _ _ TP5.out)
  go_wp2_with (at_builtin; refine stay_app _ _ _ rfl ?_)
  unfold Stay
  refine Q.wpList_appS _ rfl _ _ rfl w.heap.size F.w.1 F.w.2.1 F.w.2.2 rfl rfl I5.out.w.1 I5.out.w.2.2 (by have := Hs.out.w; show _ < _; omega) TP5.out.b.size ?_
  intro o15 c15 w15 r15 t15
  have q15 : w15.cell? ⟨b3, 8, none⟩ = some (.slice none 0 0) := (TP5.out.below t15).c3 8
  have f15 := (TP5.out.below t15).f3 8
  have TP6 : Hid (Tp F b1 b2 b3 (⟨(o1, c1, F.a.2.2), (o11, c11, F.s.2.2), (o2, c2, F.r.2.2), (o3, c3, F.o.2.2), (o4, c4, F.g.2.2), (o12, c12, F.m.2.2), (o13, c13, F.i.2.2), (o14, c14, F.p.2.2), (o15, c15, F.w.2.2), (none, 0, []), (none, 0, [])⟩ : Pf) w (w15.setCell ⟨b3, 8, none⟩ (.slice o15 F.w.2.2.length c15))) := (TP5.out.below t15).put 8 _ rfl { (TP5.out.below t15).rs with w := r15 } (TP5.out.below t15).u
  clear r15 t15 I5 TP5 x5a x5b
  go_wp2_with fail
  generalize w15.setCell ⟨b3, 8, none⟩ (.slice o15 F.w.2.2.length c15) = V6 at *
  clear q15 f15
  have hul : (F.u.2.2.length : Int) ≤ 1048576 := by have := Hs.out.u; omega
  go_loopw [4] (fun iv wx => ∃ (i : Nat) (us : List Ru) (uo : Option Addr) (uc : Nat), iv = .int .i64 (i : Int) ∧ i ≤ F.u.2.2.length ∧ Hid (us.length = i ∧ us.map Ru.core = (F.u.2.2.take i).map Ru.core) ∧ Hid (Tp F b1 b2 b3 (⟨(o1, c1, F.a.2.2), (o11, c11, F.s.2.2), (o2, c2, F.r.2.2), (o3, c3, F.o.2.2), (o4, c4, F.g.2.2), (o12, c12, F.m.2.2), (o13, c13, F.i.2.2), (o14, c14, F.p.2.2), (o15, c15, F.w.2.2), (uo, uc, us), (none, 0, [])⟩ : Pf) w wx)) (fun iv _ => F.u.2.2.length - (intOf iv).toNat)
  case atStart => exact ⟨0, [], none, 0, rfl, Nat.zero_le _, ⟨rfl, rfl⟩, TP6⟩
  case round =>
    obtain ⟨i, us, uo, uc, rfl, hi, HU, TQ⟩ := hrel
    clear TP6
    have y1 : wr.cell? ⟨b1, 9, none⟩ = some (.slice F.u.1 F.u.2.2.length F.u.2.1) := TQ.out.c1 9
    by_cases hlt : i < F.u.2.2.length
    · have hlt' : (i : Int) < (F.u.2.2.length : Int) := by omega
      have IN := hide' (INV.out _ _ TQ.out)
      obtain ⟨R, hR⟩ : ∃ R, F.u.2.2[i]? = some R := ⟨_, List.getElem?_eq_getElem hlt⟩
      obtain ⟨ub, uoff, huo, hub, hc⟩ := IN.out.u.1.1.at (show (F.u.2.2.map Ru.cells)[i]? = some R.cells by rw [List.getElem?_map, hR]; rfl)
      obtain ⟨hRo, hbv, hRl⟩ := IN.out.u.1.2 R (List.mem_of_getElem? hR)
      have hcu := IN.out.u.2.1
      have RG : Hid (wr.rangeAt ub (uoff + i * 6) R.cells) := fun j v hv => hc j v hv
      have HR := hide' (And.intro hR (And.intro hbv hRl))
      have HO := hide' hRo
      rw [huo] at y1
      have Huo := hide' huo
      clear hR hbv hRl hRo hc huo hub
      go_wp2_with (with_reducible refine stay_load 27 _ rfl ?_)
      unfold Stay
      refine wpList_load_mid rfl 27 _ rfl ub (uoff + i * 6) rfl R.cells _ RG.out Try.underlying27 rfl (by kernel_rfl) ?_
      go_wp2_with (with_reducible refine stay_store 27 _ _ rfl ?_)
      unfold Stay
      refine wpList_store_row rfl 27 _ _ rfl wr.heap.size R.cells.toArray rfl rfl 27 _ (heap_alloc_new wr _) (by kernel_rfl) rfl (by obtain ⟨bv, hb⟩ := HR.out.2.1; simp [Ru.cells, hb, Value.oneCell']) ?_
      rw [World.setRow_alloc_new]
      have q5 : Hid ((wr.alloc (.cells R.cells.toArray 27)).heap[wr.heap.size]? = some (.cells R.cells.toArray 27 (0, 0))) := heap_alloc_new wr _
      have b5 : Hid (Below wr.heap.size wr (wr.alloc (.cells R.cells.toArray 27))) := (Below.refl _ _).alloc (Nat.le_refl _) _
      generalize wr.alloc (.cells R.cells.toArray 27) = X5 at *
      have hus : Hid (∀ j, G.At uo j → j ≠ wr.heap.size) := fun j q e => by have := (TQ.out.u.lt j q).2; omega
      have hl5 : Hid (w.heap.size ≤ wr.heap.size) := TQ.out.b.size
      have TR := hide' (TQ.out.below b5.out)
      have HO5 := hide' (And.intro (HO.out.1.below b5.out) HO.out.2)
      clear TQ b5 RG HO IN y1
      generalize wr.heap.size = q at *
      have y3 : X5.cell? ⟨q, 3, none⟩ = some (.slice R.ro R.rl.length R.rc) := by rw [Lib.cell_of_heap q5.out]; rfl
      go_wp2_with fail
      refine (S.texts_any R.ro R.rc R.rl X5 HO5.out.1 HO5.out.2.2 (by have := HR.out.2.2; show _ < _; omega)).mono ?_
      rintro e X6 ⟨ao, ac, rfl, ra, t6⟩
      have q6 := hide' ((t6.block _ (lt_of_heap q5.out)).trans q5.out)
      have TS := hide' (TR.out.below t6)
      have RA : Hid (S.RowI w.heap.size ao ac R.rl X6) := ra.mono TR.out.b.size
      have z3 : X6.cell? ⟨q, 3, none⟩ = some (.slice R.ro R.rl.length R.rc) := by rw [Lib.cell_of_heap q6.out]; rfl
      have z4 : X6.frozen? ⟨q, 3, none⟩ = false := Lib.frozen_of_heap q6.out 3
      have TU : Hid (Turn (fun j => j = q) X6 (X6.setCell ⟨q, 3, none⟩ (.slice ao R.rl.length ac))) := set_turn q 3 _ X6
      have q7 : Hid ((X6.setCell ⟨q, 3, none⟩ (.slice ao R.rl.length ac)).heap[q]? = some (.cells ({ R with ro := ao, rc := ac } : Ru).cells.toArray 27 (0, 0))) := by show _ = _; rw [heap_set q6.out]; rfl
      clear ra t6 TR HO5 q5 y3
      go_wp2_with (with_reducible refine stay_fa3 (k := 9) rfl ?_)
      unfold Stay
      have TV := hide' (TS.out.box TU.out q6.out hus.out hl5.out)
      have RA2 := hide' (srow_soft RA.out TU.out (fun j e => by
        have e' : j = q := e
        subst e'
        exact ⟨_, 27, q6.out, .inr rfl⟩))
      clear TS RA TU q6 z3 z4
      generalize X6.setCell ⟨q, 3, none⟩ (.slice ao R.rl.length ac) = X7 at *
      have y9 : X7.cell? ⟨b3, 9, none⟩ = some (.slice uo us.length uc) := TV.out.c3 9
      go_wp2_with (with_reducible refine stay_load 27 _ rfl ?_)
      unfold Stay
      obtain ⟨bv, hbv⟩ := HR.out.2.1
      have Hbv := hide' hbv
      have q8 : Hid (X7.heap[q]? = some (.cells #[.bool bv, .string R.who, .string R.what, .slice ao R.rl.length ac, .int .i8 R.cd, .float .f64 R.lv] 27 (0, 0))) := by rw [← hbv]; exact q7
      clear hbv q7
      refine wpList_load_row rfl 27 _ rfl q rfl 27 #[.bool bv, .string R.who, .string R.what, .slice ao R.rl.length ac, .int .i8 R.cd, .float .f64 R.lv] (0, 0) _ q8.out Try.underlying27 rfl (by kernel_rfl) ?_
      go_wp2_with (at_builtin; refine stay_app _ _ _ rfl ?_)
      unfold Stay
      have hcl : (us.map Ru.cells).length = us.length := List.length_map _
      have hul2 : us.length < 1073741824 := by have := HU.out.1; omega
      refine G.wpList_app1 X7 rfl _ _ 31 27 6 80 _ rfl Try.underlying31 G.info27 rfl (by decide) (by decide) w.heap.size uo uc (us.map Ru.cells) [.bool bv, .string R.who, .string R.what, .slice ao R.rl.length ac, .int .i8 R.cd, .float .f64 R.lv] rfl (by simp [Value.oneCell']) 27 _ (by rw [hcl]; rfl) TV.out.u rfl (by show _ < _; rw [hcl]; exact hul2) TV.out.b.size ?_
      intro g cap X8 r8 t8 hg hl8
      rw [hcl]
      clear hcl hul2
      have k9 : X8.cell? ⟨b3, 9, none⟩ = some (.slice uo us.length uc) := by rw [Lib.cell_of_heap (TV.out.tfu t8).h3]; rfl
      have f9 : X8.frozen? ⟨b3, 9, none⟩ = false := Lib.frozen_of_heap (TV.out.tfu t8).h3 9
      have TY := hide' (TV.out.rule (R := ⟨.bool bv, R.who, R.what, ao, ac, R.rl, R.cd, R.lv⟩) t8 r8 ⟨RA2.out, ⟨bv, rfl⟩, HR.out.2.2⟩ rfl)
      have HU2 : Hid ((us ++ [(⟨.bool bv, R.who, R.what, ao, ac, R.rl, R.cd, R.lv⟩ : Ru)]).length = i + 1 ∧ (us ++ [(⟨.bool bv, R.who, R.what, ao, ac, R.rl, R.cd, R.lv⟩ : Ru)]).map Ru.core = (F.u.2.2.take (i + 1)).map Ru.core) := by
        refine ⟨by rw [List.length_append, HU.out.1]; rfl, ?_⟩
        rw [List.map_append, HU.out.2, List.take_add_one, HR.out.1, List.map_append]
        congr 1
        show [(⟨.bool bv, R.who, R.what, none, 0, R.rl, R.cd, R.lv⟩ : Ru)] = [(⟨R.d, R.who, R.what, none, 0, R.rl, R.cd, R.lv⟩ : Ru)]
        rw [Hbv.out]
      clear hg hl8 r8 t8 TV RA2 q8
      go_wp2_with fail
      exact ⟨⟨i + 1, _, _, _, by go_num, by omega, HU2, TY⟩, by simp [intOf]; omega⟩
    · have hk : i = F.u.2.2.length := by omega
      have hlt' : ¬ (i : Int) < (F.u.2.2.length : Int) := by omega
      have HU3 : Hid (us.map Ru.core = F.u.2.2.map Ru.core) := by have := HU.out.2; rw [hk, List.take_length] at this; exact this
      clear hk HU
      have TP7 := TQ
      clear TQ
      go_wp2_with (with_reducible refine stay_fa3 (k := 10) rfl ?_)
      unfold Stay
      generalize wr = V7 at *
      clear hlt' hlt y1
      have x7a : V7.cell? ⟨b3, 10, none⟩ = some (.slice none 0 0) := TP7.out.c3 10
      have x7b : V7.cell? ⟨b1, 10, none⟩ = some (.slice F.x.1 F.x.2.2.length F.x.2.1) := TP7.out.c1 10
      have I7 := hide' (INV.out _ _ TP7.out)
      go_wp2_with (at_builtin; refine stay_app _ _ _ rfl ?_)
      unfold Stay
      refine X.wpList_appS _ rfl _ _ rfl w.heap.size F.x.1 F.x.2.1 F.x.2.2 rfl rfl I7.out.x.1 I7.out.x.2.2 (by have := Hs.out.x; show _ < _; omega) TP7.out.b.size ?_
      intro o17 c17 w17 r17 t17
      have q17 : w17.cell? ⟨b3, 10, none⟩ = some (.slice none 0 0) := (TP7.out.below t17).c3 10
      have f17 := (TP7.out.below t17).f3 10
      have TP8 : Hid (Tp F b1 b2 b3 (⟨(o1, c1, F.a.2.2), (o11, c11, F.s.2.2), (o2, c2, F.r.2.2), (o3, c3, F.o.2.2), (o4, c4, F.g.2.2), (o12, c12, F.m.2.2), (o13, c13, F.i.2.2), (o14, c14, F.p.2.2), (o15, c15, F.w.2.2), (uo, uc, us), (o17, c17, F.x.2.2)⟩ : Pf) w (w17.setCell ⟨b3, 10, none⟩ (.slice o17 F.x.2.2.length c17))) := (TP7.out.below t17).put 10 _ rfl { (TP7.out.below t17).rs with x := r17 } (TP7.out.below t17).u
      clear r17 t17 I7 TP7 x7a x7b
      go_wp2_with (with_reducible refine stay_load 34 _ rfl ?_)
      unfold Stay
      generalize w17.setCell ⟨b3, 10, none⟩ (.slice o17 F.x.2.2.length c17) = V8 at *
      clear q17 f17
      refine wpList_load_row rfl 34 _ rfl b3 rfl 34 (⟨(o1, c1, F.a.2.2), (o11, c11, F.s.2.2), (o2, c2, F.r.2.2), (o3, c3, F.o.2.2), (o4, c4, F.g.2.2), (o12, c12, F.m.2.2), (o13, c13, F.i.2.2), (o14, c14, F.p.2.2), (o15, c15, F.w.2.2), (uo, uc, us), (o17, c17, F.x.2.2)⟩ : Pf).arr (0, 0) _ TP8.out.h3 Try.underlying34 rfl (size_arr _) ?_
      obtain ⟨c2', hc2, hz2⟩ := TP8.out.h2
      go_wp2_with (with_reducible refine stay_store 34 _ _ rfl ?_)
      unfold Stay
      refine wpList_store_row rfl 34 _ _ rfl b2 (⟨(o1, c1, F.a.2.2), (o11, c11, F.s.2.2), (o2, c2, F.r.2.2), (o3, c3, F.o.2.2), (o4, c4, F.g.2.2), (o12, c12, F.m.2.2), (o13, c13, F.i.2.2), (o14, c14, F.p.2.2), (o15, c15, F.w.2.2), (uo, uc, us), (o17, c17, F.x.2.2)⟩ : Pf).arr rfl rfl 34 c2' hc2 (size_arr _) (by rw [hz2]; rfl) (by simp [Pf.arr, Value.oneCell']) ?_
      have qB := hide' (setRow_heap V8 b2 c2' (⟨(o1, c1, F.a.2.2), (o11, c11, F.s.2.2), (o2, c2, F.r.2.2), (o3, c3, F.o.2.2), (o4, c4, F.g.2.2), (o12, c12, F.m.2.2), (o13, c13, F.i.2.2), (o14, c14, F.p.2.2), (o15, c15, F.w.2.2), (uo, uc, us), (o17, c17, F.x.2.2)⟩ : Pf).arr 34 (0, 0) hc2)
      have tB : Hid (Turn (fun j => j = b2) V8 (V8.setRow b2 (⟨(o1, c1, F.a.2.2), (o11, c11, F.s.2.2), (o2, c2, F.r.2.2), (o3, c3, F.o.2.2), (o4, c4, F.g.2.2), (o12, c12, F.m.2.2), (o13, c13, F.i.2.2), (o14, c14, F.p.2.2), (o15, c15, F.w.2.2), (uo, uc, us), (o17, c17, F.x.2.2)⟩ : Pf).arr)) := setRow_turn V8 b2 _
      have hT : Soft2 (fun j => j = b2) V8 := fun j e => by
        have e' : j = b2 := e
        subst e'
        exact ⟨_, 34, hc2, .inl rfl⟩
      have RB := hide' (And.intro (TP8.out.rs.turn tB.out hT) (And.intro (show URow w.heap.size (⟨(o1, c1, F.a.2.2), (o11, c11, F.s.2.2), (o2, c2, F.r.2.2), (o3, c3, F.o.2.2), (o4, c4, F.g.2.2), (o12, c12, F.m.2.2), (o13, c13, F.i.2.2), (o14, c14, F.p.2.2), (o15, c15, F.w.2.2), (uo, uc, us), (o17, c17, F.x.2.2)⟩ : Pf) _ from TP8.out.u.turn tB.out (fun j q e => by obtain ⟨cur, k⟩ := kindG TP8.out.u q; rw [e] at k; exact cells_ne k hc2 (by decide) rfl)) (TP8.out.b.trans (below_own tB.out (fun j q => by rw [q]; exact TP8.out.l2) TP8.out.b.size))))
      clear hT tB hc2 hz2 TP8
      generalize V8.setRow b2 (⟨(o1, c1, F.a.2.2), (o11, c11, F.s.2.2), (o2, c2, F.r.2.2), (o3, c3, F.o.2.2), (o4, c4, F.g.2.2), (o12, c12, F.m.2.2), (o13, c13, F.i.2.2), (o14, c14, F.p.2.2), (o15, c15, F.w.2.2), (uo, uc, us), (o17, c17, F.x.2.2)⟩ : Pf).arr = V9 at *
      go_wp2_with fail
      exact bodyPost_ret (results_cell_row rfl _ _ b2 34 (⟨(o1, c1, F.a.2.2), (o11, c11, F.s.2.2), (o2, c2, F.r.2.2), (o3, c3, F.o.2.2), (o4, c4, F.g.2.2), (o12, c12, F.m.2.2), (o13, c13, F.i.2.2), (o14, c14, F.p.2.2), (o15, c15, F.w.2.2), (uo, uc, us), (o17, c17, F.x.2.2)⟩ : Pf).arr (0, 0) _ rfl qB.out Try.underlying34 rfl (size_arr _)) rfl ⟨_, rfl, ⟨rfl, rfl, rfl, rfl, rfl, rfl, rfl, rfl, rfl, HU3.out, rfl⟩, RB.out.1, RB.out.2.1, RB.out.2.2⟩
end U
end Go.Proofs.Ytdhmommfmmiieaa
set_option linter.unusedVariables false
set_option linter.unusedSimpArgs false
namespace Go.Proofs.Ytdhmommfmmiieaa
open Go.RowKit Go.Maps
namespace U
/-- a policy of one's own, in a block -/
structure Ps (B q : Nat) (J : Pf) (V : World) : Prop where
  h : V.heap[q]? = some (.cells J.arr 34 (0, 0))
  l : B ≤ q
  rs : Rest B J V
  u : URow B J V
theorem Ps.below {B q : Nat} {J : Pf} {V V' : World} (p : Ps B q J V) (t : Below V.heap.size V V') : Ps B q J V' := ⟨(t.block _ (lt_of_heap p.h)).trans p.h, p.l, p.rs.below t, p.u.below t⟩
theorem Ps.pin {B q : Nat} {J : Pf} {V : World} (p : Ps B q J V) : J.In V := p.rs.pin p.u
theorem Ps.c {B q : Nat} {J : Pf} {V : World} (p : Ps B q J V) (i : Nat) : V.cell? ⟨q, i, none⟩ = J.arr[i]? := by rw [Lib.cell_of_heap p.h]
theorem Ps.f {B q : Nat} {J : Pf} {V : World} (p : Ps B q J V) (i : Nat) : V.frozen? ⟨q, i, none⟩ = false := Lib.frozen_of_heap p.h i
theorem ps_new {B : Nat} {J : Pf} {V : World} (hB : B ≤ V.heap.size) (rs : Rest B J V) (u : URow B J V) : Ps B V.heap.size J (V.alloc (.cells J.arr 34)) := by
  have b : Below V.heap.size V (V.alloc (.cells J.arr 34)) := (Below.refl _ _).alloc (Nat.le_refl _) _
  exact ⟨heap_alloc_new V _, hB, rs.below b, u.below b⟩
/-- a field is written over -/
theorem Ps.put {B q : Nat} {J' : Pf} {V : World} {A : Array Value} (h : V.heap[q]? = some (.cells A 34 (0, 0))) (l : B ≤ q) (i : Nat) (v : Value) (e : A.setIfInBounds i v = J'.arr) (rs : Rest B J' V) (u : URow B J' V) : Ps B q J' (V.setCell ⟨q, i, none⟩ v) := by
  have t : Turn (fun j => j = q) V (V.setCell ⟨q, i, none⟩ v) := set_turn q i v V
  have hT : Soft2 (fun j => j = q) V := fun j e => by
    have e' : j = q := e
    subst e'
    exact ⟨_, 34, h, .inl rfl⟩
  exact ⟨by rw [heap_set h, e], l, rs.turn t hT, u.turn t (fun j a e => by obtain ⟨cur, k⟩ := kindG u a; rw [e] at k; exact cells_ne k h (by decide) rfl)⟩
/-- only triples are turned -/
theorem Rest.turnx {B : Nat} {J : Pf} {V V' : World} {Z : Nat → Prop} (h : Rest B J V) (t : Turn Z V V') (hZ : ∀ j, Z j → ∃ c, V.heap[j]? = some (.cells c 36 (0, 0))) {o : Option Addr} {c : Nat} {l : List X.K3} (r : X.RowI B o c l V') : Rest B { J with x := (o, c, l) } V' := by
  have ks : ∀ {o : Option Addr} {c : Nat} {l : List ByteArray}, S.RowI B o c l V → S.RowI B o c l V' := fun r => r.turn t (fun j q z => by obtain ⟨cur, k⟩ := kindS r q; obtain ⟨c', k'⟩ := hZ j z; exact cells_ne k k' (by decide) rfl)
  have kq : ∀ {o : Option Addr} {c : Nat} {l : List K2}, Q.RowI B o c l V → Q.RowI B o c l V' := fun r => r.turn t (fun j q z => by obtain ⟨cur, k⟩ := kindQ r q; obtain ⟨c', k'⟩ := hZ j z; exact cells_ne k k' (by decide) rfl)
  exact ⟨ks h.a, h.s.turn t (fun j q z => by obtain ⟨cur, k⟩ := kindT h.s q; obtain ⟨c', k'⟩ := hZ j z; exact cells_ne k k' (by decide) rfl), ks h.r, ks h.o, ks h.g, kq h.m, kq h.i, kq h.p, kq h.w, fun R hR => ⟨ks (h.ur R hR).1, (h.ur R hR).2⟩, r⟩
/-- an except is appended -/
theorem Ps.appx {B q : Nat} {J : Pf} {V V' : World} {g cap : Nat} {k : X.K3} (p : Ps B q J V) (t : Turn (X.At J.x.1) V V') (r : X.RowI B (some ⟨g, 0, none⟩) cap (J.x.2.2 ++ [k]) V') : Ps B q { J with x := (some ⟨g, 0, none⟩, cap, J.x.2.2 ++ [k]) } (V'.setCell ⟨q, 10, none⟩ (.slice (some ⟨g, 0, none⟩) (J.x.2.2.length + 1) cap)) ∧ V'.heap[q]? = some (.cells J.arr 34 (0, 0)) := by
  have hZ : ∀ j, X.At J.x.1 j → ∃ c, V.heap[j]? = some (.cells c 36 (0, 0)) := fun j q => kindX p.rs.x j q
  have h' := (t.block q (lt_of_heap p.h) (fun z => by obtain ⟨c, k⟩ := hZ q z; exact cells_ne p.h k (by decide) rfl)).trans p.h
  exact ⟨Ps.put h' p.l 10 _ (by show _ = Pf.arr _; simp [Pf.arr]) (p.rs.turnx t hZ r) (p.u.turn t (fun j a z => by obtain ⟨cur, k⟩ := kindG p.u a; obtain ⟨c, k'⟩ := hZ j z; exact cells_ne k k' (by decide) rfl)), h'⟩
/-- a rule is appended -/
theorem Ps.appu {B q : Nat} {J : Pf} {V V' : World} {g cap : Nat} {R : Ru} (p : Ps B q J V) (t : Turn (G.At J.u.1) V V') (r : G.RowI 27 6 B (some ⟨g, 0, none⟩) cap (J.u.2.2.map Ru.cells ++ [R.cells]) V') : V'.heap[q]? = some (.cells J.arr 34 (0, 0)) ∧ Rest B J V' := by
  have hT : Soft2 (G.At J.u.1) V := fun j a => by obtain ⟨cur, k⟩ := kindG p.u a; exact ⟨cur, 27, k, .inr rfl⟩
  exact ⟨(t.block q (lt_of_heap p.h) (fun z => by obtain ⟨c, k⟩ := kindG p.u z; exact cells_ne p.h k (by decide) rfl)).trans p.h, p.rs.turn t hT⟩
/-- 8.5 by all triples of names -/
def alt (F : Pf) (t : X.K3) : Bool := alw F t.1 t.2.1 t.2.2
def trs (al ol sl : List ByteArray) : List X.K3 := sl.flatMap fun s => ol.flatMap fun o => al.map fun a => (s, o, a)
def Pf.trs (F : Pf) : List X.K3 := U.trs (fo F.a.2.2) (fo F.o.2.2) (fo (F.s.2.2.map (·.1)))
theorem filter_flatMap' {α β : Type} (l : List α) (g : α → List β) (p : β → Bool) : (l.flatMap g).filter p = l.flatMap (fun a => (g a).filter p) := by
  induction l with
  | nil => rfl
  | cons a r ih => rw [List.flatMap_cons, List.flatMap_cons, List.filter_append, ih]
theorem rel_trs (F : Pf) : rel F = F.trs.filter (alt F) := by
  unfold rel relA relS Pf.trs trs
  rw [fo_fos, filter_flatMap', List.flatMap_map]
  congr 1
  funext s
  rw [filter_flatMap']
  congr 1
  funext o
  rw [relO_eq, List.filter_map]
  rfl
theorem mem_trs {al ol sl : List ByteArray} {t : X.K3} : t ∈ trs al ol sl ↔ t.1 ∈ sl ∧ t.2.1 ∈ ol ∧ t.2.2 ∈ al := by
  unfold trs
  simp only [List.mem_flatMap, List.mem_map]
  constructor
  · rintro ⟨s, hs, o, ho, a, ha, rfl⟩; exact ⟨hs, ho, ha⟩
  · rintro ⟨hs, ho, ha⟩; exact ⟨t.1, hs, t.2.1, ho, t.2.2, ha, rfl⟩
/-- the same names and pairs -/
structure Nm (F J : Pf) : Prop where
  a : J.a.2.2 = F.a.2.2
  s : J.s.2.2 = F.s.2.2
  o : J.o.2.2 = F.o.2.2
  m : J.m.2.2 = F.m.2.2
  i : J.i.2.2 = F.i.2.2
  p : J.p.2.2 = F.p.2.2
  w : J.w.2.2 = F.w.2.2
theorem Tw.nm {F J : Pf} (h : Tw F J) : Nm F J := ⟨h.a, h.s, h.o, h.m, h.i, h.p, h.w⟩
theorem mtc_nm {F J : Pf} (h : Nm F J) (R : Ru) (ts to ta : ByteArray) : mtc J.po R ts to ta = mtc F.po R ts to ta := by
  unfold mtc
  simp only [Pf.po, h.a, h.s, h.o, h.m, h.i, h.p, h.w]
theorem trs_nm {F J : Pf} (h : Nm F J) : J.trs = F.trs := by unfold Pf.trs; rw [h.a, h.s, h.o]
theorem any_core {us vs : List Ru} {f g : Ru → Bool} (h : us.map Ru.core = vs.map Ru.core) (hf : ∀ R, f R = g R.core) (hg : ∀ R, g R.core = g R) : us.any f = vs.any g := by
  have e1 : us.any f = (us.map Ru.core).any g := by rw [List.any_map]; congr 1; funext R; exact hf R
  have e2 : vs.any g = (vs.map Ru.core).any g := by rw [List.any_map]; congr 1; funext R; exact (hg R).symm
  rw [e1, e2, h]
theorem rany_nm {F J : Pf} (h : Nm F J) {us vs : List Ru} (hu : us.map Ru.core = vs.map Ru.core) (ts to ta : ByteArray) (dn : Bool) : rany J ts to ta dn us = rany F ts to ta dn vs := by
  unfold rany
  exact any_core hu (fun R => by unfold rsay; rw [mtc_nm h]; rfl) (fun R => rfl)
theorem alw_tw {F J : Pf} (h : Nm F J) (hu : J.u.2.2.map Ru.core = F.u.2.2.map Ru.core) (ts to ta : ByteArray) : alw J ts to ta = (rany F ts to ta false F.u.2.2 && !rany F ts to ta true F.u.2.2 && !exc J.x.2.2 (ts, to, ta)) := by
  unfold alw
  rw [rany_nm h hu, rany_nm h hu]
theorem few_nm {F J : Pf} (h : Nm F J) : (fos J.s.2.2).length * ((fo J.o.2.2).length * (fo J.a.2.2).length) = (fos F.s.2.2).length * ((fo F.o.2.2).length * (fo F.a.2.2).length) := by rw [h.a, h.s, h.o]
theorem core_mem {us vs : List Ru} (h : us.map Ru.core = vs.map Ru.core) {R : Ru} (hR : R ∈ us) : ∃ R' ∈ vs, R'.core = R.core := by
  have : R.core ∈ us.map Ru.core := List.mem_map_of_mem hR
  rw [h] at this
  obtain ⟨R', h1, h2⟩ := List.mem_map.1 this
  exact ⟨R', h1, h2⟩
theorem Tw.fine {F J : Pf} {N : Nat} (h : Tw F J) (f : Fine F N) : Fine J N where
  n := f.n
  a := by rw [h.a]; exact f.a
  s := by rw [h.s]; exact f.s
  r := by rw [h.r]; exact f.r
  o := by rw [h.o]; exact f.o
  g := by rw [h.g]; exact f.g
  mi := by rw [h.m, h.i]; exact f.mi
  pw := by rw [h.p, h.w]; exact f.pw
  u := by have := congrArg List.length h.u; rw [List.length_map, List.length_map] at this; rw [this]; exact f.u
  x := by rw [h.x]; exact f.x
  za := by rw [h.a]; exact f.za
  zs := by rw [h.s]; exact f.zs
  zo := by rw [h.o]; exact f.zo
  zm := by rw [h.m, h.i]; exact f.zm
  zp := by rw [h.p, h.w]; exact f.zp
  zu := fun R hR => by
    obtain ⟨R', h1, h2⟩ := core_mem h.u hR
    have q := f.zu R' h1
    have e1 : R'.who = R.who := (congrArg Ru.who h2 : _)
    have e2 : R'.what = R.what := (congrArg Ru.what h2 : _)
    have e3 : R'.rl = R.rl := (congrArg Ru.rl h2 : _)
    rw [e1, e2, e3] at q
    exact q
  zx := by rw [h.x]; exact f.zx
theorem Fine.mono {F : Pf} {N M : Nat} (f : Fine F N) (h : N ≤ M) (hM : M ≤ 1048576) : Fine F M :=
  ⟨hM, Nat.le_trans f.a h, Nat.le_trans f.s h, Nat.le_trans f.r h, Nat.le_trans f.o h, Nat.le_trans f.g h, Nat.le_trans f.mi h, Nat.le_trans f.pw h, Nat.le_trans f.u h, Nat.le_trans f.x h, fun a ha => Nat.le_trans (f.za a ha) h, fun a ha => Nat.le_trans (f.zs a ha) h, fun a ha => Nat.le_trans (f.zo a ha) h, fun q hq => ⟨Nat.le_trans (f.zm q hq).1 h, Nat.le_trans (f.zm q hq).2 h⟩, fun q hq => ⟨Nat.le_trans (f.zp q hq).1 h, Nat.le_trans (f.zp q hq).2 h⟩, fun R hR => ⟨Nat.le_trans (f.zu R hR).1 h, Nat.le_trans (f.zu R hR).2.1 h, fun a ha => Nat.le_trans ((f.zu R hR).2.2 a ha) h⟩, fun t ht => ⟨Nat.le_trans (f.zx t ht).1 h, Nat.le_trans (f.zx t ht).2.1 h, Nat.le_trans (f.zx t ht).2.2 h⟩⟩
end U
end Go.Proofs.Ytdhmommfmmiieaa
