import Derived.Test.YtnpdmeeolcjmlaaRmP
set_option linter.unusedVariables false
set_option linter.unusedSimpArgs false
namespace Go.Proofs.Ytnpdmeeolcjmlaa
open Go.RowKit
namespace T
open M
/-- where a move begins -/
structure Env where
  w0 : World
  w : World
  bg : Int
  N : Nat
  r : Nat
  x : Nat
  lb : Nat
  l1 : Nat
  l2 : Nat
  g : Nat
  tc : Nat
  ts : List Tk
  c : Nat
  f : Nat
  o : Nat
  D : Nat → Prop
  tr : List Ac
  bad : Nat
  oo : Option Addr
  oc : Nat
  i : Nat
  t : Tk
def Env.Ok (E : Env) : Prop := Rm E.w0 E.bg E.N E.r E.x E.lb E.l1 E.l2 E.g E.tc E.ts E.c E.f E.o E.D E.tr E.bad E.oo E.oc E.w ∧ E.ts[E.i]? = some E.t
def Env.S (E : Env) (j : Nat) : Prop := E.D j ∨ j = E.r ∨ j = E.g ∨ At E.oo j ∨ E.t.w = some j
/-- amid a move: the box q holds tq -/
structure Mid (E : Env) (q : Nat) (tq : Tk) (D1 : Nat → Prop) (v1 v2 : Int) (tr1 : List Ac) (bad1 c1 f1 : Nat) (oo1 : Option Addr) (o1 oc1 : Nat) (W : World) : Prop where
  mem : Mem D1 E.w0.heap.size E.x [0, v1, v2] tr1 bad1 W
  sub : ∀ j, D1 j → E.D j ∨ E.w.heap.size ≤ j
  hr : Rb E.r E.x E.lb E.g E.ts.length E.tc c1 f1 oo1 o1 oc1 W
  ord : W.ownsRow E.w0.heap.size 3 1 (.slice oo1 o1 oc1) o1 (ivs ((List.range o1).map fun (k : Nat) => (k : Int)))
  ods : ∀ j, At oo1 j → At E.oo j ∨ E.w.heap.size ≤ j
  dis : ∀ j, At oo1 j → ¬ D1 j
  row : W.ownsRow E.w0.heap.size 87 4 (.slice (some ⟨E.g, 0, none⟩) E.ts.length E.tc) E.ts.length (tks E.ts)
  bx : Bx q tq W
  hq : E.w.heap.size ≤ q
  tt : Turn E.S E.w W
  lg : E.g < E.w.heap.size
variable {E : Env} {q : Nat} {tq : Tk} {D1 : Nat → Prop} {v1 v2 : Int} {tr1 : List Ac} {bad1 c1 f1 : Nat} {oo1 : Option Addr} {o1 oc1 : Nat} {W W' : World}
theorem Env.Ok.nin (hE : E.Ok) {j : Nat} {cs : Array Value} {Ty : TypeId} {z : Nat × Nat} (hj : E.w.heap[j]? = some (.cells cs Ty z)) (hk : Ty ≠ 68 ∧ Ty ≠ 3 ∧ Ty ≠ 83) (h62 : Ty ≠ 62) (h87 : Ty ≠ 87) (h73 : Ty ≠ 73) : ¬ E.S j := by
  obtain ⟨h, hi⟩ := hE
  obtain ⟨_, csg, hg⟩ := row_blk h.row
  rintro (z | z | z | z | z)
  · exact h.mem.not hj hk z
  · exact cells_ne hj h.hr h62 z
  · exact cells_ne hj hg h87 z
  · obtain ⟨_, _, cs', h'⟩ := row_atk h.ord z
    exact cells_ne hj h' hk.2.1 rfl
  · obtain ⟨_, l, _, hw⟩ := h.wt E.i E.t j hi z
    exact cells_ne hj hw h73 rfl
theorem Mid.lk (h : Mid E q tq D1 v1 v2 tr1 bad1 c1 f1 oo1 o1 oc1 W) (hE : E.Ok) : Lk E.l1 E.x 1 2 W ∧ Lk E.l2 E.x 1 2 W :=
  ⟨hE.1.k1.kept h.tt (hE.nin hE.1.k1 (by decide) (by decide) (by decide) (by decide)), hE.1.k2.kept h.tt (hE.nin hE.1.k2 (by decide) (by decide) (by decide) (by decide))⟩
theorem Mid.lbk (h : Mid E q tq D1 v1 v2 tr1 bad1 c1 f1 oo1 o1 oc1 W) (hE : E.Ok) : Lb E.lb E.l1 E.l2 W := (h.tt.block E.lb (lt_of_heap hE.1.hL) (hE.nin hE.1.hL (by decide) (by decide) (by decide) (by decide))).trans hE.1.hL
theorem Mid.start (hE : E.Ok) (tq : Tk) : Mid E E.w.heap.size tq E.D (wrap64 (E.bg + (E.c : Nat))) (wrap64 (E.bg + (E.f : Nat))) E.tr E.bad E.c E.f E.oo E.o E.oc (E.w.alloc (.cells #[.pointer (tq.w.map fun b => ⟨b, 0, none⟩), .int .i64 tq.num, .bool tq.h, .int .i64 tq.st] 87)) := by
  obtain ⟨h, hi⟩ := hE
  have b : Below E.w.heap.size E.w (E.w.alloc (.cells #[.pointer (tq.w.map fun b => ⟨b, 0, none⟩), .int .i64 tq.num, .bool tq.h, .int .i64 tq.st] 87)) := (Below.refl _ _).alloc (Nat.le_refl _) _
  have t0 := turn_below (S := fun _ => False) b
  exact ⟨h.mem.below b, fun j hj => .inl hj, (b.block _ (lt_of_heap h.hr)).trans h.hr, t0.row h.ord (fun _ _ z => z), fun j hj => .inl hj, h.dis, t0.row h.row (fun _ _ z => z), heap_alloc_new _ _, Nat.le_refl _, t0.mono (fun j _ z => z.elim), by obtain ⟨_, cs, hg⟩ := row_blk h.row; exact lt_of_heap hg⟩
theorem Mid.below (h : Mid E q tq D1 v1 v2 tr1 bad1 c1 f1 oo1 o1 oc1 W) (b : Below W.heap.size W W') : Mid E q tq D1 v1 v2 tr1 bad1 c1 f1 oo1 o1 oc1 W' := by
  have t0 := turn_below (S := fun _ => False) b
  exact ⟨h.mem.below b, h.sub, (b.block _ (lt_of_heap h.hr)).trans h.hr, t0.row h.ord (fun _ _ z => z), h.ods, h.dis, t0.row h.row (fun _ _ z => z), (b.block _ (lt_of_heap h.bx)).trans h.bx, h.hq, h.tt.trans (t0.mono (fun j _ z => z.elim)), h.lg⟩
theorem Mid.box (h : Mid E q tq D1 v1 v2 tr1 bad1 c1 f1 oo1 o1 oc1 W) {t' : Tk} (t : Turn (fun j => j = q) W W') (hb : Bx q t' W') : Mid E q t' D1 v1 v2 tr1 bad1 c1 f1 oo1 o1 oc1 W' := by
  have hq := h.hq
  have lg := h.lg
  refine ⟨h.mem.kept t (fun j hj e => h.mem.not (e ▸ h.bx) (by decide) hj), h.sub, (t.block _ (lt_of_heap h.hr) (fun e => cells_ne h.hr h.bx (by decide) e)).trans h.hr, t.row h.ord (fun j hj e => ?_), h.ods, h.dis, t.row h.row (fun j hj e => ?_), hb, h.hq, h.tt.then t (fun j hj e => ?_), h.lg⟩
  · obtain ⟨_, _, cs', h'⟩ := row_atk h.ord (own_at hj)
    exact cells_ne h' h.bx (by decide) e
  · have : E.g = j := by simpa [Value.ownBlock] using hj
    omega
  · omega
theorem Mid.room (h : Mid E q tq D1 v1 v2 tr1 bad1 c1 f1 oo1 o1 oc1 W) {c2 f2 : Nat} (t : Turn (fun j => j = E.r) W W') (hb : Rb E.r E.x E.lb E.g E.ts.length E.tc c2 f2 oo1 o1 oc1 W') : Mid E q tq D1 v1 v2 tr1 bad1 c2 f2 oo1 o1 oc1 W' := by
  obtain ⟨_, csg, hg⟩ := row_blk h.row
  refine ⟨h.mem.kept t (fun j hj e => h.mem.not (e ▸ h.hr) (by decide) hj), h.sub, hb, t.row h.ord (fun j hj e => ?_), h.ods, h.dis, t.row h.row (fun j hj e => ?_), (t.block _ (lt_of_heap h.bx) (fun e => cells_ne h.bx h.hr (by decide) e)).trans h.bx, h.hq, h.tt.trans (t.mono (fun j _ e => .inr (.inl e))), h.lg⟩
  · obtain ⟨_, _, cs', h'⟩ := row_atk h.ord (own_at hj)
    exact cells_ne h' h.hr (by decide) e
  · have e2 : E.g = j := by simpa [Value.ownBlock] using hj
    exact cells_ne hg h.hr (by decide) (e2.trans e)
/-- a step on the memory, with a waiter that is the task's own or new -/
theorem Mid.mstep (h : Mid E q tq D1 v1 v2 tr1 bad1 c1 f1 oo1 o1 oc1 W) {D2 : Nat → Prop} {u1 u2 : Int} {tr2 : List Ac} {bad2 : Nat} {S : Nat → Prop} (hm : Mem D2 E.w0.heap.size E.x [0, u1, u2] tr2 bad2 W') (hs : ∀ j, D2 j → D1 j ∨ W.heap.size ≤ j) (t : Turn S W W') (hS : ∀ j, S j → D1 j ∨ (∃ cs, W.heap[j]? = some (.cells cs 73 (0, 0))) ∧ (E.t.w = some j ∨ E.w.heap.size ≤ j)) : Mid E q tq D2 u1 u2 tr2 bad2 c1 f1 oo1 o1 oc1 W' := by
  obtain ⟨_, csg, hg⟩ := row_blk h.row
  have sz := h.tt.size
  refine ⟨hm, fun j hj => ?_, (t.block _ (lt_of_heap h.hr) (fun e => ?_)).trans h.hr, t.row h.ord (fun j hj e => ?_), h.ods, fun j hj e => ?_, t.row h.row (fun j hj e => ?_), (t.block _ (lt_of_heap h.bx) (fun e => ?_)).trans h.bx, h.hq, h.tt.then t (fun j hj e => ?_), h.lg⟩
  · rcases hs j hj with z | z
    · exact h.sub j z
    · exact .inr (by omega)
  · rcases hS _ e with z | ⟨⟨cs, z⟩, _⟩
    · exact h.mem.not h.hr (by decide) z
    · exact cells_ne h.hr z (by decide) rfl
  · obtain ⟨_, _, cs', h'⟩ := row_atk h.ord (own_at hj)
    rcases hS _ e with z | ⟨⟨cs, z⟩, _⟩
    · exact h.dis j (own_at hj) z
    · exact cells_ne h' z (by decide) rfl
  · obtain ⟨_, hl, cs', h'⟩ := row_atk h.ord hj
    rcases hs j e with z | z
    · exact h.dis j hj z
    · omega
  · have e2 : E.g = j := by simpa [Value.ownBlock] using hj
    subst e2
    rcases hS _ e with z | ⟨⟨cs, z⟩, _⟩
    · exact h.mem.not hg (by decide) z
    · exact cells_ne hg z (by decide) rfl
  · rcases hS _ e with z | ⟨⟨cs, z⟩, _⟩
    · exact h.mem.not h.bx (by decide) z
    · exact cells_ne h.bx z (by decide) rfl
  · rcases hS _ e with z | ⟨_, z⟩
    · rcases h.sub j z with y | y
      · exact .inl y
      · omega
    · rcases z with y | y
      · exact .inr (.inr (.inr (.inr y)))
      · omega
theorem Mid.wto (h : Mid E q tq D1 v1 v2 tr1 bad1 c1 f1 oo1 o1 oc1 W) {b l : Nat} {u1 u2 : Int} {tr2 : List Ac} {bad2 : Nat} {tk tk' : Int} {has ho has' ho' : Bool} (hw : Wt b l tk has ho W) (hb : E.t.w = some b ∨ E.w.heap.size ≤ b) (k : WTo D1 E.w0.heap.size E.x b l [0, u1, u2] tr2 bad2 tk' has' ho' W W') : ∃ D2, Mid E q tq D2 u1 u2 tr2 bad2 c1 f1 oo1 o1 oc1 W' ∧ Wt b l tk' has' ho' W' := by
  obtain ⟨D2, hm, hw', t, s⟩ := k
  refine ⟨D2, h.mstep hm s t (fun j hj => ?_), hw'⟩
  rcases hj with z | z
  · exact .inl z
  · subst z; exact .inr ⟨⟨_, hw⟩, hb⟩
theorem Mid.to (h : Mid E q tq D1 v1 v2 tr1 bad1 c1 f1 oo1 o1 oc1 W) {u1 u2 : Int} {tr2 : List Ac} {bad2 : Nat} (k : To D1 E.w0.heap.size E.x [0, u1, u2] tr2 bad2 W W') : ∃ D2, Mid E q tq D2 u1 u2 tr2 bad2 c1 f1 oo1 o1 oc1 W' := by
  obtain ⟨D2, hm, t, s⟩ := k
  exact ⟨D2, h.mstep hm s t (fun j hj => .inl hj)⟩
/-- the box laid into the row: the move is through -/
theorem Mid.fin (h : Mid E q tq D1 v1 v2 tr1 bad1 c1 f1 oo1 o1 oc1 W) (hE : E.Ok) {N' : Nat} (hv1 : v1 = wrap64 (E.bg + (c1 : Nat))) (hv2 : v2 = wrap64 (E.bg + (f1 : Nat))) (hN : tr1.length ≤ N')
    (hw : ∀ b, tq.w = some b → E.w0.heap.size ≤ b ∧ (E.t.w = some b ∨ E.w.heap.size ≤ b) ∧ ∃ l, (l = E.l1 ∨ l = E.l2) ∧ Wt b l (wrap64 (E.bg + tq.num)) true tq.h W) :
    Rm E.w0 E.bg N' E.r E.x E.lb E.l1 E.l2 E.g E.tc (E.ts.set E.i tq) c1 f1 o1 D1 tr1 bad1 oo1 oc1 (wr4 W E.g E.i tq) := by
  have hil : E.i < E.ts.length := (List.getElem?_eq_some_iff.1 hE.2).1
  obtain ⟨_, csg, hg⟩ := row_blk h.row
  have t := wr4_turn W E.g E.i tq
  subst hv1
  subst hv2
  refine hE.1.close hE.2 (h.tt.trans (t.mono (fun j _ e => .inr (.inr (.inl e))))) (h.mem.kept t (fun j hj e => h.mem.not (e ▸ hg) (by decide) hj)) hN ((t.block _ (lt_of_heap h.hr) (fun e => cells_ne h.hr hg (by decide) e)).trans h.hr) (t.row h.ord (fun j hj e => ?_)) h.dis (wr4_row h.row hil tq) (fun b hb => ?_)
  · obtain ⟨_, _, cs', h'⟩ := row_atk h.ord (own_at hj)
    exact cells_ne h' hg (by decide) e
  · obtain ⟨z1, z2, l, z3, z4⟩ := hw b hb
    exact ⟨z1, z2, l, z3, z4.kept t (fun e => cells_ne z4 hg (by decide) e)⟩
theorem Rm.drew {w w0 : World} {bg : Int} {N r x lb l1 l2 g tc : Nat} {ts : List Tk} {c f o : Nat} {D : Nat → Prop} {tr : List Ac} {bad : Nat} {oo : Option Addr} {oc : Nat} (h : Rm w0 bg N r x lb l1 l2 g tc ts c f o D tr bad oo oc w) : Rm w0 bg N r x lb l1 l2 g tc ts c f o D tr bad oo oc w.drew :=
  ⟨h.mem.drew, h.len, h.hr, ((Turn.refl (fun _ => False) w).drew).row h.ord (fun _ _ q => q), h.dis, h.hL, h.k1, h.k2, ((Turn.refl (fun _ => False) w).drew).row h.row (fun _ _ q => q), h.wt, h.one, h.lr, h.bel.drew⟩
theorem Bx.e0 (h : Bx q tq W) : W.cell? ⟨q, 0, none⟩ = some (.pointer (tq.w.map fun b => ⟨b, 0, none⟩)) := by rw [Lib.cell_of_heap h]; rfl
theorem Bx.e1 (h : Bx q tq W) : W.cell? ⟨q, 1, none⟩ = some (.int .i64 tq.num) := by rw [Lib.cell_of_heap h]; rfl
theorem Bx.e2 (h : Bx q tq W) : W.cell? ⟨q, 2, none⟩ = some (.bool tq.h) := by rw [Lib.cell_of_heap h]; rfl
theorem Bx.e3 (h : Bx q tq W) : W.cell? ⟨q, 3, none⟩ = some (.int .i64 tq.st) := by rw [Lib.cell_of_heap h]; rfl
theorem Bx.fz (h : Bx q tq W) (j : Nat) : W.frozen? ⟨q, j, none⟩ = false := Lib.frozen_of_heap h j
theorem Bx.s0 (h : Bx q tq W) (b : Nat) : Bx q { tq with w := some b } (W.setCell ⟨q, 0, none⟩ (.pointer (some ⟨b, 0, none⟩))) := by have := set_block (off := 0) (v := .pointer (some ⟨b, 0, none⟩)) h; exact this
theorem Bx.s1 (h : Bx q tq W) (v : Int) : Bx q { tq with num := v } (W.setCell ⟨q, 1, none⟩ (.int .i64 v)) := by have := set_block (off := 1) (v := .int .i64 v) h; exact this
theorem Bx.s2 (h : Bx q tq W) (v : Bool) : Bx q { tq with h := v } (W.setCell ⟨q, 2, none⟩ (.bool v)) := by have := set_block (off := 2) (v := .bool v) h; exact this
theorem Bx.s3 (h : Bx q tq W) (v : Int) : Bx q { tq with st := v } (W.setCell ⟨q, 3, none⟩ (.int .i64 v)) := by have := set_block (off := 3) (v := .int .i64 v) h; exact this
theorem Mid.b0 (h : Mid E q tq D1 v1 v2 tr1 bad1 c1 f1 oo1 o1 oc1 W) (b : Nat) : Mid E q { tq with w := some b } D1 v1 v2 tr1 bad1 c1 f1 oo1 o1 oc1 (W.setCell ⟨q, 0, none⟩ (.pointer (some ⟨b, 0, none⟩))) := h.box (turn_b q 0 _ W) (h.bx.s0 b)
theorem Bx.s0n (h : Bx q tq W) : Bx q { tq with w := none } (W.setCell ⟨q, 0, none⟩ (.pointer none)) := by have := set_block (off := 0) (v := .pointer none) h; exact this
theorem Mid.b0n (h : Mid E q tq D1 v1 v2 tr1 bad1 c1 f1 oo1 o1 oc1 W) : Mid E q { tq with w := none } D1 v1 v2 tr1 bad1 c1 f1 oo1 o1 oc1 (W.setCell ⟨q, 0, none⟩ (.pointer none)) := h.box (turn_b q 0 _ W) h.bx.s0n
theorem Mid.b1 (h : Mid E q tq D1 v1 v2 tr1 bad1 c1 f1 oo1 o1 oc1 W) (v : Int) : Mid E q { tq with num := v } D1 v1 v2 tr1 bad1 c1 f1 oo1 o1 oc1 (W.setCell ⟨q, 1, none⟩ (.int .i64 v)) := h.box (turn_b q 1 _ W) (h.bx.s1 v)
theorem Mid.b2 (h : Mid E q tq D1 v1 v2 tr1 bad1 c1 f1 oo1 o1 oc1 W) (v : Bool) : Mid E q { tq with h := v } D1 v1 v2 tr1 bad1 c1 f1 oo1 o1 oc1 (W.setCell ⟨q, 2, none⟩ (.bool v)) := h.box (turn_b q 2 _ W) (h.bx.s2 v)
theorem Mid.b3 (h : Mid E q tq D1 v1 v2 tr1 bad1 c1 f1 oo1 o1 oc1 W) (v : Int) : Mid E q { tq with st := v } D1 v1 v2 tr1 bad1 c1 f1 oo1 o1 oc1 (W.setCell ⟨q, 3, none⟩ (.int .i64 v)) := h.box (turn_b q 3 _ W) (h.bx.s3 v)
theorem Mid.r3 (h : Mid E q tq D1 v1 v2 tr1 bad1 c1 f1 oo1 o1 oc1 W) (c2 : Nat) : Mid E q tq D1 v1 v2 tr1 bad1 c2 f1 oo1 o1 oc1 (W.setCell ⟨E.r, 3, none⟩ (.int .i64 (c2 : Nat))) := h.room (turn_b E.r 3 _ W) (by have := set_block (off := 3) (v := .int .i64 (c2 : Nat)) h.hr; exact this)
theorem Mid.r4 (h : Mid E q tq D1 v1 v2 tr1 bad1 c1 f1 oo1 o1 oc1 W) (f2 : Nat) : Mid E q tq D1 v1 v2 tr1 bad1 c1 f2 oo1 o1 oc1 (W.setCell ⟨E.r, 4, none⟩ (.int .i64 (f2 : Nat))) := h.room (turn_b E.r 4 _ W) (by have := set_block (off := 4) (v := .int .i64 (f2 : Nat)) h.hr; exact this)
theorem Mid.rc2 (h : Mid E q tq D1 v1 v2 tr1 bad1 c1 f1 oo1 o1 oc1 W) : W.cell? ⟨E.r, 2, none⟩ = some (.slice (some ⟨E.g, 0, none⟩) E.ts.length E.tc) := by rw [Lib.cell_of_heap h.hr]; rfl
theorem Mid.rc3 (h : Mid E q tq D1 v1 v2 tr1 bad1 c1 f1 oo1 o1 oc1 W) : W.cell? ⟨E.r, 3, none⟩ = some (.int .i64 (c1 : Nat)) := by rw [Lib.cell_of_heap h.hr]; rfl
theorem Mid.rc4 (h : Mid E q tq D1 v1 v2 tr1 bad1 c1 f1 oo1 o1 oc1 W) : W.cell? ⟨E.r, 4, none⟩ = some (.int .i64 (f1 : Nat)) := by rw [Lib.cell_of_heap h.hr]; rfl
theorem Mid.rc5 (h : Mid E q tq D1 v1 v2 tr1 bad1 c1 f1 oo1 o1 oc1 W) : W.cell? ⟨E.r, 5, none⟩ = some (.slice oo1 o1 oc1) := by rw [Lib.cell_of_heap h.hr]; rfl
theorem Mid.rf (h : Mid E q tq D1 v1 v2 tr1 bad1 c1 f1 oo1 o1 oc1 W) (j : Nat) : W.frozen? ⟨E.r, j, none⟩ = false := Lib.frozen_of_heap h.hr j
theorem Mid.gf (h : Mid E q tq D1 v1 v2 tr1 bad1 c1 f1 oo1 o1 oc1 W) (j : Nat) : W.frozen? ⟨E.g, j, none⟩ = false := by obtain ⟨_, cs, hg⟩ := row_blk h.row; exact Lib.frozen_of_heap hg j
theorem Mid.rq (h : Mid E q tq D1 v1 v2 tr1 bad1 c1 f1 oo1 o1 oc1 W) : E.r ≠ q := cells_ne h.hr h.bx (by decide)
theorem Mid.gq (h : Mid E q tq D1 v1 v2 tr1 bad1 c1 f1 oo1 o1 oc1 W) : E.g < q := Nat.lt_of_lt_of_le h.lg h.hq
end T
end Go.Proofs.Ytnpdmeeolcjmlaa
