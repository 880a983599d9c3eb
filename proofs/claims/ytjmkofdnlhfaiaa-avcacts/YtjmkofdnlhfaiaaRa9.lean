import Derived.Test.YtjmkofdnlhfaiaaRa8
set_option linter.unusedVariables false
set_option linter.unusedSimpArgs false
namespace Go.Proofs.Ytjmkofdnlhfaiaa
open Go.RowKit
namespace C
variable {n v : Nat} {s : St} {L : List Dc} {B r hb : Nat} {lo : Option Addr} {lc : Nat} {w w' : World}
theorem Lr.same (h : Lr n v s L) {s' : St} (hf : s'.f = s.f) : Lr n v s' L := ⟨by rw [hf]; exact h.mem, h.rng, h.inj, h.spot, by rw [hf]; exact h.uniq⟩
/-- a hand is moved -/
theorem Rf.hset (h : Rf B r hb n v s L lo lc w) {i k : Nat} (hi : i < n) (hk : k < v) : Rf B r hb n v (sh s i k) L lo lc (w.setCell ⟨hb, i, none⟩ (.int .i64 (k : Nat))) ∧ Turn (RO r hb lo) w (w.setCell ⟨hb, i, none⟩ (.int .i64 (k : Nat))) := by
  have t := turn_b hb i (.int .i64 (k : Nat)) w
  refine ⟨⟨(t.block r (lt_of_heap h.hr) h.ne).trans h.hr, ?_, t.row h.row (fun j hj e => (h.nat (own_at hj)).2 e), h.lb, h.nv, fun q hq => ?_, h.lr.same rfl⟩, t.mono (fun j _ e => .inr (.inl e))⟩
  · have := set_block (off := i) (v := .int .i64 (k : Nat)) h.hh
    rw [tab_set (g' := fun q => .int .i64 (((sh s i k).h q : Nat) : Int)) (fun q hq => ?_)] at this
    · exact this
    · show _ = if q = i then _ else _
      by_cases e : q = i
      · rw [if_pos e, e]; show Value.int .i64 ((fup s.h i k i : Nat) : Int) = _; rw [fup_self]
      · rw [if_neg e]; show Value.int .i64 ((fup s.h i k q : Nat) : Int) = _; rw [fup_ne _ _ e]
  · show fup s.h i k q < v
    by_cases e : q = i
    · rw [e, fup_self]; exact hk
    · rw [fup_ne _ _ e]; exact h.hv q hq
theorem row_put {w : World} {B g N lc k q : Nat} {L : List Dc} {x x' : Dc} {u : Value} (h : w.ownsRow B 82 8 (.slice (some ⟨g, 0, none⟩) N lc) N (dcl L)) (hx : L[k]? = some x) (hq : q < 8) (hu : x.cells.set q u = x'.cells) : (w.setCell ⟨g, k * 8 + q, none⟩ u).ownsRow B 82 8 (.slice (some ⟨g, 0, none⟩) N lc) N (dcl (L.set k x')) ∧ (L.set k x')[k]? = some x' := by
  refine ⟨?_, by rw [List.getElem?_set_self (List.getElem?_eq_some_iff.1 hx).1]⟩
  rw [← dcl_set L k q x x' u hq hx hu]
  exact (World.ownsRow.stored h (k * 8 + q) u).1
/-- the eight cells of an entry -/
def put8 (w : World) (g k : Nat) (x : Dc) : World := (((((((w.setCell ⟨g, k * 8, none⟩ (.int .i64 (x.i : Nat))).setCell ⟨g, k * 8 + 1, none⟩ (.int .i64 (x.j : Nat))).setCell ⟨g, k * 8 + 2, none⟩ (.int .i64 x.d.t.s)).setCell ⟨g, k * 8 + 3, none⟩ (.int .i64 x.d.t.o)).setCell ⟨g, k * 8 + 4, none⟩ (.int .i64 x.d.t.a)).setCell ⟨g, k * 8 + 5, none⟩ (.int .i64 x.d.tag)).setCell ⟨g, k * 8 + 6, none⟩ (.bool x.d.al)).setCell ⟨g, k * 8 + 7, none⟩ (.bool x.d.mr)
theorem put8_turn (w : World) (g k : Nat) (x : Dc) : Turn (fun j => j = g) w (put8 w g k x) :=
  (((((((turn_b g _ _ w).trans (turn_b g _ _ _)).trans (turn_b g _ _ _)).trans (turn_b g _ _ _)).trans (turn_b g _ _ _)).trans (turn_b g _ _ _)).trans (turn_b g _ _ _)).trans (turn_b g _ _ _)
theorem put8_row {w : World} {B g N lc k : Nat} {L : List Dc} {x : Dc} (h : w.ownsRow B 82 8 (.slice (some ⟨g, 0, none⟩) N lc) N (dcl L)) {y : Dc} (hx : L[k]? = some x) : (put8 w g k y).ownsRow B 82 8 (.slice (some ⟨g, 0, none⟩) N lc) N (dcl (L.set k y)) := by
  obtain ⟨xi, xj, ⟨⟨xs, xo, xa⟩, xt, xl, xm⟩⟩ := x
  obtain ⟨yi, yj, ⟨⟨ys, yo, ya⟩, yt, yl, ym⟩⟩ := y
  obtain ⟨h0, e0⟩ := row_put (q := 0) (x' := ⟨yi, xj, ⟨⟨xs, xo, xa⟩, xt, xl, xm⟩⟩) (u := .int .i64 (yi : Nat)) h hx (by omega) rfl
  obtain ⟨h1, e1⟩ := row_put (q := 1) (x' := ⟨yi, yj, ⟨⟨xs, xo, xa⟩, xt, xl, xm⟩⟩) (u := .int .i64 (yj : Nat)) h0 e0 (by omega) rfl
  obtain ⟨h2, e2⟩ := row_put (q := 2) (x' := ⟨yi, yj, ⟨⟨ys, xo, xa⟩, xt, xl, xm⟩⟩) (u := .int .i64 ys) h1 e1 (by omega) rfl
  obtain ⟨h3, e3⟩ := row_put (q := 3) (x' := ⟨yi, yj, ⟨⟨ys, yo, xa⟩, xt, xl, xm⟩⟩) (u := .int .i64 yo) h2 e2 (by omega) rfl
  obtain ⟨h4, e4⟩ := row_put (q := 4) (x' := ⟨yi, yj, ⟨⟨ys, yo, ya⟩, xt, xl, xm⟩⟩) (u := .int .i64 ya) h3 e3 (by omega) rfl
  obtain ⟨h5, e5⟩ := row_put (q := 5) (x' := ⟨yi, yj, ⟨⟨ys, yo, ya⟩, yt, xl, xm⟩⟩) (u := .int .i64 yt) h4 e4 (by omega) rfl
  obtain ⟨h6, e6⟩ := row_put (q := 6) (x' := ⟨yi, yj, ⟨⟨ys, yo, ya⟩, yt, yl, xm⟩⟩) (u := .bool yl) h5 e5 (by omega) rfl
  obtain ⟨h7, e7⟩ := row_put (q := 7) (x' := ⟨yi, yj, ⟨⟨ys, yo, ya⟩, yt, yl, ym⟩⟩) (u := .bool ym) h6 e6 (by omega) rfl
  simp only [List.set_set] at h7
  exact h7
/-- an entry is written whole -/
theorem Rf.pall {g : Nat} (h : Rf B r hb n v s L (some ⟨g, 0, none⟩) lc w) {k : Nat} {x : Dc} (hx : L[k]? = some x) (y : Dc) {s' : St} (h1 : s'.h = s.h) (h2 : s'.hi = s.hi ∧ s'.mi = s.mi ∧ s'.ev = s.ev) (hlr : Lr n v s' (L.set k y)) :
    Rf B r hb n v s' (L.set k y) (some ⟨g, 0, none⟩) lc (put8 w g k y).drew ∧ Turn (RO r hb (some ⟨g, 0, none⟩)) w (put8 w g k y).drew := by
  have t := put8_turn w g k y
  have hat : At (some (⟨g, 0, none⟩ : Addr)) g := ⟨_, rfl, rfl⟩
  have hna := h.nat hat
  have := put8_row h.row (y := y) hx
  generalize put8 w g k y = W at *
  refine ⟨⟨?_, ?_, ?_, h.lb, h.nv, by rw [h1]; exact h.hv, hlr⟩, (t.mono (fun j _ e => .inr (.inr (e ▸ hat)))).drew⟩
  · rw [List.length_set, h2.1, h2.2.1, h2.2.2]; exact (t.block r (lt_of_heap h.hr) (fun e => hna.1 e.symm)).trans h.hr
  · rw [h1]; exact (t.block hb (lt_of_heap h.hh) (fun e => hna.2 e.symm)).trans h.hh
  · rw [List.length_set]; exact World.ownsRow.drew this
theorem Rg.step {y p : Nat} {t : Tr} {tag : Int} {al : Bool} {s' : St} {L' : List Dc} {w2 : World} (h : Rg B r hb n v s L lo lc y p t tag al w w') (hr : Rf B r hb n v s' L' lo lc w2) (tt : Turn (RO r hb lo) w' w2) : Rg B r hb n v s' L' lo lc y p t tag al w w2 :=
  ⟨hr, (tt.block y (lt_of_heap h.db) (fun e => h.ny y e rfl)).trans h.db, h.ny, h.low, h.tu.trans tt⟩
/-- amid the hand's turn -/
structure Tn (v : Nat) (R : Pf × Nat) (t : Tr) (f : Pf) (k m : Nat) : Prop where
  kv : k < v
  eq : R = trn v f k m
  ds : ∀ j, j < v → mkd f j = true → dst v k j < m
  full : ∀ j, j < v → ∃ d, f j = some d ∧ d.t ≠ t
theorem Tn.next {R : Pf × Nat} {t : Tr} {f : Pf} {k m : Nat} (h : Tn v R t f k (m + 1)) (hm : mkd f k = true) : Tn v R t (unm f k) (nx v k) m :=
  ⟨nx_lt h.kv, h.eq.trans (trn_yes hm), trn_inv h.kv h.ds hm, fun j hj => by
    obtain ⟨d, hd, ht⟩ := h.full j hj
    unfold unm
    by_cases e : j = k
    · rw [e, fup_self, ← e, hd]; exact ⟨umk d, rfl, ht⟩
    · rw [fup_ne _ _ e]; exact ⟨d, hd, ht⟩⟩
theorem Tn.pos {R : Pf × Nat} {t : Tr} {f : Pf} {k m : Nat} (h : Tn v R t f k m) (hm : mkd f k = true) : ∃ q, m = q + 1 := ⟨m - 1, by have := h.ds k h.kv hm; omega⟩
theorem sf_unm (s : St) (I : Nat) (f : Pf) (k k' : Nat) {d : De} (hd : f k = some d) (i' j' : Nat) : (sf s I (unm f k) k').f i' j' = if i' = I ∧ j' = k then some (umk d) else (sf s I f k').f i' j' := by
  show fup s.f I (unm f k) i' j' = if _ then _ else fup s.f I f i' j'
  by_cases e : i' = I
  · rw [e, fup_self, fup_self]
    unfold unm
    by_cases e2 : j' = k
    · rw [e2, fup_self, hd, if_pos ⟨rfl, rfl⟩]; rfl
    · rw [fup_ne _ _ e2, if_neg (fun q => e2 q.2)]
  · rw [fup_ne _ _ e, fup_ne _ _ e, if_neg (fun q => e q.1)]
end C
end Go.Proofs.Ytjmkofdnlhfaiaa
