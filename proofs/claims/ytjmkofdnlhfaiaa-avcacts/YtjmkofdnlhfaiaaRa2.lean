import Derived.Test.YtjmkofdnlhfaiaaRa1
set_option linter.unusedVariables false
set_option linter.unusedSimpArgs false
namespace Go.Proofs.Ytjmkofdnlhfaiaa
open Go.RowKit
namespace C
variable {n v : Nat} {s : St} {L : List Dc} {B r hb : Nat} {lo : Option Addr} {lc : Nat} {w w' : World}
theorem Lr.pn (h : Lr n v s L) : ∀ k, k ≤ n → (pls s.f v k).Nodup := by
  intro k
  induction k with
  | zero => intro _; exact List.nodup_nil
  | succ k ih =>
    intro hk
    unfold pls
    rw [List.nodup_append]
    refine ⟨ih (by omega), pl_nodup _ v (fun j j' d d' h1 h2 => h.uniq k j j' d d' (by omega) h1 h2), fun a ha b hb e => ?_⟩
    obtain ⟨i, hi, hm⟩ := (pls_mem s.f v a k).1 ha
    obtain ⟨j, d, h1, h2, h3⟩ := (pl_mem (s.f i) a v).1 hm
    obtain ⟨j', d', h1', h2', h3'⟩ := (pl_mem (s.f k) b v).1 hb
    have e1 := h.spot ⟨i, j, d⟩ ((h.mem i j d (by omega) h1).1 h2)
    have e2 := h.spot ⟨k, j', d'⟩ ((h.mem k j' d' (by omega) h1').1 h2')
    simp only at e1 e2
    rw [h3] at e1
    rw [h3', ← e] at e2
    omega
theorem Lr.count (h : Lr n v s L) : L.length = hsm s.f v n := by
  rw [← pls_len, ← List.length_map (f := fun x : Dc => x.d.t)]
  refine same_len ?_ (h.pn n (Nat.le_refl _)) (fun t => ?_)
  · rw [List.Nodup, List.pairwise_iff_getElem]
    intro i j hi hj hij e
    rw [List.length_map] at hi hj
    rw [List.getElem_map, List.getElem_map] at e
    have := h.one (List.getElem?_eq_getElem hi) (List.getElem?_eq_getElem hj) e
    omega
  · rw [pls_mem, List.mem_map]
    constructor
    · rintro ⟨x, hx, rfl⟩
      have hr := h.rng x hx
      exact ⟨x.i, hr.1, (pl_mem _ _ v).2 ⟨x.j, x.d, hr.2, (h.mem x.i x.j x.d hr.1 hr.2).2 hx, rfl⟩⟩
    · rintro ⟨i, hi, hm⟩
      obtain ⟨j, d, h1, h2, h3⟩ := (pl_mem _ _ v).1 hm
      exact ⟨⟨i, j, d⟩, (h.mem i j d hi h1).1 h2, h3⟩
theorem Lr.few (h : Lr n v s L) (hn : n ≤ 256) (hv : v ≤ 8) : L.length ≤ 2048 := by
  rw [h.count]
  exact Nat.le_trans (hsm_le s.f v n) (Nat.mul_le_mul hn hv)
/-- BLOCK r IS THE DOCUMENT'S CACHE: its hands in block hb, its list in a row of its own -/
structure Rf (B r hb n v : Nat) (s : St) (L : List Dc) (lo : Option Addr) (lc : Nat) (w : World) : Prop where
  hr : w.heap[r]? = some (.cells #[.int .i64 (n : Nat), .int .i64 (v : Nat), .slice (some ⟨hb, 0, none⟩) n n, .slice lo L.length lc, .int .i64 (s.hi : Nat), .int .i64 (s.mi : Nat), .int .i64 (s.ev : Nat)] 60 (0, 0))
  hh : w.heap[hb]? = some (.cells (tab n (fun i => .int .i64 ((s.h i : Nat) : Int))) 3 (0, 0))
  row : w.ownsRow B 82 8 (.slice lo L.length lc) L.length (dcl L)
  lb : B ≤ r ∧ B ≤ hb
  nv : (1 ≤ n ∧ n ≤ 256) ∧ (1 ≤ v ∧ v ≤ 8)
  hv : ∀ i, i < n → s.h i < v
  lr : Lr n v s L
/-- its blocks -/
def RO (r hb : Nat) (lo : Option Addr) (j : Nat) : Prop := j = r ∨ j = hb ∨ At lo j
theorem Rf.low (h : Rf B r hb n v s L lo lc w) {j : Nat} (hj : RO r hb lo j) : B ≤ j ∧ j < w.heap.size := by
  rcases hj with rfl | rfl | hj
  · exact ⟨h.lb.1, lt_of_heap h.hr⟩
  · exact ⟨h.lb.2, lt_of_heap h.hh⟩
  · have := row_atk h.row hj; exact ⟨this.1, this.2.1⟩
theorem Rf.kept {S : Nat → Prop} (h : Rf B r hb n v s L lo lc w) (t : Turn S w w') (hn : ∀ j, RO r hb lo j → ¬ S j) : Rf B r hb n v s L lo lc w' :=
  ⟨(t.block r (lt_of_heap h.hr) (hn r (.inl rfl))).trans h.hr, (t.block hb (lt_of_heap h.hh) (hn hb (.inr (.inl rfl)))).trans h.hh, t.row h.row (fun j hj => hn j (.inr (.inr (own_at hj)))), h.lb, h.nv, h.hv, h.lr⟩
theorem Rf.below (h : Rf B r hb n v s L lo lc w) (q : Below w.heap.size w w') : Rf B r hb n v s L lo lc w' := h.kept (turn_below (S := fun _ => False) q) (fun _ _ z => z)
theorem Rf.drewN (h : Rf B r hb n v s L lo lc w) (k : Nat) : Rf B r hb n v s L lo lc (w.drewN k) := h.below (below_drewN w k)
theorem Rf.c0 (h : Rf B r hb n v s L lo lc w) : w.cell? ⟨r, 0, none⟩ = some (.int .i64 (n : Nat)) := by rw [Lib.cell_of_heap h.hr]; rfl
theorem Rf.c1 (h : Rf B r hb n v s L lo lc w) : w.cell? ⟨r, 1, none⟩ = some (.int .i64 (v : Nat)) := by rw [Lib.cell_of_heap h.hr]; rfl
theorem Rf.c2 (h : Rf B r hb n v s L lo lc w) : w.cell? ⟨r, 2, none⟩ = some (.slice (some ⟨hb, 0, none⟩) n n) := by rw [Lib.cell_of_heap h.hr]; rfl
theorem Rf.c3 (h : Rf B r hb n v s L lo lc w) : w.cell? ⟨r, 3, none⟩ = some (.slice lo L.length lc) := by rw [Lib.cell_of_heap h.hr]; rfl
theorem Rf.c4 (h : Rf B r hb n v s L lo lc w) : w.cell? ⟨r, 4, none⟩ = some (.int .i64 (s.hi : Nat)) := by rw [Lib.cell_of_heap h.hr]; rfl
theorem Rf.c5 (h : Rf B r hb n v s L lo lc w) : w.cell? ⟨r, 5, none⟩ = some (.int .i64 (s.mi : Nat)) := by rw [Lib.cell_of_heap h.hr]; rfl
theorem Rf.c6 (h : Rf B r hb n v s L lo lc w) : w.cell? ⟨r, 6, none⟩ = some (.int .i64 (s.ev : Nat)) := by rw [Lib.cell_of_heap h.hr]; rfl
theorem Rf.fr (h : Rf B r hb n v s L lo lc w) (j : Nat) : w.frozen? ⟨r, j, none⟩ = false := Lib.frozen_of_heap h.hr j
theorem Rf.hc (h : Rf B r hb n v s L lo lc w) {i : Nat} (hi : i < n) : w.cell? ⟨hb, i, none⟩ = some (.int .i64 (s.h i : Nat)) := by
  rw [Lib.cell_of_heap h.hh]; show (tab _ _)[i]? = _; rw [tab_at hi]
theorem Rf.hf (h : Rf B r hb n v s L lo lc w) (j : Nat) : w.frozen? ⟨hb, j, none⟩ = false := Lib.frozen_of_heap h.hh j
theorem Rf.ent (h : Rf B r hb n v s L lo lc w) {k : Nat} {x : Dc} (hx : L[k]? = some x) : ∃ g, lo = some ⟨g, 0, none⟩ ∧ (∀ q u, x.cells[q]? = some u → w.cell? ⟨g, k * 8 + q, none⟩ = some u) ∧ (∀ q, w.frozen? ⟨g, q, none⟩ = false) := by
  have hk := (List.getElem?_eq_some_iff.1 hx).1
  rcases h.row.2 with ⟨hv, h0⟩ | ⟨g, cap, cur, hv, _, hg, _⟩
  · omega
  · simp only [Value.slice.injEq] at hv
    obtain ⟨rfl, _, rfl⟩ := hv
    refine ⟨g, rfl, fun q u hu => ?_, fun q => Lib.frozen_of_heap hg q⟩
    have hq : q < 8 := (List.getElem?_eq_some_iff.1 hu).1
    rw [World.ownsRow.cellAt h.row (k * 8 + q) (by omega), dcl_at L k q x hq hx]
    exact hu
theorem Rf.ne (h : Rf B r hb n v s L lo lc w) : r ≠ hb := cells_ne h.hr h.hh (by decide)
theorem Rf.nat (h : Rf B r hb n v s L lo lc w) {j : Nat} (hj : At lo j) : j ≠ r ∧ j ≠ hb := by
  obtain ⟨_, _, cs, hk⟩ := row_atk h.row hj
  exact ⟨cells_ne hk h.hr (by decide), cells_ne hk h.hh (by decide)⟩
/-- the counts are written -/
theorem Rf.cset (h : Rf B r hb n v s L lo lc w) (s' : St) (hf : s'.f = s.f) (hh : s'.h = s.h) (off : Nat) (u : Value) (hc : (#[.int .i64 (n : Nat), .int .i64 (v : Nat), .slice (some ⟨hb, 0, none⟩) n n, .slice lo L.length lc, .int .i64 (s.hi : Nat), .int .i64 (s.mi : Nat), .int .i64 (s.ev : Nat)] : Array Value).setIfInBounds off u = #[.int .i64 (n : Nat), .int .i64 (v : Nat), .slice (some ⟨hb, 0, none⟩) n n, .slice lo L.length lc, .int .i64 (s'.hi : Nat), .int .i64 (s'.mi : Nat), .int .i64 (s'.ev : Nat)]) :
    Rf B r hb n v s' L lo lc (w.setCell ⟨r, off, none⟩ u) ∧ Turn (RO r hb lo) w (w.setCell ⟨r, off, none⟩ u) := by
  have t := turn_b r off u w
  refine ⟨⟨by have := set_block (off := off) (v := u) h.hr; rw [hc] at this; exact this, by rw [hh]; exact (t.block hb (lt_of_heap h.hh) (fun e => h.ne e.symm)).trans h.hh, t.row h.row (fun j hj e => (h.nat (own_at hj)).1 e), h.lb, h.nv, by rw [hh]; exact h.hv, ⟨by rw [hf]; exact h.lr.mem, h.lr.rng, h.lr.inj, h.lr.spot, by rw [hf]; exact h.lr.uniq⟩⟩, t.mono (fun j _ e => .inl e)⟩
/-- one cell of an entry is written -/
theorem Rf.pset (h : Rf B r hb n v s L lo lc w) {k q g : Nat} {x x' : Dc} (hx : L[k]? = some x) (hq : q < 8) (hg : lo = some ⟨g, 0, none⟩) (u : Value) (hu : x.cells.set q u = x'.cells) {s' : St} (h1 : s'.h = s.h) (h2 : s'.hi = s.hi ∧ s'.mi = s.mi ∧ s'.ev = s.ev) (hlr : Lr n v s' (L.set k x')) :
    Rf B r hb n v s' (L.set k x') lo lc (w.setCell ⟨g, k * 8 + q, none⟩ u) ∧ Turn (RO r hb lo) w (w.setCell ⟨g, k * 8 + q, none⟩ u) := by
  have t := turn_b g (k * 8 + q) u w
  have hat : At lo g := ⟨_, hg, rfl⟩
  have hna := h.nat hat
  have hk := (List.getElem?_eq_some_iff.1 hx).1
  refine ⟨⟨?_, ?_, ?_, h.lb, h.nv, by rw [h1]; exact h.hv, hlr⟩, t.mono (fun j _ e => .inr (.inr (e ▸ hat)))⟩
  · rw [List.length_set, h2.1, h2.2.1, h2.2.2]; exact (t.block r (lt_of_heap h.hr) (fun e => hna.1 e.symm)).trans h.hr
  · rw [h1]; exact (t.block hb (lt_of_heap h.hh) (fun e => hna.2 e.symm)).trans h.hh
  · rw [List.length_set, ← dcl_set L k q x x' u hq hx hu]
    refine ⟨by rw [List.length_set]; exact h.row.1, ?_⟩
    rcases h.row.2 with ⟨hv, h0⟩ | ⟨g', cap', cur, hv, hb', hg', r1, r2, r3, r4⟩
    · omega
    · simp only [Value.slice.injEq] at hv
      obtain ⟨e1, _, rfl⟩ := hv
      rw [hg] at e1
      cases e1
      refine .inr ⟨g, lc, cur.setIfInBounds (k * 8 + q) u, by rw [hg], hb', set_block hg', r1, r2, by simpa using r3, ?_⟩
      rw [Array.toList_setIfInBounds, List.take_set, r4]
end C
end Go.Proofs.Ytjmkofdnlhfaiaa
