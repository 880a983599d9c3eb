import Derived.Test.YtbbopkhgmgdlfaaOneP
set_option linter.unusedVariables false
set_option linter.unusedSimpArgs false
namespace Go.Proofs.Ytbbopkhgmgdlfaa
open Go.RowKit
namespace F
open M
/-- what was written: from where, how many words, what -/
structure Wr where
  a : Int
  n : Int
  v : Int
def Wr.cells (e : Wr) : List Value := [.int .i64 e.a, .int .i64 e.n, .int .i64 e.v]
def Wr.ok (e : Wr) : Prop := 0 ≤ e.a ∧ 0 ≤ e.n ∧ e.a + e.n ≤ 65536
def Wr.cov (e : Wr) (a : Int) : Bool := decide (e.a ≤ a) && decide (a < e.a + e.n)
/-- a word, out of the log -/
def wv (lg : List Wr) (a : Int) : Int := lg.foldl (fun acc e => if e.cov a then e.v else acc) 0
theorem wv_snoc (lg : List Wr) (e : Wr) (a : Int) : wv (lg ++ [e]) a = if e.cov a then e.v else wv lg a := by simp [wv]
theorem wv_take (lg : List Wr) (p : Nat) (h : p < lg.length) (a : Int) : wv (lg.take (p + 1)) a = if (lg[p]).cov a then (lg[p]).v else wv (lg.take p) a := by
  rw [List.take_succ_eq_append_getElem h, wv_snoc]
def lgs (lg : List Wr) : List Value := lg.flatMap Wr.cells
def Own (x : Nat) (lo eo : Option Addr) (j : Nat) : Prop := j = x ∨ At lo j ∨ At eo j
/-- BLOCK x IS THE DOCUMENT's MEMORY of n words: its log and its entries lie in rows of their own -/
structure Re (B x n : Nat) (lo : Option Addr) (lc : Nat) (lg : List Wr) (eo : Option Addr) (ec : Nat) (tr : List Ac) (bad : Nat) (w : World) : Prop where
  hx : w.heap[x]? = some (.cells #[.int .i64 (n : Nat), .slice lo lg.length lc, .slice eo tr.length ec, .int .i64 (bad : Nat)] 85 (0, 0))
  log : w.ownsRow B 99 3 (.slice lo lg.length lc) lg.length (lgs lg)
  row : w.ownsRow B 75 5 (.slice eo tr.length ec) tr.length (acs tr)
  lx : B ≤ x
variable {B x n : Nat} {lo eo : Option Addr} {lc ec : Nat} {lg : List Wr} {tr : List Ac} {bad : Nat} {w w' : World}
theorem row_at {B e size m cap : Nat} {ao : Option Addr} {xs : List Value} (h : w.ownsRow B e size (.slice ao m cap) m xs) {j : Nat} (hj : At ao j) : B ≤ j ∧ j < w.heap.size ∧ ∃ cs, w.heap[j]? = some (.cells cs e (0, 0)) := by
  obtain ⟨a, rfl, rfl⟩ := hj
  rcases h.2 with ⟨hv, _⟩ | ⟨g', cap', cur, hv, hb, hg', _⟩
  · cases hv
  · simp only [Value.slice.injEq, Option.some.injEq] at hv
    obtain ⟨rfl, _, _⟩ := hv
    exact ⟨hb, lt_of_heap hg', cur, hg'⟩
theorem Re.ltx (h : Re B x n lo lc lg eo ec tr bad w) : x < w.heap.size := lt_of_heap h.hx
theorem Re.atl (h : Re B x n lo lc lg eo ec tr bad w) {j : Nat} (hj : At lo j) : j ≠ x ∧ ¬ At eo j ∧ B ≤ j ∧ j < w.heap.size := by
  obtain ⟨h1, h2, cs, h3⟩ := row_at h.log hj
  refine ⟨cells_ne h3 h.hx (by decide), fun q => ?_, h1, h2⟩
  obtain ⟨_, _, cs', h4⟩ := row_at h.row q
  exact cells_ne h3 h4 (by decide) rfl
theorem Re.ate (h : Re B x n lo lc lg eo ec tr bad w) {j : Nat} (hj : At eo j) : j ≠ x ∧ ¬ At lo j ∧ B ≤ j ∧ j < w.heap.size := by
  obtain ⟨h1, h2, cs, h3⟩ := row_at h.row hj
  exact ⟨cells_ne h3 h.hx (by decide), fun q => (h.atl q).2.1 hj, h1, h2⟩
theorem Re.own (h : Re B x n lo lc lg eo ec tr bad w) {j : Nat} (hj : Own x lo eo j) : B ≤ j ∧ j < w.heap.size := by
  rcases hj with rfl | hj | hj
  · exact ⟨h.lx, h.ltx⟩
  · exact (h.atl hj).2.2
  · exact (h.ate hj).2.2
theorem Re.kept {S : Nat → Prop} (h : Re B x n lo lc lg eo ec tr bad w) (t : Turn S w w') (hn : ∀ j, Own x lo eo j → ¬ S j) : Re B x n lo lc lg eo ec tr bad w' :=
  ⟨(t.block x h.ltx (hn x (.inl rfl))).trans h.hx, t.row h.log (fun j hj => hn j (.inr (.inl (own_at hj)))), t.row h.row (fun j hj => hn j (.inr (.inr (own_at hj)))), h.lx⟩
theorem Re.c0 (h : Re B x n lo lc lg eo ec tr bad w) : w.cell? ⟨x, 0, none⟩ = some (.int .i64 (n : Nat)) := by rw [Lib.cell_of_heap h.hx]; rfl
theorem Re.c1 (h : Re B x n lo lc lg eo ec tr bad w) : w.cell? ⟨x, 1, none⟩ = some (.slice lo lg.length lc) := by rw [Lib.cell_of_heap h.hx]; rfl
theorem Re.c2 (h : Re B x n lo lc lg eo ec tr bad w) : w.cell? ⟨x, 2, none⟩ = some (.slice eo tr.length ec) := by rw [Lib.cell_of_heap h.hx]; rfl
theorem Re.c3 (h : Re B x n lo lc lg eo ec tr bad w) : w.cell? ⟨x, 3, none⟩ = some (.int .i64 (bad : Nat)) := by rw [Lib.cell_of_heap h.hx]; rfl
theorem Re.fx (h : Re B x n lo lc lg eo ec tr bad w) (j : Nat) : w.frozen? ⟨x, j, none⟩ = false := Lib.frozen_of_heap h.hx j
theorem Re.badly (h : Re B x n lo lc lg eo ec tr bad w) (b' : Nat) : Re B x n lo lc lg eo ec tr b' (w.setCell ⟨x, 3, none⟩ (.int .i64 (b' : Nat))) ∧ Turn (Own x lo eo) w (w.setCell ⟨x, 3, none⟩ (.int .i64 (b' : Nat))) := by
  have t1 : Turn (fun k => k = x) w (w.setCell ⟨x, 3, none⟩ (.int .i64 (b' : Nat))) := (Turn.refl (fun k => k = x) w).setCell (p := ⟨x, 3, none⟩) (fun _ => rfl) _
  refine ⟨⟨set_block h.hx, ?_, ?_, h.lx⟩, t1.mono (fun k _ e => .inl e)⟩
  · exact t1.row h.log (fun j hj e => (h.atl (own_at hj)).1 e)
  · exact t1.row h.row (fun j hj e => (h.ate (own_at hj)).1 e)
theorem lgs_at (lg : List Wr) : ∀ (k r : Nat) (z : Wr), r < 3 → lg[k]? = some z → (lgs lg)[k * 3 + r]? = z.cells[r]? := by
  induction lg with
  | nil => intro k r z _ h; simp at h
  | cons a t ih =>
    intro k r z hr h
    rw [show lgs (a :: t) = a.cells ++ lgs t from rfl]
    have hl : a.cells.length = 3 := rfl
    cases k with
    | zero =>
      simp at h
      subst h
      rw [Nat.zero_mul, Nat.zero_add, List.getElem?_append_left (by omega)]
    | succ k =>
      rw [List.getElem?_append_right (by omega), hl, show (k + 1) * 3 + r - 3 = k * 3 + r by omega]
      exact ih k r z hr (by simpa using h)
theorem Re.lcell (h : Re B x n lo lc lg eo ec tr bad w) (h0 : 0 < lg.length) : ∃ g, lo = some ⟨g, 0, none⟩ ∧ g < w.heap.size ∧ ∀ k (hk : k < lg.length) r, r < 3 → w.cell? ⟨g, k * 3 + r, none⟩ = (lg[k]).cells[r]? := by
  obtain ⟨g, cap', hv, hb, hl⟩ := h.log.form h0
  simp only [Value.slice.injEq] at hv
  obtain ⟨rfl, _, rfl⟩ := hv
  refine ⟨g, rfl, hl, fun k hk r hr => ?_⟩
  have e := lgs_at lg k r _ hr (List.getElem?_eq_getElem hk)
  obtain ⟨u, hu⟩ : ∃ u, (lg[k]).cells[r]? = some u := ⟨(lg[k]).cells[r]'(show r < 3 from hr), List.getElem?_eq_getElem (show r < (lg[k]).cells.length from hr)⟩
  rw [hu] at e ⊢
  have := row_cell h.log _ u e
  rw [show (⟨g, 0, none⟩ : Addr).add (k * 3 + r) = ⟨g, k * 3 + r, none⟩ by unfold Addr.add; split <;> simp_all] at this
  exact this
end F
end Go.Proofs.Ytbbopkhgmgdlfaa
