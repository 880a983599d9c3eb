import Derived.Test.YtjmkofdnlhfaiaaAvP
set_option linter.unusedVariables false
set_option linter.unusedSimpArgs false
namespace Go.Proofs.Ytjmkofdnlhfaiaa
open Go.RowKit
namespace C
/-- the blocks of a cache -/
def Own (c g n : Nat) (b : Nat → Nat) (j : Nat) : Prop := j = c ∨ j = g ∨ ∃ i, i < n ∧ j = b i
/-- BLOCK c IS A CACHE of n sets of v places -/
structure Ca (B c g n v : Nat) (b : Nat → Nat) (s : St) (w : World) : Prop where
  hc : w.heap[c]? = some (.cells #[.slice (some ⟨g, 0, none⟩) n n, .int .i64 (s.hi : Nat), .int .i64 (s.mi : Nat), .int .i64 (s.ev : Nat)] 63 (0, 0))
  hg : w.heap[g]? = some (.cells (tab (2 * n) (srow b v s.h)) 66 (0, 0))
  hb : ∀ i, i < n → w.heap[b i]? = some (.cells (tab (7 * v) (prow (s.f i))) 76 (0, 0))
  inj : ∀ i i', i < n → i' < n → b i = b i' → i = i'
  lc : B ≤ c
  lg : B ≤ g
  lb : ∀ i, i < n → B ≤ b i
  n1 : 1 ≤ n
  n2 : n ≤ 256
  v1 : 1 ≤ v
  v2 : v ≤ 8
  hh : ∀ i, i < n → s.h i < v
variable {B c g n v : Nat} {b : Nat → Nat} {s : St} {w w' : World}
theorem Ca.lo (h : Ca B c g n v b s w) {j : Nat} (hj : Own c g n b j) : B ≤ j ∧ j < w.heap.size := by
  rcases hj with rfl | rfl | ⟨i, hi, rfl⟩
  · exact ⟨h.lc, lt_of_heap h.hc⟩
  · exact ⟨h.lg, lt_of_heap h.hg⟩
  · exact ⟨h.lb i hi, lt_of_heap (h.hb i hi)⟩
theorem Ca.kept {S : Nat → Prop} (h : Ca B c g n v b s w) (t : Turn S w w') (hn : ∀ j, Own c g n b j → ¬ S j) : Ca B c g n v b s w' :=
  ⟨(t.block c (lt_of_heap h.hc) (hn c (.inl rfl))).trans h.hc, (t.block g (lt_of_heap h.hg) (hn g (.inr (.inl rfl)))).trans h.hg, fun i hi => (t.block (b i) (lt_of_heap (h.hb i hi)) (hn _ (.inr (.inr ⟨i, hi, rfl⟩)))).trans (h.hb i hi), h.inj, h.lc, h.lg, h.lb, h.n1, h.n2, h.v1, h.v2, h.hh⟩
theorem Ca.below (h : Ca B c g n v b s w) (t : Below w.heap.size w w') : Ca B c g n v b s w' := h.kept (turn_below (S := fun _ => False) t) (fun _ _ q => q)
theorem Ca.drewN (h : Ca B c g n v b s w) (k : Nat) : Ca B c g n v b s (w.drewN k) := h.below (below_drewN w k)
theorem Ca.kind (h : Ca B c g n v b s w) {j : Nat} (hj : Own c g n b j) : ∃ cs t, w.heap[j]? = some (.cells cs t (0, 0)) ∧ (t = 63 ∨ t = 66 ∨ t = 76) := by
  rcases hj with rfl | rfl | ⟨i, hi, rfl⟩
  · exact ⟨_, _, h.hc, .inl rfl⟩
  · exact ⟨_, _, h.hg, .inr (.inl rfl)⟩
  · exact ⟨_, _, h.hb i hi, .inr (.inr rfl)⟩
theorem Ca.not (h : Ca B c g n v b s w) {j : Nat} {cs : Array Value} {t : TypeId} {r : Nat × Nat} (ho : w.heap[j]? = some (.cells cs t r)) (hk : t ≠ 63 ∧ t ≠ 66 ∧ t ≠ 76) : ¬ Own c g n b j := by
  intro hj
  obtain ⟨cs', t', h', q⟩ := h.kind hj
  have : t ≠ t' := by rcases q with rfl | rfl | rfl; exact hk.1; exact hk.2.1; exact hk.2.2
  exact cells_ne ho h' this rfl
theorem Ca.c0 (h : Ca B c g n v b s w) : w.cell? ⟨c, 0, none⟩ = some (.slice (some ⟨g, 0, none⟩) n n) := by rw [Lib.cell_of_heap h.hc]; rfl
theorem Ca.c1 (h : Ca B c g n v b s w) : w.cell? ⟨c, 1, none⟩ = some (.int .i64 (s.hi : Nat)) := by rw [Lib.cell_of_heap h.hc]; rfl
theorem Ca.c2 (h : Ca B c g n v b s w) : w.cell? ⟨c, 2, none⟩ = some (.int .i64 (s.mi : Nat)) := by rw [Lib.cell_of_heap h.hc]; rfl
theorem Ca.c3 (h : Ca B c g n v b s w) : w.cell? ⟨c, 3, none⟩ = some (.int .i64 (s.ev : Nat)) := by rw [Lib.cell_of_heap h.hc]; rfl
theorem Ca.fc (h : Ca B c g n v b s w) (j : Nat) : w.frozen? ⟨c, j, none⟩ = false := Lib.frozen_of_heap h.hc j
theorem Ca.g0 (h : Ca B c g n v b s w) {i : Nat} (hi : i < n) : w.cell? ⟨g, i * 2, none⟩ = some (.slice (some ⟨b i, 0, none⟩) v v) := by
  rw [Lib.cell_of_heap h.hg]; show (tab _ _)[i * 2]? = _; rw [tab_at (by omega), srow_even]
theorem Ca.g1 (h : Ca B c g n v b s w) {i : Nat} (hi : i < n) : w.cell? ⟨g, i * 2 + 1, none⟩ = some (.int .i64 (s.h i : Nat)) := by
  rw [Lib.cell_of_heap h.hg]; show (tab _ _)[i * 2 + 1]? = _; rw [tab_at (by omega), srow_odd]
theorem Ca.fg (h : Ca B c g n v b s w) (j : Nat) : w.frozen? ⟨g, j, none⟩ = false := Lib.frozen_of_heap h.hg j
theorem Ca.pc (h : Ca B c g n v b s w) {i j k : Nat} (hi : i < n) (hj : j < v) (hk : k < 7) : w.cell? ⟨b i, j * 7 + k, none⟩ = some (pv (s.f i j) k) := by
  rw [Lib.cell_of_heap (h.hb i hi)]; show (tab _ _)[j * 7 + k]? = _; rw [tab_at (by omega), prow_at _ _ _ hk]
theorem Ca.fb (h : Ca B c g n v b s w) {i : Nat} (hi : i < n) (j : Nat) : w.frozen? ⟨b i, j, none⟩ = false := Lib.frozen_of_heap (h.hb i hi) j
theorem Ca.ne_gb (h : Ca B c g n v b s w) {i : Nat} (hi : i < n) : g ≠ b i := cells_ne h.hg (h.hb i hi) (by decide)
theorem Ca.ne_cb (h : Ca B c g n v b s w) {i : Nat} (hi : i < n) : c ≠ b i := cells_ne h.hc (h.hb i hi) (by decide)
theorem Ca.ne_cg (h : Ca B c g n v b s w) : c ≠ g := cells_ne h.hc h.hg (by decide)
/-- the counts are written -/
theorem Ca.cset (h : Ca B c g n v b s w) (s' : St) (hf : s'.f = s.f) (hh : s'.h = s.h) (off : Nat) (u : Value) (hc : (#[.slice (some ⟨g, 0, none⟩) n n, .int .i64 (s.hi : Nat), .int .i64 (s.mi : Nat), .int .i64 (s.ev : Nat)] : Array Value).setIfInBounds off u = #[.slice (some ⟨g, 0, none⟩) n n, .int .i64 (s'.hi : Nat), .int .i64 (s'.mi : Nat), .int .i64 (s'.ev : Nat)]) :
    Ca B c g n v b s' (w.setCell ⟨c, off, none⟩ u) ∧ Turn (Own c g n b) w (w.setCell ⟨c, off, none⟩ u) := by
  have t := turn_b c off u w
  refine ⟨⟨by have := set_block (off := off) (v := u) h.hc; rw [hc] at this; exact this, by rw [hh]; exact (t.block g (lt_of_heap h.hg) (fun e => h.ne_cg e.symm)).trans h.hg, fun i hi => by rw [hf]; exact (t.block (b i) (lt_of_heap (h.hb i hi)) (fun e => h.ne_cb hi e.symm)).trans (h.hb i hi), h.inj, h.lc, h.lg, h.lb, h.n1, h.n2, h.v1, h.v2, by rw [hh]; exact h.hh⟩, t.mono (fun j _ e => .inl e)⟩
/-- a hand is turned -/
theorem Ca.hset (h : Ca B c g n v b s w) {i k : Nat} (hi : i < n) (hk : k < v) :
    Ca B c g n v b ⟨s.f, fup s.h i k, s.hi, s.mi, s.ev⟩ (w.setCell ⟨g, i * 2 + 1, none⟩ (.int .i64 (k : Nat))) ∧ Turn (Own c g n b) w (w.setCell ⟨g, i * 2 + 1, none⟩ (.int .i64 (k : Nat))) := by
  have t := turn_b g (i * 2 + 1) (.int .i64 (k : Nat)) w
  refine ⟨⟨(t.block c (lt_of_heap h.hc) h.ne_cg).trans h.hc, ?_, fun j hj => (t.block (b j) (lt_of_heap (h.hb j hj)) (fun e => h.ne_gb hj e.symm)).trans (h.hb j hj), h.inj, h.lc, h.lg, h.lb, h.n1, h.n2, h.v1, h.v2, fun j hj => ?_⟩, t.mono (fun j _ e => .inr (.inl e))⟩
  · have := set_block (off := i * 2 + 1) (v := .int .i64 (k : Nat)) h.hg
    rw [tab_set (g' := srow b v (fup s.h i k)) (fun q hq => ?_)] at this
    · exact this
    · unfold srow
      by_cases e : q = i * 2 + 1
      · rw [if_pos e, if_neg (by omega), show q / 2 = i by omega, fup_self]
      · rw [if_neg e]
        by_cases e2 : q % 2 = 0
        · rw [if_pos e2, if_pos e2]
        · rw [if_neg e2, if_neg e2, fup_ne _ _ (show q / 2 ≠ i by omega)]
  · show fup s.h i k j < v
    by_cases e : j = i
    · subst e; rw [fup_self]; exact hk
    · rw [fup_ne _ _ e]; exact h.hh j hj
/-- one cell of a place is written -/
theorem Ca.pset (h : Ca B c g n v b s w) {i j k : Nat} (hi : i < n) (hj : j < v) (hk : k < 7) (d : Option De) (u : Value) (hd : ∀ q, q < 7 → pv d q = if q = k then u else pv (s.f i j) q) :
    Ca B c g n v b ⟨fup2 s.f i j d, s.h, s.hi, s.mi, s.ev⟩ (w.setCell ⟨b i, j * 7 + k, none⟩ u) ∧ Turn (Own c g n b) w (w.setCell ⟨b i, j * 7 + k, none⟩ u) := by
  have t := turn_b (b i) (j * 7 + k) u w
  refine ⟨⟨(t.block c (lt_of_heap h.hc) (h.ne_cb hi)).trans h.hc, (t.block g (lt_of_heap h.hg) (h.ne_gb hi)).trans h.hg, fun q hq => ?_, h.inj, h.lc, h.lg, h.lb, h.n1, h.n2, h.v1, h.v2, h.hh⟩, t.mono (fun q _ e => .inr (.inr ⟨i, hi, e⟩))⟩
  show _ = some (Obj.cells (tab _ (prow (fup2 s.f i j d q))) 76 (0, 0))
  unfold fup2
  by_cases e : q = i
  · subst e
    rw [fup_self]
    have := set_block (off := j * 7 + k) (v := u) (h.hb q hi)
    rw [tab_set (g' := prow (fup (s.f q) j d)) (fun r hr => ?_)] at this
    · exact this
    · unfold prow
      by_cases e : r / 7 = j
      · rw [e, fup_self, hd _ (by omega)]
        by_cases e2 : r = j * 7 + k
        · rw [if_pos e2, if_pos (by omega)]
        · rw [if_neg e2, if_neg (by omega)]
      · rw [fup_ne _ _ e, if_neg (by omega)]
  · rw [fup_ne _ _ e]
    exact (t.block (b q) (lt_of_heap (h.hb q hq)) (fun z => e (h.inj q i hq hi z))).trans (h.hb q hq)
/-- a place's cells as a range -/
theorem Ca.range (h : Ca B c g n v b s w) {i j : Nat} (hi : i < n) (hj : j < v) : w.rangeAt (b i) (j * 7) (pcs (s.f i j)) := fun k u hu => by
  have hk : k < 7 := by have := (List.getElem?_eq_some_iff.1 hu).1; rwa [pcs_len] at this
  rw [h.pc hi hj hk]
  rw [pv_at _ hk] at hu
  exact hu
end C
end Go.Proofs.Ytjmkofdnlhfaiaa
