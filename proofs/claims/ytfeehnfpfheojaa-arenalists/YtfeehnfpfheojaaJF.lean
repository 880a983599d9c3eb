import Derived.Test.YtfeehnfpfheojaaJA
import Derived.Test.YtfeehnfpfheojaaMore
import Derived.Test.YtfeehnfpfheojaaJE
set_option linter.unusedVariables false
set_option linter.unusedSimpArgs false
namespace Go.Proofs.Ytfeehnfpfheojaa
open Go.RowKit
namespace Gr
open Fr Ar Ra M
structure Rw where
  ao : Option Addr
  len : Nat
  cap : Nat
def Rw.v (r : Rw) : Value := .slice r.ao r.len r.cap
/-- rows of pieces, each in a block of its own -/
def Rows (B N : Nat) (G : Nat → Rw) (C : Nat → List Bk) (w : World) : Prop := ∀ i, i < N → (C i).length = (G i).len ∧ RowB B (G i).ao (G i).cap (C i) w
def Dj (N : Nat) (G : Nat → Rw) : Prop := ∀ i, i < N → ∀ k, k < N → ∀ j, At (G i).ao j → At (G k).ao j → i = k
def Ds (N : Nat) (G : Nat → Rw) (j : Nat) : Prop := ∃ i, i < N ∧ At (G i).ao j
/-- a slice of slices, wherever it lies -/
def Sl (w : World) (a : Option Addr) (N : Nat) (f : Nat → Value) : Prop := N = 0 ∨ ∃ b off cs r, a = some ⟨b, off, none⟩ ∧ w.heap[b]? = some (.cells cs 88 r) ∧ ∀ j, j < N → w.cell? ⟨b, off + j, none⟩ = some (f j)
variable {B N : Nat} {G V : Nat → Rw} {C X : Nat → List Bk} {w w' w0 : World} {a : Option Addr} {f : Nat → Value}
theorem Sl.turn {S : Nat → Prop} (h : Sl w a N f) (t : Turn S w w') (hn : ∀ j cs r, w.heap[j]? = some (.cells cs 88 r) → ¬ S j) : Sl w' a N f := by
  rcases h with h | ⟨b, off, cs, r, ha, hb, hc⟩
  · exact .inl h
  · exact .inr ⟨b, off, cs, r, ha, (t.block b (lt_of_heap hb) (hn b cs r hb)).trans hb, fun j hj => (t.cell (p := ⟨b, off + j, none⟩) (lt_of_heap hb) (hn b cs r hb)).trans (hc j hj)⟩
theorem Sl.get (h : Sl w a N f) {i : Nat} (hi : i < N) : ∃ b off, a = some ⟨b, off, none⟩ ∧ w.cell? ⟨b, off + i, none⟩ = some (f i) := by
  rcases h with h | ⟨b, off, cs, r, ha, hb, hc⟩
  · omega
  · exact ⟨b, off, ha, hc i hi⟩
theorem Sl.of_row {B' lc p : Nat} {ro : Option Addr} (h : w.ownsRow B' 88 1 (.slice ro p lc) p ((List.range p).map f)) : Sl w ro p f := by
  rcases h.2 with ⟨hv, h0⟩ | ⟨g, cap', cur, hv, hb, hg, hrest⟩
  · exact .inl h0
  · simp only [Value.slice.injEq] at hv
    obtain ⟨rfl, _, _⟩ := hv
    refine .inr ⟨g, 0, _, _, rfl, hg, fun j hj => ?_⟩
    rw [Nat.zero_add, h.cellAt j (by omega)]
    simp [hj]
theorem row_kind {e m : Nat} {ao : Option Addr} {n cap : Nat} {xs : List Value} (h : w.ownsRow B e m (.slice ao n cap) n xs) {j : Nat} (hj : At ao j) : B ≤ j ∧ ao = some ⟨j, 0, none⟩ ∧ ∃ cs r, w.heap[j]? = some (.cells cs e r) := by
  obtain ⟨b, rfl, rfl⟩ := hj
  rcases h.2 with ⟨hv, _⟩ | ⟨g, cap', cur, hv, hb, hg, _⟩
  · cases hv
  · simp only [Value.slice.injEq, Option.some.injEq] at hv
    obtain ⟨rfl, _, _⟩ := hv
    exact ⟨hb, rfl, _, _, hg⟩
theorem Rows.kind (h : Rows B N G C w) {j : Nat} (hj : Ds N G j) : B ≤ j ∧ j < w.heap.size ∧ ∃ cs r, w.heap[j]? = some (.cells cs 110 r) := by
  obtain ⟨i, hi, hj⟩ := hj
  obtain ⟨h1, _, cs, r, h2⟩ := row_kind (h i hi).2 hj
  exact ⟨h1, lt_of_heap h2, cs, r, h2⟩
theorem Rows.no88 (h : Rows B N G C w) (j : Nat) (cs : Array Value) (r : Nat × Nat) (hh : w.heap[j]? = some (.cells cs 88 r)) : ¬ Ds N G j := by
  intro q
  obtain ⟨_, _, cs', r', h2⟩ := h.kind q
  exact cells_ne hh h2 (by decide) rfl
theorem Rows.kept {S : Nat → Prop} (h : Rows B N G C w) (t : Turn S w w') (hn : ∀ i, i < N → ∀ j, At (G i).ao j → ¬ S j) : Rows B N G C w' :=
  fun i hi => ⟨(h i hi).1, (h i hi).2.kept t (hn i hi)⟩
theorem flat_set {k : Nat} {S : List Bk} (hk : k < S.length) (p : Bk) : (((S.flatMap tcb).set (k * 3) (.int .i64 p.addr)).set (k * 3 + 1) (.int .i64 p.size)).set (k * 3 + 2) (.bool p.free) = (S.set k p).flatMap tcb := by
  induction S generalizing k with
  | nil => simp at hk
  | cons x S ih =>
    cases k with
    | zero => simp [tcb]
    | succ k =>
      have := ih (k := k) (by simpa using hk)
      simp only [List.set_cons_succ, List.flatMap_cons]
      rw [← this]
      rw [List.set_append_right _ _ (by rw [tcb_len]; omega), tcb_len, List.set_append_right _ _ (by rw [tcb_len]; omega), tcb_len, List.set_append_right _ _ (by rw [tcb_len]; omega), tcb_len]
      rw [show (k + 1) * 3 - 3 = k * 3 by omega, show (k + 1) * 3 + 1 - 3 = k * 3 + 1 by omega, show (k + 1) * 3 + 2 - 3 = k * 3 + 2 by omega]
/-- the world behind a piece's store -/
def put3 (w : World) (g k : Nat) (p : Bk) : World := ((w.setCell ⟨g, k * 3, none⟩ (.int .i64 p.addr)).setCell ⟨g, k * 3 + 1, none⟩ (.int .i64 p.size)).setCell ⟨g, k * 3 + 2, none⟩ (.bool p.free)
theorem put3_turn (w : World) (g k : Nat) (p : Bk) : Turn (fun j => j = g) w (put3 w g k p) :=
  (((Turn.refl (fun j => j = g) w).setCell (p := ⟨g, k * 3, none⟩) (fun _ => rfl) _).setCell (p := ⟨g, k * 3 + 1, none⟩) (fun _ => rfl) _).setCell (p := ⟨g, k * 3 + 2, none⟩) (fun _ => rfl) _
/-- a piece written over -/
theorem row_put {ao : Option Addr} {sc k : Nat} {S : List Bk} (h : RowB B ao sc S w) (hk : k < S.length) (p : Bk) : ∃ g u0 u1 u2, ao = some ⟨g, 0, none⟩ ∧ S.length ≤ sc ∧ w.cell? ⟨g, k * 3, none⟩ = some u0 ∧ w.cell? ⟨g, k * 3 + 1, none⟩ = some u1 ∧ w.cell? ⟨g, k * 3 + 2, none⟩ = some u2 ∧
    RowB B ao sc (S.set k p) (put3 w g k p) ∧ (∀ i, w.frozen? ⟨g, i, none⟩ = false) := by
  obtain ⟨g, e, hle, c0, c1, c2⟩ := h.item (List.getElem?_eq_getElem hk)
  subst e
  refine ⟨g, _, _, _, rfl, hle, c0, c1, c2, ?_, fun i => World.ownsRow.frozenAt h i⟩
  have h1 := (World.ownsRow.stored h (k * 3) (.int .i64 p.addr)).1
  have h2 := (World.ownsRow.stored h1 (k * 3 + 1) (.int .i64 p.size)).1
  have h3 := (World.ownsRow.stored h2 (k * 3 + 2) (.bool p.free)).1
  rw [flat_set hk] at h3
  unfold RowB
  rw [List.length_set]
  exact h3
theorem Rows.put (h : Rows B N G C w) (hD : Dj N G) {p k : Nat} (hp : p < N) (hk : k < (G p).len) (v : Bk) : ∃ g u0 u1 u2, (G p).ao = some ⟨g, 0, none⟩ ∧ (G p).len ≤ (G p).cap ∧ w.cell? ⟨g, k * 3, none⟩ = some u0 ∧ w.cell? ⟨g, k * 3 + 1, none⟩ = some u1 ∧ w.cell? ⟨g, k * 3 + 2, none⟩ = some u2 ∧ (∀ i, w.frozen? ⟨g, i, none⟩ = false) ∧ Rows B N G (fun i => if i = p then (C p).set k v else C i) (put3 w g k v) ∧ Turn (Ds N G) w (put3 w g k v) := by
  obtain ⟨hl, hr⟩ := h p hp
  obtain ⟨g, u0, u1, u2, hg, hle, c0, c1, c2, hR, hf⟩ := row_put hr (k := k) (by omega) v
  refine ⟨g, u0, u1, u2, hg, by omega, c0, c1, c2, hf, fun i hi => ?_, (put3_turn w g k v).mono (fun j _ hj => ⟨p, hp, _, hg, hj⟩)⟩
  by_cases e : i = p
  · subst e
    simp only [if_true]
    exact ⟨by rw [List.length_set]; exact hl, hR⟩
  · simp only [if_neg e]
    exact ⟨(h i hi).1, (h i hi).2.kept (put3_turn w g k v) (fun j hj q => e (hD i hi p hp j hj ⟨_, hg, q⟩))⟩
theorem add_zero_off (g j : Nat) : (⟨g, 0, none⟩ : Addr).add j = ⟨g, j, none⟩ := by unfold Addr.add; split <;> simp_all
/-- append of a piece: in place, or the old block stays -/
theorem wpList_bk (w : World) {ops : Array Oper} {rest : List Oper} {o : Oper} {a : Act} {Q : Exit → Act → World → Prop} (hgd : o.guard = none) (s y : Operand)
    (ho : o.op = .call { callee := .builtin .append, args := #[s, y], argTypes := #[88, 88] }) {B : Nat} {ro : Option Addr} {rc : Nat} {zs : List Bk} {n : Nat} (hn : zs.length = n) (hrow : RowB B ro rc zs w) (hl : Hid (n < 1000000)) (hB : B ≤ w.heap.size) (v : Bk) (c : Nat) (hs : a.eval s = .slice ro n rc) (hx : a.eval y = .slice (some ⟨w.heap.size, 0, none⟩) 1 c)
    (hk : ∀ gg cap' w1, RowB B (some ⟨gg, 0, none⟩) cap' (zs ++ [v]) w1 → Turn (At ro) w w1 → (ro = some ⟨gg, 0, none⟩ ∧ cap' = rc ∨ w.heap.size ≤ gg ∧ Turn (fun _ => False) w w1) → wpList Try.prog ops Q rest (a.put o.dst (.slice (some ⟨gg, 0, none⟩) (n + 1) cap')) w1) :
    wpList Try.prog ops Q (o :: rest) a (w.alloc (.cells (tcb v).toArray 110)) := by
  subst hn
  obtain ⟨i0, hi0, hz0, hz1, hz2⟩ := info_parts info110
  have hrow' := World.ownsRow.alloc hrow (.cells (tcb v).toArray 110)
  have hnews : ∀ j u, (tcb v)[j]? = some u → (w.alloc (.cells (tcb v).toArray 110)).cell? ((⟨w.heap.size, 0, none⟩ : Addr).add j) = some u := fun j u hj => World.news_of_block (heap_alloc_new w (.cells (tcb v).toArray 110)) j u (by simpa using hj)
  have hone : ∀ u ∈ tcb v, u.oneCell' = true := by simp [tcb, Value.oneCell']
  have eiv : (zs ++ [v]).flatMap tcb = zs.flatMap tcb ++ tcb v := by simp
  have elen : (zs.flatMap tcb).length = zs.length * 3 := hrow.1
  unfold RowB at hk
  rw [eiv, List.length_append, List.length_singleton] at hk
  by_cases hr : zs.length + 1 ≤ rc
  · rcases hrow.2 with ⟨hv, h0⟩ | ⟨g, cap', cur, hv, hb, hg, hrest⟩
    · simp only [Value.slice.injEq] at hv
      obtain ⟨_, _, rfl⟩ := hv
      omega
    · simp only [Value.slice.injEq] at hv
      obtain ⟨rfl, _, rfl⟩ := hv
      refine wpList_append_fits _ hgd s y 88 ho B 110 i0 3 Try.underlying88 hi0 hz1 g zs.length rc (zs.flatMap tcb) hs hrow' ⟨w.heap.size, 0, none⟩ 1 c (tcb v) hx (by simp [tcb]) hnews hone hr ?_
      intro w1 r1 g1
      exact hk g rc w1 r1 (((Turn.refl _ w).alloc _).grown g1 (fun k hk _ => ⟨_, rfl, by cases hk; rfl⟩)) (.inl ⟨rfl, rfl⟩)
  · refine wpList_append_grows _ hgd s y 88 ho 110 i0 (.agg #[.int .i64 0, .int .i64 0, .bool false]) 3 24 Try.underlying88 hi0 hz0 hz1 hz2 rfl (by omega) ro zs.length rc (zs.flatMap tcb) hs ?_ (by rw [elen]) ?_ ⟨w.heap.size, 0, none⟩ 1 c (tcb v) hx (by simp [tcb]) hnews hone (by omega) (by have := hl.out; unfold maxLen; omega) (by have := hl.out; omega) ?_
    · intro h
      subst h
      rcases hrow.2 with ⟨hv, h0⟩ | ⟨g, cap', cur, hv, _⟩
      · simp only [Value.slice.injEq] at hv
        exact ⟨h0, hv.2.2⟩
      · cases hv
    · intro b hb j u hj
      subst hb
      obtain ⟨_, hq, _⟩ := row_kind hrow' (j := b.block) ⟨b, rfl, rfl⟩
      have hq' := Option.some.inj hq
      rw [hq'] at hrow' ⊢
      have hjl : j < zs.length * 3 := by rw [← elen]; exact (List.getElem?_eq_some_iff.1 hj).1
      have e := World.ownsRow.cellAt hrow' j hjl
      rw [hj] at e
      rw [add_zero_off]
      exact e
    · intro v' w1 r1 g1
      rcases r1.2 with ⟨_, h0⟩ | ⟨gg, cap', cur, rfl, hb, _⟩
      · omega
      · have hb' : w.heap.size ≤ gg := by
          have e : (w.alloc (.cells (tcb v).toArray 110)).heap.size = w.heap.size + 1 := by simp
          omega
        have t : Turn (fun _ => False) w w1 := ((Turn.refl _ w).alloc _).grown g1 (fun k hk => by cases hk)
        have r2 : w1.ownsRow B 110 3 (.slice (some ⟨gg, 0, none⟩) (zs.length + 1) cap') (zs.length + 1) (zs.flatMap tcb ++ tcb v) := by
          refine ⟨r1.1, ?_⟩
          rcases r1.2 with h | ⟨g2, c2, cur2, hv, hb2, rest2⟩
          · exact .inl h
          · exact .inr ⟨g2, c2, cur2, hv, by have : (w.alloc (.cells (tcb v).toArray 110)).heap.size = w.heap.size + 1 := by simp
                                             omega, rest2⟩
        exact hk gg cap' w1 r2 (t.mono (fun _ _ q => q.elim)) (.inr ⟨hb', t⟩)
def mk1 (i k : Nat) : Bk := ⟨-1 - (i : Int), (k : Int), false⟩
def mk2 (i k : Nat) : Bk := ⟨-100 - (i : Int), (k : Int), false⟩
/-- while the rows are written over -/
structure S2 (B N : Nat) (G : Nat → Rw) (w0 : World) (p k : Nat) (C : Nat → List Bk) (w : World) : Prop where
  rows : Rows B N G C w
  tn : Turn (Ds N G) w0 w
  pre : ∀ i, i < N → i < p → C i = (List.range (G i).len).map (mk1 i)
  part : ∀ j, j < k → (C p)[j]? = some (mk1 p j)
theorem S2.put {p k : Nat} (h : S2 B N G w0 p k C w) (hD : Dj N G) (hp : p < N) (hk : k < (G p).len) : ∃ g u0 u1 u2 C', (G p).ao = some ⟨g, 0, none⟩ ∧ (G p).len ≤ (G p).cap ∧ w.cell? ⟨g, k * 3, none⟩ = some u0 ∧ w.cell? ⟨g, k * 3 + 1, none⟩ = some u1 ∧ w.cell? ⟨g, k * 3 + 2, none⟩ = some u2 ∧ (∀ i, w.frozen? ⟨g, i, none⟩ = false) ∧ S2 B N G w0 p (k + 1) C' (put3 w g k (mk1 p k)) := by
  obtain ⟨g, u0, u1, u2, hg, hle, c0, c1, c2, hf, hR, ht⟩ := h.rows.put hD hp hk (mk1 p k)
  refine ⟨g, u0, u1, u2, _, hg, hle, c0, c1, c2, hf, hR, h.tn.trans ht, fun i hi hl => ?_, fun j hj => ?_⟩
  · rw [if_neg (by omega)]; exact h.pre i hi hl
  · simp only [if_true]
    have hl := (h.rows p hp).1
    by_cases e : j = k
    · subst e
      simp [hl, hk]
    · have := h.part j (by omega)
      rw [List.getElem?_set_ne (by omega)]
      exact this
theorem S2.next {p : Nat} (h : S2 B N G w0 p (G p).len C w) (hp : p < N) : S2 B N G w0 (p + 1) 0 C w := by
  refine ⟨h.rows, h.tn, fun i hi hl => ?_, fun j hj => by omega⟩
  by_cases e : i = p
  · subst e
    have hl := (h.rows i hi).1
    apply List.ext_getElem?
    intro j
    by_cases hj : j < (G i).len
    · rw [h.part j hj]; simp [hj]
    · rw [List.getElem?_eq_none (by omega), List.getElem?_eq_none (by simp; omega)]
  · exact h.pre i hi (by omega)
/-- what the rows hold then -/
def Fn (G : Nat → Rw) (i : Nat) : List Bk := (List.range (G i).len).map (mk1 i)
def Hn (G : Nat → Rw) (i k : Nat) : List Bk := Fn G i ++ (List.range k).map (mk2 i)
theorem Fn.len (G : Nat → Rw) (i : Nat) : (Fn G i).length = (G i).len := by simp [Fn]
theorem Hn.len (G : Nat → Rw) (i k : Nat) : (Hn G i k).length = (G i).len + k := by simp [Hn, Fn]
theorem Hn.succ (G : Nat → Rw) (i k : Nat) : Hn G i k ++ [mk2 i k] = Hn G i (k + 1) := by simp [Hn, List.range_succ]
theorem S2.done {p k : Nat} (h : S2 B N G w0 p k C w) (hp : N ≤ p) : Rows B N G (Fn G) w ∧ Turn (Ds N G) w0 w := by
  refine ⟨fun i hi => ?_, h.tn⟩
  have e : Fn G i = C i := (h.pre i hi (by omega)).symm
  rw [e]
  exact h.rows i hi
/-- while the long rows are made -/
structure S3 (B N : Nat) (G : Nat → Rw) (w0 : World) (p sz : Nat) (L : Nat → Rw) (la : Option Addr) (lc : Nat) (w : World) : Prop where
  rows : Rows B N G (Fn G) w
  tn : Turn (Ds N G) w0 w
  z1 : w0.heap.size ≤ sz
  z2 : sz ≤ w.heap.size
  row : w.ownsRow w0.heap.size 88 1 (.slice la p lc) p ((List.range p).map (fun i => (L i).v))
  lg : ∀ i, i < p → (L i).len = (G i).len + 64 ∧ BkS w (L i).ao (Hn G i 64) ∧ ∀ j, At (L i).ao j → At (G i).ao j ∨ (w0.heap.size ≤ j ∧ j < sz ∧ ∃ cs r, w.heap[j]? = some (.cells cs 110 r))
/-- within a round -/
structure S4 (B N : Nat) (G : Nat → Rw) (w0 : World) (p sz : Nat) (L : Nat → Rw) (la : Option Addr) (lc : Nat) (k : Nat) (l : Rw) (w : World) : Prop where
  st : S3 B N G w0 p sz L la lc w
  ll : l.len = (G p).len + k
  own : RowB B l.ao l.cap (Hn G p k) w
  at_ : (l.ao = (G p).ao ∧ l.cap = (G p).cap) ∨ ∃ g, l.ao = some ⟨g, 0, none⟩ ∧ sz ≤ g
variable {p sz lc k : Nat} {L : Nat → Rw} {la : Option Addr} {l : Rw}
theorem bkS_turn {S : Nat → Prop} {ao : Option Addr} {zs : List Bk} (h : BkS w ao zs) (t : Turn S w w') (hn : zs ≠ [] → ∀ j, At ao j → ¬ S j) : BkS w' ao zs := by
  by_cases h0 : zs = []
  · exact .inl h0
  rcases h with h | ⟨g, off, e, hg, hc⟩
  · exact .inl h
  · have hS := hn h0 g ⟨_, e, rfl⟩
    exact .inr ⟨g, off, e, Nat.lt_of_lt_of_le hg t.size, fun j hj => ⟨(t.cell (p := ⟨g, off + j * 3, none⟩) hg hS).trans (hc j hj).1, (t.cell (p := ⟨g, off + j * 3 + 1, none⟩) hg hS).trans (hc j hj).2.1, (t.cell (p := ⟨g, off + j * 3 + 2, none⟩) hg hS).trans (hc j hj).2.2⟩⟩
theorem S3.turn {S : Nat → Prop} (h : S3 B N G w0 p sz L la lc w) (h0 : Rows B N G C w0) (hp : p ≤ N) (t : Turn S w w') (hR : Rows B N G (Fn G) w') (hS : ∀ j, S j → Ds N G j ∨ sz ≤ j) (hg : ∀ j, S j → ∀ i, i < p → ¬ At (G i).ao j) (hk : ∀ j, S j → ∀ cs r, w.heap[j]? ≠ some (.cells cs 88 r)) : S3 B N G w0 p sz L la lc w' := by
  have h1 := h.z1
  have h2 := h.z2
  have h3 := t.size
  have key : ∀ i, i < p → ∀ j, At (L i).ao j → ¬ S j := fun i hi j hj q => by
    rcases (h.lg i hi).2.2 j hj with a1 | ⟨a1, a2, _⟩
    · exact hg j q i hi a1
    · rcases hS j q with b1 | b1
      · have := (h0.kind b1).2.1
        omega
      · omega
  refine ⟨hR, h.tn.then t (fun i hi q => ?_), h1, by omega, t.row h.row (fun j hj q => ?_), fun i hi => ?_⟩
  · rcases hS i q with b | b
    · exact b
    · omega
  · obtain ⟨_, _, cs, r, hh⟩ := row_kind h.row (own_at hj)
    exact hk j q cs r hh
  · obtain ⟨a1, a2, a3⟩ := h.lg i hi
    refine ⟨a1, bkS_turn a2 t (fun _ j hj => key i hi j hj), fun j hj => ?_⟩
    rcases a3 j hj with b | ⟨b1, b2, cs, r, b3⟩
    · exact .inl b
    · exact .inr ⟨b1, b2, cs, r, (t.block j (by omega) (key i hi j hj)).trans b3⟩
theorem row_prefix {g cap : Nat} {zs ys : List Bk} (h : RowB B (some ⟨g, 0, none⟩) cap (zs ++ ys) w) : RowB B (some ⟨g, 0, none⟩) cap zs w := by
  have hl := h.1
  have el : ∀ q : List Bk, (q.flatMap tcb).length = q.length * 3 := fun q => by induction q with
    | nil => rfl
    | cons x q ih => rw [List.flatMap_cons, List.length_append, ih, tcb_len, List.length_cons]; omega
  refine ⟨el zs, ?_⟩
  rcases h.2 with ⟨hv, _⟩ | ⟨g', cap', cur, hv, hb, hg, h1, h2, h3, h4⟩
  · cases hv
  · simp only [Value.slice.injEq, Option.some.injEq] at hv
    obtain ⟨hv1, _, rfl⟩ := hv
    cases hv1
    rw [List.length_append] at h1
    refine .inr ⟨g, cap, cur, rfl, hb, hg, by omega, h2, h3, ?_⟩
    have : (cur.toList.take ((zs ++ ys).length * 3)).take (zs.length * 3) = zs.flatMap tcb := by
      rw [h4, List.flatMap_append, List.take_append_of_le_length (by rw [el]; exact Nat.le_refl _), List.take_of_length_le (by rw [el]; exact Nat.le_refl _)]
    rw [List.take_take, Nat.min_eq_left (by rw [List.length_append]; omega)] at this
    exact this
theorem S4.step (h : S4 B N G w0 p sz L la lc k l w) (h0 : Rows B N G C w0) (hD : Dj N G) (hp : p < N) {gg cap' : Nat} {w1 : World} (r1 : RowB B (some ⟨gg, 0, none⟩) cap' (Hn G p k ++ [mk2 p k]) w1) (t : Turn (At l.ao) w w1) (hgg : l.ao = some ⟨gg, 0, none⟩ ∧ cap' = l.cap ∨ w.heap.size ≤ gg ∧ Turn (fun _ => False) w w1) :
    S4 B N G w0 p sz L la lc (k + 1) ⟨some ⟨gg, 0, none⟩, l.len + 1, cap'⟩ w1 := by
  have z1 := h.st.z1
  have z2 := h.st.z2
  have hl : ∀ j, At l.ao j → At (G p).ao j ∨ sz ≤ j := fun j hj => by
    rcases h.at_ with ⟨a1, _⟩ | ⟨g, a1, a2⟩
    · rw [a1] at hj; exact .inl hj
    · rw [a1] at hj
      obtain ⟨b, hb, rfl⟩ := hj
      cases hb
      exact .inr a2
  have hR : Rows B N G (Fn G) w1 := fun i hi => by
    refine ⟨Fn.len G i, ?_⟩
    by_cases e : i = p
    · subst e
      rcases hgg with ⟨b1, b2⟩ | ⟨b1, b2⟩
      · rcases h.at_ with ⟨a1, a2⟩ | ⟨g, a1, a2⟩
        · rw [b1] at a1
          rw [← a1, ← a2, ← b2]
          rw [Hn, List.append_assoc] at r1
          exact row_prefix r1
        · refine (h.st.rows i hi).2.kept t (fun j hj q => ?_)
          rw [a1] at q
          obtain ⟨b, hb, rfl⟩ := q
          cases hb
          have := (h0.kind ⟨i, hi, hj⟩).2.1
          simp only at this
          omega
      · exact (h.st.rows i hi).2.kept b2 (fun _ _ q => q)
    · refine (h.st.rows i hi).2.kept t (fun j hj q => ?_)
      rcases hl j q with b | b
      · exact e (hD i hi p hp j hj b)
      · have := (h0.kind ⟨i, hi, hj⟩).2.1
        omega
  refine ⟨h.st.turn h0 (Nat.le_of_lt hp) t hR (fun j hj => ?_) (fun j hj i hi q => ?_) (fun j hj cs r hh => ?_), by have := h.ll; simp only; omega, by rw [Hn.succ] at r1; exact r1, ?_⟩
  · rcases hl j hj with b | b
    · exact .inl ⟨p, hp, b⟩
    · exact .inr b
  · rcases hl j hj with b | b
    · have := hD i (by omega) p hp j q b
      omega
    · have := (h0.kind ⟨i, by omega, q⟩).2.1
      omega
  · obtain ⟨_, _, cs', r', h2⟩ := row_kind h.own hj
    exact cells_ne hh h2 (by decide) rfl
  · rcases hgg with ⟨b1, b2⟩ | ⟨b1, _⟩
    · rcases h.at_ with ⟨a1, a2⟩ | ⟨g, a1, a2⟩
      · exact .inl ⟨by rw [← b1]; exact a1, by rw [b2]; exact a2⟩
      · rw [b1] at a1
        exact .inr ⟨gg, rfl, by cases a1; exact a2⟩
    · exact .inr ⟨gg, rfl, by omega⟩
theorem S3.start (h : S3 B N G w0 p sz L la lc w) (hp : p < N) : S4 B N G w0 p sz L la lc 0 (G p) w := by
  refine ⟨h, rfl, ?_, .inl ⟨rfl, rfl⟩⟩
  have := (h.rows p hp).2
  simpa [Hn] using this
theorem S3.none_ (h : Rows B N G (Fn G) w) (t : Turn (Ds N G) w0 w) : S3 B N G w0 0 w.heap.size G none 0 w :=
  ⟨h, t, t.size, Nat.le_refl _, World.ownsRow_nil _ _ _ _, fun i hi => by omega⟩
def upd (L : Nat → Rw) (p : Nat) (l : Rw) : Nat → Rw := fun i => if i = p then l else L i
/-- the round's end: the row is appended -/
theorem S3.more (h : S3 B N G w0 p sz L la lc w) (h0 : Rows B N G C w0) (hp : p < N) {l : Rw} (q : S4 B N G w0 p sz L la lc 64 l w) {gg cap' : Nat} {w1 : World} (r1 : w1.ownsRow w0.heap.size 88 1 (.slice (some ⟨gg, 0, none⟩) (p + 1) cap') (p + 1) ((List.range p).map (fun i => (L i).v) ++ [l.v])) (t : Turn (At la) w w1) : S3 B N G w0 (p + 1) w1.heap.size (upd L p l) (some ⟨gg, 0, none⟩) cap' w1 := by
  have z1 := h.z1
  have z2 := h.z2
  have z3 := t.size
  have hla : ∀ j, At la j → w0.heap.size ≤ j ∧ ∃ cs r, w.heap[j]? = some (.cells cs 88 r) := fun j hj => by
    obtain ⟨a1, _, a2⟩ := row_kind h.row hj
    exact ⟨a1, a2⟩
  refine ⟨h.rows.kept t (fun i hi j hj q => ?_), h.tn.then t (fun i hi q => ?_), by omega, Nat.le_refl _, ?_, fun i hi => ?_⟩
  · have := (hla j q).1
    have := (h0.kind ⟨i, hi, hj⟩).2.1
    omega
  · have := (hla i q).1
    omega
  · rw [List.range_succ, List.map_append]
    have e : (List.range p).map (fun i => (upd L p l i).v) = (List.range p).map (fun i => (L i).v) := List.map_congr_left (fun i hi => by
      have := List.mem_range.1 hi
      simp [upd, show i ≠ p by omega])
    rw [e]
    simpa [upd] using r1
  · have key : ∀ j, (∃ cs r, w.heap[j]? = some (.cells cs 110 r)) → ¬ At la j := fun j ⟨cs, r, hh⟩ q => by
      obtain ⟨_, cs', r', h2⟩ := hla j q
      exact cells_ne hh h2 (by decide) rfl
    by_cases e : i = p
    · subst e
      have e1 : upd L i l i = l := by simp [upd]
      rw [e1]
      have hkd : ∀ j, At l.ao j → ∃ cs r, w.heap[j]? = some (.cells cs 110 r) := fun j hj => (row_kind q.own hj).2.2
      have hI : BkS w l.ao (Hn G i 64) := BkS.of_row q.own
      refine ⟨q.ll, bkS_turn hI t (fun _ j hj => key j (hkd j hj)), fun j hj => ?_⟩
      obtain ⟨cs, r, hh⟩ := hkd j hj
      have hlt := lt_of_heap hh
      rcases q.at_ with ⟨a1, _⟩ | ⟨g, a1, a2⟩
      · rw [a1] at hj; exact .inl hj
      · have : j = g := by
          rw [a1] at hj
          obtain ⟨b, hb, rfl⟩ := hj
          cases hb
          rfl
        exact .inr ⟨by omega, by omega, cs, r, (t.block j hlt (key j ⟨cs, r, hh⟩)).trans hh⟩
    · have e1 : upd L p l i = L i := by simp [upd, e]
      rw [e1]
      obtain ⟨a1, a2, a3⟩ := h.lg i (by omega)
      have hkd : ∀ j, At (L i).ao j → ∃ cs r, w.heap[j]? = some (.cells cs 110 r) := fun j hj => by
        rcases a3 j hj with b | ⟨_, _, b⟩
        · exact (h.rows.kind ⟨i, by omega, b⟩).2.2
        · exact b
      refine ⟨a1, bkS_turn a2 t (fun _ j hj => key j (hkd j hj)), fun j hj => ?_⟩
      rcases a3 j hj with b | ⟨b1, b2, cs, r, b3⟩
      · exact .inl b
      · exact .inr ⟨b1, by omega, cs, r, (t.block j (by omega) (key j ⟨cs, r, b3⟩)).trans b3⟩
end Gr
end Go.Proofs.Ytfeehnfpfheojaa
set_option linter.unusedVariables false
set_option linter.unusedSimpArgs false
namespace Go.Proofs.Ytfeehnfpfheojaa
open Go.RowKit Go.Sort
namespace Lx
open Fr Ar Ra
/-- the program's arena and the document's, side by side -/
structure Pq (B x ab rb : Nat) (s : Int) (L : List Bk) (ws : List Int) (tr : List M.Ac) (D E : Nat → Prop) (cb cnt : Nat) (w : World) : Prop where
  a : Atl D B ab x ws tr 0 s L cb w
  d : Dl E B rb s L ws cnt w
  de : ∀ j, D j → ¬ E j
/-- after at most K calls; its pieces, its blocks -/
def Pz (K B ab rb : Nat) (L : List Bk) (Q : Nat → Prop) (w : World) : Prop := ∃ x s ws tr D E cb cnt, Pq B x ab rb s L ws tr D E cb cnt w ∧ cb ≤ 1 + K * 65537 ∧ cnt ≤ K ∧ ∀ j, Q j ↔ (D j ∨ E j)
def PzT (K B ab rb : Nat) (Q : Nat → Prop) (w w' : World) : Prop := ∃ L' Q', Pz K B ab rb L' Q' w' ∧ Turn Q w w' ∧ ∀ j, Q' j → Q j ∨ w.heap.size ≤ j
variable {K B ab rb : Nat} {L : List Bk} {Q : Nat → Prop} {w w' : World}
theorem Pz.lt (h : Pz K B ab rb L Q w) {j : Nat} (hj : Q j) : B ≤ j ∧ j < w.heap.size := by
  obtain ⟨x, s, ws, tr, D, E, cb, cnt, p, _, _, q⟩ := h
  rcases (q j).1 hj with h | h
  · exact p.a.lo h
  · exact p.d.lo h
theorem Pz.kept {S : Nat → Prop} (h : Pz K B ab rb L Q w) (t : Turn S w w') (hn : ∀ j, Q j → ¬ S j) : Pz K B ab rb L Q w' := by
  obtain ⟨x, s, ws, tr, D, E, cb, cnt, p, c1, c2, q⟩ := h
  exact ⟨x, s, ws, tr, D, E, cb, cnt, ⟨p.a.kept t (fun j z => hn j ((q j).2 (.inl z))), p.d.kept t (fun j z => hn j ((q j).2 (.inr z))), p.de⟩, c1, c2, q⟩
theorem Pz.below (h : Pz K B ab rb L Q w) (b : Below w.heap.size w w') : Pz K B ab rb L Q w' := h.kept (turn_below (S := fun _ => False) b) (fun _ _ q => q)
theorem Pz.few (h : Pz K B ab rb L Q w) : L.length ≤ 65536 := by
  obtain ⟨x, s, ws, tr, D, E, cb, cnt, p, c1, c2, q⟩ := h
  exact p.d.few.1
theorem turn_low {S : Nat → Prop} {a b : World} (t : Turn S a b) (h : ∀ j, S j → B ≤ j) (hB : B ≤ a.heap.size) : Below B a b := t.below h hB
/-- both take -/
theorem take_both (h : Pz K B ab rb L Q w) (n : Int) (hn : n ≤ 9223372036854775807) (hK : K < 2000000) (hB : B ≤ w.heap.size) :
    Calls Try.prog 46 #[.pointer (some ⟨ab, 0, none⟩), .int .i64 n] w fun e w2 => ∃ v u, e = .returned (.tuple #[.int .i64 v, .int .i64 u]) ∧ Hid (Below B w w2) ∧
      Hid (Calls Try.prog 47 #[.pointer (some ⟨rb, 0, none⟩), .int .i64 n] w2 fun e w3 => ∃ v u, e = .returned (.tuple #[.int .i64 v, .int .i64 u]) ∧ Hid (PzT (K + 1) B ab rb Q w w3)) := by
  obtain ⟨x, s, ws, tr, D, E, cb, cnt, p, c1, c2, q⟩ := h
  refine (at_take n p.a (by omega) hn).mono ?_
  rintro e w2 ⟨rfl, D', z1, z2, z3⟩
  have lD : ∀ j, D j → B ≤ j := fun j hj => (p.a.lo hj).1
  have zs := z2.size
  refine ⟨_, _, rfl, hide' (turn_low z2 lD hB), hide' ?_⟩
  refine (dl_take n (p.d.kept z2 (fun j a b => p.de j b a)) (by omega)).mono ?_
  rintro e w3 ⟨rfl, ⟨c, hc, f⟩, t3⟩
  have de' : ∀ j, D' j → ¬ E j := fun j a b => by
    rcases z3 j a with r | r
    · exact p.de j r b
    · have := (p.d.lo b).2; omega
  refine ⟨_, _, rfl, hide' ⟨_, fun j => D' j ∨ E j, ⟨x, s, _, tr, D', E, _, c, ⟨z1.kept t3 de', f, de'⟩, by omega, by omega, fun j => Iff.rfl⟩, ?_, fun j a => ?_⟩⟩
  · exact (z2.mono (fun j _ a => (q j).2 (.inl a))).trans (t3.mono (fun j _ a => (q j).2 (.inr a)))
  · rcases a with a | a
    · exact (z3 j a).imp (fun r => (q j).2 (.inl r)) id
    · exact .inl ((q j).2 (.inr a))
/-- one is chosen, and both give it back -/
theorem give_both (h : Pz K B ab rb L Q w) (n : Int) (hn : -9223372036854775808 ≤ n ∧ n ≤ 9223372036854775807) (hK : K < 2000000) (hB : B ≤ w.heap.size) :
    Calls Try.prog 43 #[.pointer (some ⟨rb, 0, none⟩), .int .i64 n] w fun e w1 => ∃ a, e = .returned (.int .i64 a) ∧ Hid (Below B w w1) ∧
      Hid (Calls Try.prog 44 #[.pointer (some ⟨ab, 0, none⟩), .int .i64 a] w1 fun e w2 => ∃ v, e = .returned (.int .i64 v) ∧ Hid (Below B w w2) ∧
        Hid (Calls Try.prog 45 #[.pointer (some ⟨rb, 0, none⟩), .int .i64 a] w2 fun e w3 => ∃ v, e = .returned (.int .i64 v) ∧ Hid (PzT (K + 1) B ab rb Q w w3))) := by
  obtain ⟨x, s, ws, tr, D, E, cb, cnt, p, c1, c2, q⟩ := h
  have hp := p.a.pure
  have hok := Ep.bkA_ok n hp.1 hp.2.2.2.2.1 (by omega) hn
  refine (back_any n p.d).mono ?_
  rintro e w1 ⟨rfl, b1⟩
  have s1 := b1.size
  have B1 : Below B w w1 := b1.mono hB
  refine ⟨_, rfl, hide' B1, hide' ?_⟩
  refine (at_give _ hok (p.a.below b1) (by omega)).mono ?_
  rintro e w2 ⟨rfl, D', z1, z2, z3⟩
  have lD : ∀ j, D j → B ≤ j := fun j hj => (p.a.lo hj).1
  have zs := z2.size
  refine ⟨_, rfl, hide' (B1.trans (turn_low z2 lD (by omega))), hide' ?_⟩
  refine (dl_give _ ((p.d.below b1).kept z2 (fun j a b => p.de j b a))).mono ?_
  rintro e w3 ⟨rfl, f, t3⟩
  have de' : ∀ j, D' j → ¬ E j := fun j a b => by
    rcases z3 j a with r | r
    · exact p.de j r b
    · have := (p.d.lo b).2; omega
  refine ⟨_, rfl, hide' ⟨_, fun j => D' j ∨ E j, ⟨x, s, _, tr, D', E, _, _, ⟨z1.kept t3 de', f, de'⟩, by omega, by omega, fun j => Iff.rfl⟩, ?_, fun j a => ?_⟩⟩
  · exact ((turn_below b1).trans (z2.mono (fun j _ a => (q j).2 (.inl a)))).trans (t3.mono (fun j _ a => (q j).2 (.inr a)))
  · rcases a with a | a
    · rcases z3 j a with r | r
      · exact .inl ((q j).2 (.inl r))
      · exact .inr (by omega)
    · exact .inl ((q j).2 (.inr a))
/-- the program's list of pieces -/
theorem blocks_a (h : Pz K B ab rb L Q w) : Calls Try.prog 37 #[.pointer (some ⟨ab, 0, none⟩)] w fun e w' => ∃ g rc, e = .returned (.slice (some ⟨g, 0, none⟩) L.length rc) ∧ RowB w.heap.size (some ⟨g, 0, none⟩) rc L w' ∧ Below w.heap.size w w' := by
  obtain ⟨x, s, ws, tr, D, E, cb, cnt, p, _⟩ := h
  exact atl_blocks p.a
theorem blocks_d (h : Pz K B ab rb L Q w) : Calls Try.prog 38 #[.pointer (some ⟨rb, 0, none⟩)] w fun e w' => ∃ g rc, e = .returned (.slice (some ⟨g, 0, none⟩) L.length rc) ∧ RowB w.heap.size (some ⟨g, 0, none⟩) rc L w' ∧ Below w.heap.size w w' := by
  obtain ⟨x, s, ws, tr, D, E, cb, cnt, p, _⟩ := h
  exact dl_blocks p.d
theorem live_a (h : Pz K B ab rb L Q w) : Calls Try.prog 39 #[.pointer (some ⟨ab, 0, none⟩)] w fun e w' => e = .returned (.int .i64 ((outs L).length : Nat)) ∧ w' = w := by
  obtain ⟨x, s, ws, tr, D, E, cb, cnt, p, _⟩ := h
  exact atl_live p.a
theorem live_d (h : Pz K B ab rb L Q w) : Calls Try.prog 40 #[.pointer (some ⟨rb, 0, none⟩)] w fun e w' => e = .returned (.int .i64 ((outs L).length : Nat)) ∧ Below w.heap.size w w' := by
  obtain ⟨x, s, ws, tr, D, E, cb, cnt, p, _⟩ := h
  exact dl_live p.d
/-- both sides made over a new memory -/
theorem made0 {m : Nat} (hm : m < 200) (w : World) : Calls Try.prog 31 #[.int .i64 ((m + 1 : Nat) : Int)] w fun e w1 => ∃ x, e = .returned (.tuple #[.pointer (some ⟨x, 0, none⟩), .int .i64 0]) ∧ Hid (Below w.heap.size w w1) ∧
    Hid (Calls Try.prog 30 #[.pointer (some ⟨x, 0, none⟩), .int .i64 0] w1 fun e w2 => ∃ ab, e = .returned (.tuple #[.pointer (some ⟨ab, 0, none⟩), .int .i64 0]) ∧ Hid (Below w.heap.size w w2) ∧
      Hid (Calls Try.prog 32 #[.int .i64 ((m + 1 : Nat) : Int), .int .i64 0] w2 fun e w3 => ∃ rb, e = .returned (.tuple #[.pointer (some ⟨rb, 0, none⟩), .int .i64 0]) ∧
        Hid (∃ L Q, Pz 0 w.heap.size ab rb L Q w3 ∧ Below w.heap.size w w3))) := by
  refine (M.new_any (m + 1) w (by omega) (by omega) _ rfl).mono ?_
  rintro e w1 ⟨x, rfl, DM, m1, b1⟩
  refine ⟨x, rfl, hide' b1, hide' ?_⟩
  have m1' := Ep.mem_low m1 (Nat.le_refl _)
  refine (atl_new 0 m1' (by rw [List.length_replicate]; omega)).mono ?_
  rintro e w2 ⟨ab, rfl, D, A, b2, hD⟩
  refine ⟨ab, rfl, hide' (b1.trans (b2.mono b1.size)), hide' ?_⟩
  have bs1 := b1.size
  have bs2 := b2.size
  refine (rnew_ok (m + 1) (0 : Int) (show w.heap.size ≤ w2.heap.size by omega) (by omega) (by omega) (by omega)).mono ?_
  rintro e w3 ⟨rfl, b3, E, R, hE⟩
  have bs3 := b3.size
  refine ⟨w2.heap.size, rfl, hide' ⟨_, fun j => D j ∨ E j, ⟨x, 0, _, [], D, E, 1, 0, ⟨A.below b3, ?_, fun j q r => ?_⟩, by omega, by omega, fun _ => Iff.rfl⟩, (b1.trans (b2.mono b1.size)).trans (b3.mono (by omega))⟩⟩
  · have := R
    rw [List.length_replicate]
    exact this
  · have := (A.lo q).2; have := hE j r; omega
end Lx
end Go.Proofs.Ytfeehnfpfheojaa
set_option linter.unusedVariables false
set_option linter.unusedSimpArgs false
namespace Go.Proofs.Ytfeehnfpfheojaa
open Go.RowKit Go.Sort
namespace Lx
open Fr Ar Ra Gr
/-- the arenas, N lists of pieces that were told, the first M of them in a slice -/
structure Li (B K N P ab rb : Nat) (L : List Bk) (Q : Nat → Prop) (G : Nat → Rw) (C : Nat → List Bk) (la : Option Addr) (lc : Nat) (w : World) : Prop where
  z : Pz K B ab rb L Q w
  rows : Gr.Rows B N G C w
  dj : Dj N G
  row : w.ownsRow B 88 1 (.slice la P lc) P ((List.range P).map fun i => (G i).v)
  mn : P ≤ N
  qg : ∀ i, i < N → ∀ j, M.At (G i).ao j → ¬ Q j
  ql : ∀ j, M.At la j → ¬ Q j
  len : ∀ i, i < N → (G i).len ≤ 65536
  lo : B ≤ w.heap.size
variable {B K N P ab rb : Nat} {L : List Bk} {Q : Nat → Prop} {G : Nat → Rw} {C : Nat → List Bk} {la : Option Addr} {lc : Nat} {w w' : World}
theorem Li.glt (h : Li B K N P ab rb L Q G C la lc w) {i j : Nat} (hi : i < N) (hj : M.At (G i).ao j) : B ≤ j ∧ j < w.heap.size := by
  have := h.rows.kind (j := j) ⟨i, hi, hj⟩
  exact ⟨this.1, this.2.1⟩
theorem Li.llt (h : Li B K N P ab rb L Q G C la lc w) {j : Nat} (hj : M.At la j) : B ≤ j ∧ j < w.heap.size ∧ ∃ cs r, w.heap[j]? = some (.cells cs 88 r) := by
  obtain ⟨h1, _, cs, r, h2⟩ := row_kind h.row hj
  exact ⟨h1, lt_of_heap h2, cs, r, h2⟩
theorem Li.gl (h : Li B K N P ab rb L Q G C la lc w) {i j : Nat} (hi : i < N) (hj : M.At (G i).ao j) : ¬ M.At la j := fun q => by
  obtain ⟨_, _, cs, r, h1⟩ := h.llt q
  exact h.rows.no88 j cs r h1 ⟨i, hi, hj⟩
theorem Li.below (h : Li B K N P ab rb L Q G C la lc w) (b : Below w.heap.size w w') : Li B K N P ab rb L Q G C la lc w' :=
  ⟨h.z.below b, h.rows.kept (turn_below (S := fun _ => False) b) (fun _ _ _ _ q => q), h.dj, (turn_below (S := fun _ => False) b).row h.row (fun _ _ q => q), h.mn, h.qg, h.ql, h.len, Nat.le_trans h.lo b.size⟩
/-- behind a call of the arenas -/
theorem Li.op (h : Li B K N P ab rb L Q G C la lc w) (t : PzT (K + 1) B ab rb Q w w') : ∃ L' Q', Li B (K + 1) N P ab rb L' Q' G C la lc w' ∧ Below B w w' := by
  obtain ⟨L', Q', z, t, n⟩ := t
  refine ⟨L', Q', ⟨z, h.rows.kept t h.qg, h.dj, t.row h.row (fun j hj => h.ql j (M.own_at hj)), h.mn, fun i hi j hj q => ?_, fun j hj q => ?_, h.len, Nat.le_trans h.lo t.size⟩, t.below (fun j q => (h.z.lt q).1) h.lo⟩
  · rcases n j q with r | r
    · exact h.qg i hi j hj r
    · have := (h.glt hi hj).2; omega
  · rcases n j q with r | r
    · exact h.ql j hj r
    · have := (h.llt hj).2.1; omega
def updC (C : Nat → List Bk) (p : Nat) (c : List Bk) : Nat → List Bk := fun i => if i = p then c else C i
/-- a list more was told -/
theorem Li.new (h : Li B K N P ab rb L Q G C la lc w) (b : Below w.heap.size w w') {g rc : Nat} (r : RowB w.heap.size (some ⟨g, 0, none⟩) rc L w') : Li B K (N + 1) P ab rb L Q (Gr.upd G N ⟨some ⟨g, 0, none⟩, L.length, rc⟩) (updC C N L) la lc w' := by
  have h1 := h.below b
  have hmn := h.mn
  have e1 : Gr.upd G N ⟨some ⟨g, 0, none⟩, L.length, rc⟩ N = ⟨some ⟨g, 0, none⟩, L.length, rc⟩ := by simp [Gr.upd]
  have e2 : ∀ i, i < N → Gr.upd G N ⟨some ⟨g, 0, none⟩, L.length, rc⟩ i = G i := fun i hi => by simp [Gr.upd, show i ≠ N by omega]
  have e3 : updC C N L N = L := by simp [updC]
  have e4 : ∀ i, i < N → updC C N L i = C i := fun i hi => by simp [updC, show i ≠ N by omega]
  have hg : w.heap.size ≤ g := (r.lt ⟨_, rfl, rfl⟩).1
  have isg : ∀ j, M.At (some ⟨g, 0, none⟩) j → j = g := fun j ⟨a, ha, e⟩ => by cases ha; exact e
  refine ⟨h1.z, fun i hi => ?_, fun i hi k hk j a c => ?_, ?_, by omega, fun i hi j hj q => ?_, h1.ql, fun i hi => ?_, h1.lo⟩
  · by_cases e : i = N
    · subst e; rw [e1, e3]; exact ⟨rfl, World.ownsRow.mono r h.lo⟩
    · rw [e2 i (by omega), e4 i (by omega)]; exact h1.rows i (by omega)
  · by_cases ei : i = N
    · by_cases ek : k = N
      · omega
      · rw [ei, e1] at a
        rw [e2 k (by omega)] at c
        have := isg j a
        have := (h.glt (show k < N by omega) c).2
        omega
    · by_cases ek : k = N
      · rw [ek, e1] at c
        rw [e2 i (by omega)] at a
        have := isg j c
        have := (h.glt (show i < N by omega) a).2
        omega
      · rw [e2 i (by omega)] at a
        rw [e2 k (by omega)] at c
        exact h.dj i (by omega) k (by omega) j a c
  · have : (List.range P).map (fun i => (Gr.upd G N ⟨some ⟨g, 0, none⟩, L.length, rc⟩ i).v) = (List.range P).map (fun i => (G i).v) := List.map_congr_left (fun i hi => by rw [e2 i (by have := List.mem_range.1 hi; omega)])
    rw [this]
    exact h1.row
  · by_cases e : i = N
    · subst e
      rw [e1] at hj
      have := isg j hj
      have := (h.z.lt q).2
      omega
    · rw [e2 i (by omega)] at hj
      exact h.qg i (by omega) j hj q
  · by_cases e : i = N
    · subst e; rw [e1]; exact h.z.few
    · rw [e2 i (by omega)]; exact h.len i (by omega)
/-- the lists are in the slice -/
theorem Li.app (h : Li B K N P ab rb L Q G C la lc w) {gg cap' : Nat} {w1 : World} (r1 : w1.ownsRow B 88 1 (.slice (some ⟨gg, 0, none⟩) N cap') N ((List.range N).map fun i => (G i).v)) (t : Turn (M.At la) w w1) (hg : M.At la gg ∨ w.heap.size ≤ gg) : Li B K N N ab rb L Q G C (some ⟨gg, 0, none⟩) cap' w1 ∧ Below B w w1 := by
  refine ⟨⟨h.z.kept t (fun j q a => h.ql j a q), h.rows.kept t (fun i hi j hj => h.gl hi hj), h.dj, r1, Nat.le_refl _, h.qg, fun j hj q => ?_, h.len, Nat.le_trans h.lo t.size⟩, t.below (fun j q => (h.llt q).1) h.lo⟩
  obtain rfl : j = gg := by
    obtain ⟨a, ha, e⟩ := hj
    cases ha
    exact e
  rcases hg with a | a
  · exact h.ql j a q
  · have := (h.z.lt q).2; omega
theorem range_more (G : Nat → Rw) (N : Nat) (r : Rw) : (List.range (N + 1)).map (fun i => (Gr.upd G N r i).v) = (List.range N).map (fun i => (G i).v) ++ [r.v] := by
  rw [List.range_succ, List.map_append]
  have : (List.range N).map (fun i => (Gr.upd G N r i).v) = (List.range N).map (fun i => (G i).v) := List.map_congr_left (fun i hi => by have := List.mem_range.1 hi; simp [Gr.upd, show i ≠ N by omega])
  rw [this]
  simp [Gr.upd]
theorem Li.of0 (z : Pz 0 B ab rb L Q w) (h : B ≤ w.heap.size) (G : Nat → Rw) : Li B 0 0 0 ab rb L Q G (fun _ => []) none 0 w :=
  ⟨z, fun i hi => by omega, fun i hi => by omega, World.ownsRow_nil _ _ _ _, Nat.le_refl _, fun i hi => by omega, (fun j hj => by obtain ⟨a, ha, _⟩ := hj; cases ha), fun i hi => by omega, h⟩
/-- what the writing over of the lists leaves -/
theorem Li.grown (h : Li B K N P ab rb L Q G C la lc w) (t : Turn (Ds N G) w w') : Pz K B ab rb L Q w' ∧ Below B w w' :=
  ⟨h.z.kept t (fun j q ⟨i, hi, a⟩ => h.qg i hi j a q), t.below (fun j ⟨i, hi, a⟩ => (h.glt hi a).1) h.lo⟩
/-- append of two slices -/
theorem wpList_two (w : World) {ops : Array Oper} {rest : List Oper} {o : Oper} {a : Act} {F : Exit → Act → World → Prop} (hgd : o.guard = none) (s y : Operand)
    (ho : o.op = .call { callee := .builtin .append, args := #[s, y], argTypes := #[93, 93] }) {B : Nat} {ro : Option Addr} {rc k : Nat} {xs : List Value} (hrow : w.ownsRow B 88 1 (.slice ro k rc) k xs) (hl : k < 3000000000000) (hB : B ≤ w.heap.size) (cs : List Value) (hcl : cs.length = 2) (h1 : ∀ u ∈ cs, u.oneCell' = true) (c : Nat) (hs : a.eval s = .slice ro k rc) (hx : a.eval y = .slice (some ⟨w.heap.size, 0, none⟩) 2 c)
    (hk : ∀ gg cap' w1, w1.ownsRow B 88 1 (.slice (some ⟨gg, 0, none⟩) (k + 2) cap') (k + 2) (xs ++ cs) → Turn (M.At ro) w w1 → (M.At ro gg ∨ w.heap.size ≤ gg) → wpList Try.prog ops F rest (a.put o.dst (.slice (some ⟨gg, 0, none⟩) (k + 2) cap')) w1) :
    wpList Try.prog ops F (o :: rest) a (w.alloc (.cells cs.toArray 88)) := by
  obtain ⟨i0, hi0, hz0, hz1, hz2⟩ := info_parts (show (Try.prog.info? 88).map (fun i => (i.zero, i.size, i.bytes)) = some (some (.slice none 0 0), 1, 24) by kernel_rfl)
  refine wpList_append_lies _ hgd s y 93 ho B 88 i0 _ 1 24 Try.underlying93 hi0 hz0 hz1 hz2 rfl (by omega) _ k xs hs (World.ownsRow.alloc hrow _) ⟨w.heap.size, 0, none⟩ 2 c cs hx (by omega) (fun j u hj => World.news_of_block (heap_alloc_new w (.cells cs.toArray 88)) j u (by simpa using hj)) h1 (by omega) (by unfold maxLen; omega) (by omega) (by simp; omega) (w.heap.size + 1) (by simp) ?_
  intro gg cap' w1 hown1 hgrow hat hlt
  have t0 : Turn (M.At ro) w w1 := ((Turn.refl _ w).alloc _).grown hgrow (fun k hk _ => M.own_at hk)
  refine hk gg cap' w1 hown1 t0 ?_
  rcases hat with q | q
  · exact .inl (M.own_at q)
  · exact .inr (by omega)
end Lx
end Go.Proofs.Ytfeehnfpfheojaa
