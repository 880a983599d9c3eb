import Derived.Test.YtnlopepbcnegbaaGreatDoorJD
import Derived.Deep.RegionHeld3
import Derived.Deep.CutBlock
import Derived.Deep.DeepCutAuto
import Derived.Stop.RegionWithIn
set_option linter.unusedVariables false
set_option linter.unusedSimpArgs false
namespace Go.Proofs.YtnlopepbcnegbaaGreatDoor
open Go.RowKit
namespace Sx
def At (ao : Option Addr) (j : Nat) : Prop := ∃ a, ao = some a ∧ j = a.block
theorem own_at {ao : Option Addr} {n cap j : Nat} (h : (Value.slice ao n cap).ownBlock = some j) : At ao j := by
  cases ao with
  | none => cases h
  | some a => cases h; exact ⟨a, rfl, rfl⟩
theorem lt_of_heap {w : World} {b : Nat} {o : Obj} (h : w.heap[b]? = some o) : b < w.heap.size := (Array.getElem?_eq_some_iff.1 h).1
theorem cells_ne {w : World} {i j : Nat} {c c' : Array Value} {t t' : Nat} {r r' : Nat × Nat} (h : w.heap[i]? = some (.cells c t r)) (h' : w.heap[j]? = some (.cells c' t' r')) (n : t ≠ t') : i ≠ j := by
  intro e
  subst e
  rw [h] at h'
  cases h'
  exact n rfl
structure Rw where
  ao : Option Addr
  len : Nat
  cap : Nat
def Rw.v (r : Rw) : Value := .slice r.ao r.len r.cap
/-- a slice of tokens in a row of its own -/
def RowT (B : Nat) (so : Option Addr) (sc : Nat) (S : List Tkn) (w : World) : Prop := w.ownsRow B 52 4 (.slice so S.length sc) S.length (S.flatMap cells4)
/-- rows of tokens, each in a block of its own -/
def Rows (B N : Nat) (G : Nat → Rw) (C : Nat → List Tkn) (w : World) : Prop := ∀ i, i < N → (C i).length = (G i).len ∧ RowT B (G i).ao (G i).cap (C i) w
def Dj (N : Nat) (G : Nat → Rw) : Prop := ∀ i, i < N → ∀ k, k < N → ∀ j, At (G i).ao j → At (G k).ao j → i = k
def Ds (N : Nat) (G : Nat → Rw) (j : Nat) : Prop := ∃ i, i < N ∧ At (G i).ao j
/-- a slice of slices, wherever it lies -/
def Sl (w : World) (a : Option Addr) (N : Nat) (f : Nat → Value) : Prop := N = 0 ∨ ∃ b off cs r, a = some ⟨b, off, none⟩ ∧ w.heap[b]? = some (.cells cs 22 r) ∧ ∀ j, j < N → w.cell? ⟨b, off + j, none⟩ = some (f j)
variable {B N : Nat} {G V : Nat → Rw} {C X : Nat → List Tkn} {w w' w0 : World} {a : Option Addr} {f : Nat → Value}
theorem cells4_len (x : Tkn) : (cells4 x).length = 4 := rfl
theorem flat_len (S : List Tkn) : (S.flatMap cells4).length = S.length * 4 := by
  induction S with
  | nil => rfl
  | cons x q ih => rw [List.flatMap_cons, List.length_append, ih, cells4_len, List.length_cons]; omega
theorem RowT.kept {T : Nat → Prop} {so : Option Addr} {sc : Nat} {S : List Tkn} (h : RowT B so sc S w) (t : Turn T w w') (hn : ∀ j, At so j → ¬ T j) : RowT B so sc S w' := t.row h (fun j hj => hn j (own_at hj))
theorem Sl.turn {S : Nat → Prop} (h : Sl w a N f) (t : Turn S w w') (hn : ∀ j cs r, w.heap[j]? = some (.cells cs 22 r) → ¬ S j) : Sl w' a N f := by
  rcases h with h | ⟨b, off, cs, r, ha, hb, hc⟩
  · exact .inl h
  · exact .inr ⟨b, off, cs, r, ha, (t.block b (lt_of_heap hb) (hn b cs r hb)).trans hb, fun j hj => (t.cell (p := ⟨b, off + j, none⟩) (lt_of_heap hb) (hn b cs r hb)).trans (hc j hj)⟩
theorem Sl.get (h : Sl w a N f) {i : Nat} (hi : i < N) : ∃ b off, a = some ⟨b, off, none⟩ ∧ w.cell? ⟨b, off + i, none⟩ = some (f i) := by
  rcases h with h | ⟨b, off, cs, r, ha, hb, hc⟩
  · omega
  · exact ⟨b, off, ha, hc i hi⟩
theorem Sl.of_row {B' lc p : Nat} {ro : Option Addr} (h : w.ownsRow B' 22 1 (.slice ro p lc) p ((List.range p).map f)) : Sl w ro p f := by
  rcases h.2 with ⟨hv, h0⟩ | ⟨g, cap', cur, hv, hb, hg, hrest⟩
  · exact .inl h0
  · simp only [Value.slice.injEq] at hv
    obtain ⟨rfl, _, _⟩ := hv
    refine .inr ⟨g, 0, _, _, rfl, hg, fun j hj => ?_⟩
    rw [Nat.zero_add, h.cellAt j (by omega)]
    simp [hj]
theorem row_kind {e m : Nat} {ao : Option Addr} {n cap : Nat} {xs : List Value} (h : w.ownsRow B e m (.slice ao n cap) n xs) {j : Nat} (hj : At ao j) : B ≤ j ∧ ao = some ⟨j, 0, none⟩ ∧ ∃ cs r, w.heap[j]? = some (.cells cs e r) := by
  obtain ⟨b, rfl, rfl⟩ := hj
  rcases h.2 with ⟨hv, _⟩ | ⟨g, cap', cur, hv, hb, hg, _⟩
  · cases hv
  · simp only [Value.slice.injEq, Option.some.injEq] at hv
    obtain ⟨rfl, _, _⟩ := hv
    exact ⟨hb, rfl, _, _, hg⟩
theorem RowT.item {so : Option Addr} {sc : Nat} {S : List Tkn} (h : RowT B so sc S w) {i : Nat} {p : Tkn} (hp : S[i]? = some p) : ∃ g, so = some ⟨g, 0, none⟩ ∧ S.length ≤ sc ∧ w.cell? ⟨g, i * 4, none⟩ = some (.int .i8 p.1) ∧ w.cell? ⟨g, i * 4 + 1, none⟩ = some (.string p.2.1) ∧ w.cell? ⟨g, i * 4 + 2, none⟩ = some (.int .i64 p.2.2.1) ∧ w.cell? ⟨g, i * 4 + 3, none⟩ = some (.int .i64 p.2.2.2) := by
  obtain ⟨ao, cap, h1, h0, h2⟩ := rd_row h
  obtain ⟨g, e, c⟩ := h2 i p hp
  simp only [Value.slice.injEq] at h1
  obtain ⟨rfl, _, rfl⟩ := h1
  exact ⟨g, e, h0, c⟩
theorem Rows.kind (h : Rows B N G C w) {j : Nat} (hj : Ds N G j) : B ≤ j ∧ j < w.heap.size ∧ ∃ cs r, w.heap[j]? = some (.cells cs 52 r) := by
  obtain ⟨i, hi, hj⟩ := hj
  obtain ⟨h1, _, cs, r, h2⟩ := row_kind (h i hi).2 hj
  exact ⟨h1, lt_of_heap h2, cs, r, h2⟩
theorem Rows.no22 (h : Rows B N G C w) (j : Nat) (cs : Array Value) (r : Nat × Nat) (hh : w.heap[j]? = some (.cells cs 22 r)) : ¬ Ds N G j := by
  intro q
  obtain ⟨_, _, cs', r', h2⟩ := h.kind q
  exact cells_ne hh h2 (by decide) rfl
theorem Rows.kept {S : Nat → Prop} (h : Rows B N G C w) (t : Turn S w w') (hn : ∀ i, i < N → ∀ j, At (G i).ao j → ¬ S j) : Rows B N G C w' :=
  fun i hi => ⟨(h i hi).1, (h i hi).2.kept t (hn i hi)⟩
theorem flat_set {k : Nat} {S : List Tkn} (hk : k < S.length) (p : Tkn) : ((((S.flatMap cells4).set (k * 4) (.int .i8 p.1)).set (k * 4 + 1) (.string p.2.1)).set (k * 4 + 2) (.int .i64 p.2.2.1)).set (k * 4 + 3) (.int .i64 p.2.2.2) = (S.set k p).flatMap cells4 := by
  induction S generalizing k with
  | nil => simp at hk
  | cons x S ih =>
    cases k with
    | zero => simp [cells4]
    | succ k =>
      have := ih (k := k) (by simpa using hk)
      simp only [List.set_cons_succ, List.flatMap_cons]
      rw [← this]
      rw [List.set_append_right _ _ (by rw [cells4_len]; omega), cells4_len, List.set_append_right _ _ (by rw [cells4_len]; omega), cells4_len, List.set_append_right _ _ (by rw [cells4_len]; omega), cells4_len, List.set_append_right _ _ (by rw [cells4_len]; omega), cells4_len]
      rw [show (k + 1) * 4 - 4 = k * 4 by omega, show (k + 1) * 4 + 1 - 4 = k * 4 + 1 by omega, show (k + 1) * 4 + 2 - 4 = k * 4 + 2 by omega, show (k + 1) * 4 + 3 - 4 = k * 4 + 3 by omega]
/-- the world behind a token's store -/
def put4 (w : World) (g k : Nat) (p : Tkn) : World := (((w.setCell ⟨g, k * 4, none⟩ (.int .i8 p.1)).setCell ⟨g, k * 4 + 1, none⟩ (.string p.2.1)).setCell ⟨g, k * 4 + 2, none⟩ (.int .i64 p.2.2.1)).setCell ⟨g, k * 4 + 3, none⟩ (.int .i64 p.2.2.2)
theorem put4_turn (w : World) (g k : Nat) (p : Tkn) : Turn (fun j => j = g) w (put4 w g k p) :=
  ((((Turn.refl (fun j => j = g) w).setCell (p := ⟨g, k * 4, none⟩) (fun _ => rfl) _).setCell (p := ⟨g, k * 4 + 1, none⟩) (fun _ => rfl) _).setCell (p := ⟨g, k * 4 + 2, none⟩) (fun _ => rfl) _).setCell (p := ⟨g, k * 4 + 3, none⟩) (fun _ => rfl) _
/-- a token written over -/
theorem row_put {ao : Option Addr} {sc k : Nat} {S : List Tkn} (h : RowT B ao sc S w) (hk : k < S.length) (p : Tkn) : ∃ g u0 u1 u2 u3, ao = some ⟨g, 0, none⟩ ∧ S.length ≤ sc ∧ w.cell? ⟨g, k * 4, none⟩ = some u0 ∧ w.cell? ⟨g, k * 4 + 1, none⟩ = some u1 ∧ w.cell? ⟨g, k * 4 + 2, none⟩ = some u2 ∧ w.cell? ⟨g, k * 4 + 3, none⟩ = some u3 ∧
    RowT B ao sc (S.set k p) (put4 w g k p) ∧ (∀ i, w.frozen? ⟨g, i, none⟩ = false) := by
  obtain ⟨g, e, hle, c0, c1, c2, c3⟩ := h.item (List.getElem?_eq_getElem hk)
  subst e
  refine ⟨g, _, _, _, _, rfl, hle, c0, c1, c2, c3, ?_, fun i => World.ownsRow.frozenAt h i⟩
  have h1 := (World.ownsRow.stored h (k * 4) (.int .i8 p.1)).1
  have h2 := (World.ownsRow.stored h1 (k * 4 + 1) (.string p.2.1)).1
  have h3 := (World.ownsRow.stored h2 (k * 4 + 2) (.int .i64 p.2.2.1)).1
  have h4 := (World.ownsRow.stored h3 (k * 4 + 3) (.int .i64 p.2.2.2)).1
  rw [flat_set hk] at h4
  unfold RowT
  rw [List.length_set]
  exact h4
theorem Rows.put (h : Rows B N G C w) (hD : Dj N G) {p k : Nat} (hp : p < N) (hk : k < (G p).len) (v : Tkn) : ∃ g u0 u1 u2 u3, (G p).ao = some ⟨g, 0, none⟩ ∧ (G p).len ≤ (G p).cap ∧ w.cell? ⟨g, k * 4, none⟩ = some u0 ∧ w.cell? ⟨g, k * 4 + 1, none⟩ = some u1 ∧ w.cell? ⟨g, k * 4 + 2, none⟩ = some u2 ∧ w.cell? ⟨g, k * 4 + 3, none⟩ = some u3 ∧ (∀ i, w.frozen? ⟨g, i, none⟩ = false) ∧ Rows B N G (fun i => if i = p then (C p).set k v else C i) (put4 w g k v) ∧ Turn (Ds N G) w (put4 w g k v) := by
  obtain ⟨hl, hr⟩ := h p hp
  obtain ⟨g, u0, u1, u2, u3, hg, hle, c0, c1, c2, c3, hR, hf⟩ := row_put hr (k := k) (by omega) v
  refine ⟨g, u0, u1, u2, u3, hg, by omega, c0, c1, c2, c3, hf, fun i hi => ?_, (put4_turn w g k v).mono (fun j _ hj => ⟨p, hp, _, hg, hj⟩)⟩
  by_cases e : i = p
  · subst e
    simp only [if_true]
    exact ⟨by rw [List.length_set]; exact hl, hR⟩
  · simp only [if_neg e]
    exact ⟨(h i hi).1, (h i hi).2.kept (put4_turn w g k v) (fun j hj q => e (hD i hi p hp j hj ⟨_, hg, q⟩))⟩
theorem add_zero_off (g j : Nat) : (⟨g, 0, none⟩ : Addr).add j = ⟨g, j, none⟩ := by unfold Addr.add; split <;> simp_all
/-- append of a token: in place, or the old block stays -/
theorem wpList_tk (w : World) {ops : Array Oper} {rest : List Oper} {o : Oper} {a : Act} {Q : Exit → Act → World → Prop} (hgd : o.guard = none) (s y : Operand)
    (ho : o.op = .call { callee := .builtin .append, args := #[s, y], argTypes := #[22, 22] }) {B : Nat} {ro : Option Addr} {rc : Nat} {zs : List Tkn} {n : Nat} (hn : zs.length = n) (hrow : RowT B ro rc zs w) (hl : Hid (n < 1000000)) (hB : B ≤ w.heap.size) (v : Tkn) (c : Nat) (hs : a.eval s = .slice ro n rc) (hx : a.eval y = .slice (some ⟨w.heap.size, 0, none⟩) 1 c)
    (hk : ∀ gg cap' w1, RowT B (some ⟨gg, 0, none⟩) cap' (zs ++ [v]) w1 → Turn (At ro) w w1 → (ro = some ⟨gg, 0, none⟩ ∧ cap' = rc ∨ w.heap.size ≤ gg ∧ Turn (fun _ => False) w w1) → wpList Tryz.prog ops Q rest (a.put o.dst (.slice (some ⟨gg, 0, none⟩) (n + 1) cap')) w1) :
    wpList Tryz.prog ops Q (o :: rest) a (w.alloc (.cells (cells4 v).toArray 52)) := by
  subst hn
  obtain ⟨i0, hi0, hz0, hz1, hz2⟩ := info_parts info29
  have hrow' := World.ownsRow.alloc hrow (.cells (cells4 v).toArray 52)
  have hnews : ∀ j u, (cells4 v)[j]? = some u → (w.alloc (.cells (cells4 v).toArray 52)).cell? ((⟨w.heap.size, 0, none⟩ : Addr).add j) = some u := fun j u hj => World.news_of_block (heap_alloc_new w (.cells (cells4 v).toArray 52)) j u (by simpa using hj)
  have hone : ∀ u ∈ cells4 v, u.oneCell' = true := by simp [cells4, Value.oneCell']
  have eiv : (zs ++ [v]).flatMap cells4 = zs.flatMap cells4 ++ cells4 v := by simp
  have elen : (zs.flatMap cells4).length = zs.length * 4 := hrow.1
  unfold RowT at hk
  rw [eiv, List.length_append, List.length_singleton] at hk
  by_cases hr : zs.length + 1 ≤ rc
  · rcases hrow.2 with ⟨hv, h0⟩ | ⟨g, cap', cur, hv, hb, hg, hrest⟩
    · simp only [Value.slice.injEq] at hv
      obtain ⟨_, _, rfl⟩ := hv
      omega
    · simp only [Value.slice.injEq] at hv
      obtain ⟨rfl, _, rfl⟩ := hv
      refine wpList_append_fits _ hgd s y 22 ho B 52 i0 4 Tryz.underlying22 hi0 hz1 g zs.length rc (zs.flatMap cells4) hs hrow' ⟨w.heap.size, 0, none⟩ 1 c (cells4 v) hx (by simp [cells4]) hnews hone hr ?_
      intro w1 r1 g1
      exact hk g rc w1 r1 (((Turn.refl _ w).alloc _).grown g1 (fun k hk _ => ⟨_, rfl, by cases hk; rfl⟩)) (.inl ⟨rfl, rfl⟩)
  · refine wpList_append_grows _ hgd s y 22 ho 52 i0 (.agg #[.int .i8 0, .string ByteArray.empty, .int .i64 0, .int .i64 0]) 4 40 Tryz.underlying22 hi0 hz0 hz1 hz2 rfl (by omega) ro zs.length rc (zs.flatMap cells4) hs ?_ (by rw [elen]) ?_ ⟨w.heap.size, 0, none⟩ 1 c (cells4 v) hx (by simp [cells4]) hnews hone (by omega) (by have := hl.out; unfold maxLen; omega) (by have := hl.out; omega) ?_
    · intro h
      subst h
      rcases hrow.2 with ⟨hv, h0⟩ | ⟨g, cap', cur, hv, _⟩
      · simp only [Value.slice.injEq] at hv
        exact ⟨h0, hv.2.2⟩
      · cases hv
    · intro b hb j u hj
      subst hb
      obtain ⟨_, hq, _⟩ := row_kind hrow' (j := b.block) ⟨b, rfl, rfl⟩
      have hq' := Option.some.inj hq
      rw [hq'] at hrow' ⊢
      have hjl : j < zs.length * 4 := by rw [← elen]; exact (List.getElem?_eq_some_iff.1 hj).1
      have e := World.ownsRow.cellAt hrow' j hjl
      rw [hj] at e
      rw [add_zero_off]
      exact e
    · intro v' w1 r1 g1
      rcases r1.2 with ⟨_, h0⟩ | ⟨gg, cap', cur, rfl, hb, _⟩
      · omega
      · have hb' : w.heap.size ≤ gg := by
          have e : (w.alloc (.cells (cells4 v).toArray 52)).heap.size = w.heap.size + 1 := by simp
          omega
        have t : Turn (fun _ => False) w w1 := ((Turn.refl _ w).alloc _).grown g1 (fun k hk => by cases hk)
        have r2 : w1.ownsRow B 52 4 (.slice (some ⟨gg, 0, none⟩) (zs.length + 1) cap') (zs.length + 1) (zs.flatMap cells4 ++ cells4 v) := by
          refine ⟨r1.1, ?_⟩
          rcases r1.2 with h | ⟨g2, c2, cur2, hv, hb2, rest2⟩
          · exact .inl h
          · exact .inr ⟨g2, c2, cur2, hv, by have : (w.alloc (.cells (cells4 v).toArray 52)).heap.size = w.heap.size + 1 := by simp
                                             omega, rest2⟩
        exact hk gg cap' w1 r2 (t.mono (fun _ _ q => q.elim)) (.inr ⟨hb', t⟩)
/-- append of one thing of any kind to a row of one's own -/
theorem wpList_more {t e m bytes : Nat} {z : Value} (ht : Tryz.prog.underlying t = some (.slice e)) (hinf : (Tryz.prog.info? e).map (fun i => (i.zero, i.size, i.bytes)) = some (some z, m, bytes)) (hz : z.cells.size = m) (hm : 0 < m) (hby : bytes ≤ 40) (w : World) {ops : Array Oper} {rest : List Oper} {o : Oper} {a : Act} {Q : Exit → Act → World → Prop} (hgd : o.guard = none) (s y : Operand)
    (ho : o.op = .call { callee := .builtin .append, args := #[s, y], argTypes := #[t, t] }) {B : Nat} {ro : Option Addr} {rc k : Nat} {xs : List Value} (hrow : w.ownsRow B e m (.slice ro k rc) k xs) (hl : k < 3000000000000) (hB : B ≤ w.heap.size) (cs : List Value) (hcl : cs.length = m) (h1 : ∀ u ∈ cs, u.oneCell' = true) (c : Nat) (hs : a.eval s = .slice ro k rc) (hx : a.eval y = .slice (some ⟨w.heap.size, 0, none⟩) 1 c)
    (hk : ∀ gg cap' w1, w1.ownsRow B e m (.slice (some ⟨gg, 0, none⟩) (k + 1) cap') (k + 1) (xs ++ cs) → Turn (At ro) w w1 → (At ro gg ∨ w.heap.size ≤ gg) → wpList Tryz.prog ops Q rest (a.put o.dst (.slice (some ⟨gg, 0, none⟩) (k + 1) cap')) w1) :
    wpList Tryz.prog ops Q (o :: rest) a (w.alloc (.cells cs.toArray e)) := by
  obtain ⟨i0, hi0, hz0, hz1, hz2⟩ := info_parts hinf
  refine wpList_append_lies _ hgd s y t ho B e i0 _ m bytes ht hi0 hz0 hz1 hz2 hz hm _ k xs hs (World.ownsRow.alloc hrow _) ⟨w.heap.size, 0, none⟩ 1 c cs hx (by omega) (fun j u hj => World.news_of_block (heap_alloc_new w (.cells cs.toArray e)) j u (by simpa using hj)) h1 (by omega) (by unfold maxLen; omega) (Nat.le_trans (Nat.mul_le_mul_left _ hby) (by omega)) (by simp; omega) (w.heap.size + 1) (by simp) ?_
  intro gg cap' w1 hown1 hgrow hat hlt
  have t0 : Turn (At ro) w w1 := ((Turn.refl _ w).alloc _).grown hgrow (fun k hk _ => own_at hk)
  refine hk gg cap' w1 hown1 t0 ?_
  rcases hat with q | q
  · exact .inl (own_at q)
  · exact .inr (by omega)
def k77 (i : Nat) : Tkn := (77, ⟨#[]⟩, (i : Int), 0)
def k78 (i : Nat) : Tkn := (78, ⟨#[]⟩, (i : Int), 0)
/-- what the rows hold when those of even number are written full -/
def Fn (G : Nat → Rw) (X : Nat → List Tkn) (i : Nat) : List Tkn := if i % 2 = 0 then List.replicate (G i).len (k77 i) else X i
def ext (i : Nat) : Nat := if i % 2 = 0 then 70 else 0
def Hn (G : Nat → Rw) (X : Nat → List Tkn) (i k : Nat) : List Tkn := Fn G X i ++ List.replicate k (k78 i)
/-- while the rows are written over -/
structure S2 (B N : Nat) (G : Nat → Rw) (X : Nat → List Tkn) (w0 : World) (p k : Nat) (C : Nat → List Tkn) (w : World) : Prop where
  rows : Rows B N G C w
  tn : Turn (Ds N G) w0 w
  even : p % 2 = 0
  odd : ∀ i, i % 2 = 1 → C i = X i
  pre : ∀ i, i < N → i < p → i % 2 = 0 → C i = List.replicate (G i).len (k77 i)
  part : ∀ j, j < k → (C p)[j]? = some (k77 p)
theorem S2.put {p k : Nat} (h : S2 B N G X w0 p k C w) (hD : Dj N G) (hp : p < N) (hk : k < (G p).len) : ∃ g u0 u1 u2 u3 C', (G p).ao = some ⟨g, 0, none⟩ ∧ (G p).len ≤ (G p).cap ∧ w.cell? ⟨g, k * 4, none⟩ = some u0 ∧ w.cell? ⟨g, k * 4 + 1, none⟩ = some u1 ∧ w.cell? ⟨g, k * 4 + 2, none⟩ = some u2 ∧ w.cell? ⟨g, k * 4 + 3, none⟩ = some u3 ∧ (∀ i, w.frozen? ⟨g, i, none⟩ = false) ∧ S2 B N G X w0 p (k + 1) C' (put4 w g k (k77 p)) := by
  obtain ⟨g, u0, u1, u2, u3, hg, hle, c0, c1, c2, c3, hf, hR, ht⟩ := h.rows.put hD hp hk (k77 p)
  refine ⟨g, u0, u1, u2, u3, _, hg, hle, c0, c1, c2, c3, hf, hR, h.tn.trans ht, h.even, fun i hi => ?_, fun i hi hl he => ?_, fun j hj => ?_⟩
  · rw [if_neg (by have := h.even; omega)]; exact h.odd i hi
  · rw [if_neg (by omega)]; exact h.pre i hi hl he
  · simp only [if_true]
    have hl := (h.rows p hp).1
    by_cases e : j = k
    · subst e
      simp [hl, hk]
    · have := h.part j (by omega)
      rw [List.getElem?_set_ne (by omega)]
      exact this
theorem S2.next {p : Nat} (h : S2 B N G X w0 p (G p).len C w) (hp : p < N) : S2 B N G X w0 (p + 2) 0 C w := by
  refine ⟨h.rows, h.tn, by have := h.even; omega, h.odd, fun i hi hl he => ?_, fun j hj => by omega⟩
  by_cases e : i = p
  · subst e
    have hl := (h.rows i hi).1
    apply List.ext_getElem?
    intro j
    by_cases hj : j < (G i).len
    · rw [h.part j hj]; simp [hj]
    · rw [List.getElem?_eq_none (by omega), List.getElem?_eq_none (by simp; omega)]
  · exact h.pre i hi (by have := h.even; omega) he
theorem S2.done {p k : Nat} (h : S2 B N G X w0 p k C w) (hp : N ≤ p) : Rows B N G (Fn G X) w ∧ Turn (Ds N G) w0 w := by
  refine ⟨fun i hi => ?_, h.tn⟩
  have e : Fn G X i = C i := by
    unfold Fn
    by_cases he : i % 2 = 0
    · rw [if_pos he]; exact (h.pre i hi (by omega) he).symm
    · rw [if_neg he]; exact (h.odd i (by omega)).symm
  rw [e]
  exact h.rows i hi
theorem Hn.succ (G : Nat → Rw) (X : Nat → List Tkn) (i k : Nat) : Hn G X i k ++ [k78 i] = Hn G X i (k + 1) := by simp [Hn, List.replicate_succ']
theorem Fn.len (h : Rows B N G (Fn G X) w) {i : Nat} (hi : i < N) : (Fn G X i).length = (G i).len := (h i hi).1
theorem Hn.len (h : Rows B N G (Fn G X) w) {i : Nat} (hi : i < N) (k : Nat) : (Hn G X i k).length = (G i).len + k := by simp [Hn, Fn.len h hi]
/-- a row of tokens, wherever it lies -/
def RdS (w : World) (ao : Option Addr) (zs : List Tkn) : Prop := zs = [] ∨ ∃ g off, ao = some ⟨g, off, none⟩ ∧ g < w.heap.size ∧ ∀ j (hj : j < zs.length), w.cell? ⟨g, off + j * 4, none⟩ = some (.int .i8 zs[j].1) ∧ w.cell? ⟨g, off + j * 4 + 1, none⟩ = some (.string zs[j].2.1) ∧ w.cell? ⟨g, off + j * 4 + 2, none⟩ = some (.int .i64 zs[j].2.2.1) ∧ w.cell? ⟨g, off + j * 4 + 3, none⟩ = some (.int .i64 zs[j].2.2.2)
theorem RdS.of_row {so : Option Addr} {sc : Nat} {S : List Tkn} (h : RowT B so sc S w) : RdS w so S := by
  by_cases h0 : S = []
  · exact .inl h0
  · have hp : 0 < S.length := List.length_pos_iff.2 h0
    obtain ⟨g, e, _, z0, _⟩ := h.item (List.getElem?_eq_getElem hp)
    refine .inr ⟨g, 0, e, lt_of_cell z0, fun j hj => ?_⟩
    obtain ⟨g', e', _, z⟩ := h.item (List.getElem?_eq_getElem hj)
    rw [e] at e'
    cases e'
    rw [Nat.zero_add]
    exact z
theorem rdS_turn {S : Nat → Prop} {ao : Option Addr} {zs : List Tkn} (h : RdS w ao zs) (t : Turn S w w') (hn : zs ≠ [] → ∀ j, At ao j → ¬ S j) : RdS w' ao zs := by
  by_cases h0 : zs = []
  · exact .inl h0
  rcases h with h | ⟨g, off, e, hg, hc⟩
  · exact .inl h
  · have hS := hn h0 g ⟨_, e, rfl⟩
    exact .inr ⟨g, off, e, Nat.lt_of_lt_of_le hg t.size, fun j hj => ⟨(t.cell (p := ⟨g, off + j * 4, none⟩) hg hS).trans (hc j hj).1, (t.cell (p := ⟨g, off + j * 4 + 1, none⟩) hg hS).trans (hc j hj).2.1, (t.cell (p := ⟨g, off + j * 4 + 2, none⟩) hg hS).trans (hc j hj).2.2.1, (t.cell (p := ⟨g, off + j * 4 + 3, none⟩) hg hS).trans (hc j hj).2.2.2⟩⟩
/-- while the long rows are made -/
structure S3 (B N : Nat) (G : Nat → Rw) (X : Nat → List Tkn) (w0 : World) (p sz : Nat) (L : Nat → Rw) (la : Option Addr) (lc : Nat) (w : World) : Prop where
  rows : Rows B N G (Fn G X) w
  tn : Turn (Ds N G) w0 w
  z1 : w0.heap.size ≤ sz
  z2 : sz ≤ w.heap.size
  row : w.ownsRow w0.heap.size 22 1 (.slice la p lc) p ((List.range p).map (fun i => (L i).v))
  lg : ∀ i, i < p → (L i).len = (G i).len + ext i ∧ RdS w (L i).ao (Hn G X i (ext i)) ∧ ∀ j, At (L i).ao j → At (G i).ao j ∨ (w0.heap.size ≤ j ∧ j < sz ∧ ∃ cs r, w.heap[j]? = some (.cells cs 52 r))
/-- within a round -/
structure S4 (B N : Nat) (G : Nat → Rw) (X : Nat → List Tkn) (w0 : World) (p sz : Nat) (L : Nat → Rw) (la : Option Addr) (lc : Nat) (k : Nat) (l : Rw) (w : World) : Prop where
  st : S3 B N G X w0 p sz L la lc w
  ll : l.len = (G p).len + k
  own : RowT B l.ao l.cap (Hn G X p k) w
  at_ : (l.ao = (G p).ao ∧ l.cap = (G p).cap) ∨ ∃ g, l.ao = some ⟨g, 0, none⟩ ∧ sz ≤ g
variable {p sz lc k : Nat} {L : Nat → Rw} {la : Option Addr} {l : Rw}
theorem S3.turn {S : Nat → Prop} (h : S3 B N G X w0 p sz L la lc w) (h0 : Rows B N G C w0) (hp : p ≤ N) (t : Turn S w w') (hR : Rows B N G (Fn G X) w') (hS : ∀ j, S j → Ds N G j ∨ sz ≤ j) (hg : ∀ j, S j → ∀ i, i < p → ¬ At (G i).ao j) (hk : ∀ j, S j → ∀ cs r, w.heap[j]? ≠ some (.cells cs 22 r)) : S3 B N G X w0 p sz L la lc w' := by
  have h1 := h.z1
  have h2 := h.z2
  have h3 := t.size
  have key : ∀ i, i < p → ∀ j, At (L i).ao j → ¬ S j := fun i hi j hj q => by
    rcases (h.lg i hi).2.2 j hj with a1 | ⟨a1, a2, _⟩
    · exact hg j q i hi a1
    · rcases hS j q with b1 | b1
      · have := (h0.kind b1).2.1
        omega
      · omega
  refine ⟨hR, h.tn.then t (fun i hi q => ?_), h1, by omega, t.row h.row (fun j hj q => ?_), fun i hi => ?_⟩
  · rcases hS i q with b | b
    · exact b
    · omega
  · obtain ⟨_, _, cs, r, hh⟩ := row_kind h.row (own_at hj)
    exact hk j q cs r hh
  · obtain ⟨a1, a2, a3⟩ := h.lg i hi
    refine ⟨a1, rdS_turn a2 t (fun _ j hj => key i hi j hj), fun j hj => ?_⟩
    rcases a3 j hj with b | ⟨b1, b2, cs, r, b3⟩
    · exact .inl b
    · exact .inr ⟨b1, b2, cs, r, (t.block j (by omega) (key i hi j hj)).trans b3⟩
theorem row_prefix {g cap : Nat} {zs ys : List Tkn} (h : RowT B (some ⟨g, 0, none⟩) cap (zs ++ ys) w) : RowT B (some ⟨g, 0, none⟩) cap zs w := by
  have hl := h.1
  refine ⟨flat_len zs, ?_⟩
  rcases h.2 with ⟨hv, _⟩ | ⟨g', cap', cur, hv, hb, hg, h1, h2, h3, h4⟩
  · cases hv
  · simp only [Value.slice.injEq, Option.some.injEq] at hv
    obtain ⟨hv1, _, rfl⟩ := hv
    cases hv1
    rw [List.length_append] at h1
    refine .inr ⟨g, cap, cur, rfl, hb, hg, by omega, h2, h3, ?_⟩
    have : (cur.toList.take ((zs ++ ys).length * 4)).take (zs.length * 4) = zs.flatMap cells4 := by
      rw [h4, List.flatMap_append, List.take_append_of_le_length (by rw [flat_len]; exact Nat.le_refl _), List.take_of_length_le (by rw [flat_len]; exact Nat.le_refl _)]
    rw [List.take_take, Nat.min_eq_left (by rw [List.length_append]; omega)] at this
    exact this
theorem S4.step (h : S4 B N G X w0 p sz L la lc k l w) (h0 : Rows B N G C w0) (hD : Dj N G) (hp : p < N) {gg cap' : Nat} {w1 : World} (r1 : RowT B (some ⟨gg, 0, none⟩) cap' (Hn G X p k ++ [k78 p]) w1) (t : Turn (At l.ao) w w1) (hgg : l.ao = some ⟨gg, 0, none⟩ ∧ cap' = l.cap ∨ w.heap.size ≤ gg ∧ Turn (fun _ => False) w w1) :
    S4 B N G X w0 p sz L la lc (k + 1) ⟨some ⟨gg, 0, none⟩, l.len + 1, cap'⟩ w1 := by
  have z1 := h.st.z1
  have z2 := h.st.z2
  have hl : ∀ j, At l.ao j → At (G p).ao j ∨ sz ≤ j := fun j hj => by
    rcases h.at_ with ⟨a1, _⟩ | ⟨g, a1, a2⟩
    · rw [a1] at hj; exact .inl hj
    · rw [a1] at hj
      obtain ⟨b, hb, rfl⟩ := hj
      cases hb
      exact .inr a2
  have hR : Rows B N G (Fn G X) w1 := fun i hi => by
    refine ⟨(h.st.rows i hi).1, ?_⟩
    by_cases e : i = p
    · subst e
      rcases hgg with ⟨b1, b2⟩ | ⟨b1, b2⟩
      · rcases h.at_ with ⟨a1, a2⟩ | ⟨g, a1, a2⟩
        · rw [b1] at a1
          rw [← a1, ← a2, ← b2]
          rw [Hn, List.append_assoc] at r1
          exact row_prefix r1
        · refine (h.st.rows i hi).2.kept t (fun j hj q => ?_)
          rw [a1] at q
          obtain ⟨b, hb, rfl⟩ := q
          cases hb
          have := (h0.kind ⟨i, hi, hj⟩).2.1
          simp only at this
          omega
      · exact (h.st.rows i hi).2.kept b2 (fun _ _ q => q)
    · refine (h.st.rows i hi).2.kept t (fun j hj q => ?_)
      rcases hl j q with b | b
      · exact e (hD i hi p hp j hj b)
      · have := (h0.kind ⟨i, hi, hj⟩).2.1
        omega
  refine ⟨h.st.turn h0 (Nat.le_of_lt hp) t hR (fun j hj => ?_) (fun j hj i hi q => ?_) (fun j hj cs r hh => ?_), by have := h.ll; simp only; omega, by rw [Hn.succ] at r1; exact r1, ?_⟩
  · rcases hl j hj with b | b
    · exact .inl ⟨p, hp, b⟩
    · exact .inr b
  · rcases hl j hj with b | b
    · have := hD i (by omega) p hp j q b
      omega
    · have := (h0.kind ⟨i, by omega, q⟩).2.1
      omega
  · obtain ⟨_, _, cs', r', h2⟩ := row_kind h.own hj
    exact cells_ne hh h2 (by decide) rfl
  · rcases hgg with ⟨b1, b2⟩ | ⟨b1, _⟩
    · rcases h.at_ with ⟨a1, a2⟩ | ⟨g, a1, a2⟩
      · exact .inl ⟨by rw [← b1]; exact a1, by rw [b2]; exact a2⟩
      · rw [b1] at a1
        exact .inr ⟨gg, rfl, by cases a1; exact a2⟩
    · exact .inr ⟨gg, rfl, by omega⟩
theorem S3.start (h : S3 B N G X w0 p sz L la lc w) (hp : p < N) : S4 B N G X w0 p sz L la lc 0 (G p) w := by
  refine ⟨h, rfl, ?_, .inl ⟨rfl, rfl⟩⟩
  have := (h.rows p hp).2
  simpa [Hn] using this
theorem S3.none_ (h : Rows B N G (Fn G X) w) (t : Turn (Ds N G) w0 w) : S3 B N G X w0 0 w.heap.size G none 0 w :=
  ⟨h, t, t.size, Nat.le_refl _, World.ownsRow_nil _ _ _ _, fun i hi => by omega⟩
def upd (L : Nat → Rw) (p : Nat) (l : Rw) : Nat → Rw := fun i => if i = p then l else L i
/-- the round's end: the row is appended -/
theorem S3.more (h : S3 B N G X w0 p sz L la lc w) (h0 : Rows B N G C w0) (hp : p < N) {l : Rw} (q : S4 B N G X w0 p sz L la lc (ext p) l w) {gg cap' : Nat} {w1 : World} (r1 : w1.ownsRow w0.heap.size 22 1 (.slice (some ⟨gg, 0, none⟩) (p + 1) cap') (p + 1) ((List.range p).map (fun i => (L i).v) ++ [l.v])) (t : Turn (At la) w w1) : S3 B N G X w0 (p + 1) w1.heap.size (upd L p l) (some ⟨gg, 0, none⟩) cap' w1 := by
  have z1 := h.z1
  have z2 := h.z2
  have z3 := t.size
  have hla : ∀ j, At la j → w0.heap.size ≤ j ∧ ∃ cs r, w.heap[j]? = some (.cells cs 22 r) := fun j hj => by
    obtain ⟨a1, _, a2⟩ := row_kind h.row hj
    exact ⟨a1, a2⟩
  refine ⟨h.rows.kept t (fun i hi j hj q => ?_), h.tn.then t (fun i hi q => ?_), by omega, Nat.le_refl _, ?_, fun i hi => ?_⟩
  · have := (hla j q).1
    have := (h0.kind ⟨i, hi, hj⟩).2.1
    omega
  · have := (hla i q).1
    omega
  · rw [List.range_succ, List.map_append]
    have e : (List.range p).map (fun i => (upd L p l i).v) = (List.range p).map (fun i => (L i).v) := List.map_congr_left (fun i hi => by
      have := List.mem_range.1 hi
      simp [upd, show i ≠ p by omega])
    rw [e]
    simpa [upd] using r1
  · have key : ∀ j, (∃ cs r, w.heap[j]? = some (.cells cs 52 r)) → ¬ At la j := fun j ⟨cs, r, hh⟩ q => by
      obtain ⟨_, cs', r', h2⟩ := hla j q
      exact cells_ne hh h2 (by decide) rfl
    by_cases e : i = p
    · subst e
      have e1 : upd L i l i = l := by simp [upd]
      rw [e1]
      have hkd : ∀ j, At l.ao j → ∃ cs r, w.heap[j]? = some (.cells cs 52 r) := fun j hj => (row_kind q.own hj).2.2
      have hI : RdS w l.ao (Hn G X i (ext i)) := RdS.of_row q.own
      refine ⟨q.ll, rdS_turn hI t (fun _ j hj => key j (hkd j hj)), fun j hj => ?_⟩
      obtain ⟨cs, r, hh⟩ := hkd j hj
      have hlt := lt_of_heap hh
      rcases q.at_ with ⟨a1, _⟩ | ⟨g, a1, a2⟩
      · rw [a1] at hj; exact .inl hj
      · have : j = g := by
          rw [a1] at hj
          obtain ⟨b, hb, rfl⟩ := hj
          cases hb
          rfl
        exact .inr ⟨by omega, by omega, cs, r, (t.block j hlt (key j ⟨cs, r, hh⟩)).trans hh⟩
    · have e1 : upd L p l i = L i := by simp [upd, e]
      rw [e1]
      obtain ⟨a1, a2, a3⟩ := h.lg i (by omega)
      have hkd : ∀ j, At (L i).ao j → ∃ cs r, w.heap[j]? = some (.cells cs 52 r) := fun j hj => by
        rcases a3 j hj with b | ⟨_, _, b⟩
        · exact (h.rows.kind ⟨i, by omega, b⟩).2.2
        · exact b
      refine ⟨a1, rdS_turn a2 t (fun _ j hj => key j (hkd j hj)), fun j hj => ?_⟩
      rcases a3 j hj with b | ⟨b1, b2, cs, r, b3⟩
      · exact .inl b
      · exact .inr ⟨b1, by omega, cs, r, (t.block j (by omega) (key j ⟨cs, r, b3⟩)).trans b3⟩
end Sx
end Go.Proofs.YtnlopepbcnegbaaGreatDoor
set_option linter.unusedVariables false
set_option linter.unusedSimpArgs false
namespace Go.Proofs.YtnlopepbcnegbaaGreatDoor
open Go.RowKit
attribute [local go_sem] Oper.semAt_some
namespace Sx
set_option maxRecDepth 100000 in
set_option maxHeartbeats 8000000 in
theorem g32a {gb go N gc lb lo lc n gcp g1 o1 g2 o2 lcp k t : Nat} {D} {t1 t2 t3 t4 t5 t6 t7 t9 t10 t11 t15 t16 t17 t18 t19 t20 t21 t22 t23 t24 t25 t26 t27 t28 t29 t30 t31 t32 t33 t34 t35 t36 t37 t38 t39 t40 t41 t42 t43 t44 t45 t46 t47 t48 t49 t50 t51 t52 t53 t54 t55 t56 t57 t58 t59 t60 t61 t62 t63 t64 t65 t66 t67 t68 t69 t70 t71 t72 t73 t74 t75 t76 t77 t78 t79 t80 t81 t82 t83 t84 t85 t86 t87 t88 t89 t90 t91 t92 t93 t94 t95 t96 t97 t98 t99 t100 t101 t102 t103 t104 t105 t106 t107 t108 t109 t110 t111 t112 t113 t114 t115 t116 t117 t118 t119 t120 t121 t122 t123 t124 t125 t126 t127 t128 t129 t130 t131 t132 t133 t134 t135 t136 t137 t138 t139 t140 t141 t142 t143 t144 t145 t146 t147 t148 t149 t150 t151 t152 t153 t154 t155 t156 t157 t158 t159 t160 t161 t162 t163 t164 t165 t166 t167 t168 t169 t170 t171 t172 t173 t174 t175 t176 t177 t178 t179 t180 t181 t182 t183 t184 t185 t186 t187 t188 t189 t190 t191 t192 : Value} {Q : Exit → Act → World → Prop} {w : World} (htn : (t : Int) < (n : Int)) (htn2 : ¬ (n : Int) ≤ (t : Int)) (htl : (t : Int) < ((n + 70 : Nat) : Int)) (hk : (k : Int) < (N : Int)) (nt : t < n) (nl : t < n + 70) (nk : k < N) (sn : ∀ w, (binOp .neq 52 (.agg #[.int .i8 77, .string ⟨#[]⟩, .int .i64 (k : Int), .int .i64 0]) (.agg #[.int .i8 77, .string ⟨#[]⟩, .int .i64 (k : Int), .int .i64 0])).run Tryz.prog w = .ok (.bool false) w)
    (hS : w.cell? ⟨gb, go + k, none⟩ = some (.slice (some ⟨g1, o1, none⟩) n gcp) ∧ w.cell? ⟨g1, o1 + t * 4, none⟩ = some (.int .i8 77) ∧ w.cell? ⟨g1, o1 + t * 4 + 1, none⟩ = some (.string ⟨#[]⟩) ∧ w.cell? ⟨g1, o1 + t * 4 + 2, none⟩ = some (.int .i64 (k : Int)) ∧ w.cell? ⟨g1, o1 + t * 4 + 3, none⟩ = some (.int .i64 0) ∧ w.cell? ⟨lb, lo + k, none⟩ = some (.slice (some ⟨g2, o2, none⟩) (n + 70) lcp) ∧ w.cell? ⟨g2, o2 + t * 4, none⟩ = some (.int .i8 77) ∧ w.cell? ⟨g2, o2 + t * 4 + 1, none⟩ = some (.string ⟨#[]⟩) ∧ w.cell? ⟨g2, o2 + t * 4 + 2, none⟩ = some (.int .i64 (k : Int)) ∧ w.cell? ⟨g2, o2 + t * 4 + 3, none⟩ = some (.int .i64 0))
    (hQ : Q .normal { tmps := #[.slice (some ⟨gb, go, none⟩) N gc, t1, t2, t3, t4, t5, t6, t7, .slice (some ⟨lb, lo, none⟩) N lc, t9, t10, t11, .int .i64 (k : Int), .int .i64 (t : Int), .int .i64 (n : Int), t15, t16, t17, t18, t19, t20, t21, t22, t23, t24, t25, t26, t27, t28, t29, t30, t31, t32, t33, t34, t35, t36, t37, t38, t39, t40, t41, t42, t43, t44, t45, t46, t47, t48, t49, t50, t51, t52, t53, t54, t55, t56, t57, t58, t59, t60, t61, t62, t63, t64, t65, t66, t67, t68, t69, t70, t71, t72, t73, t74, t75, t76, t77, t78, t79, t80, t81, t82, t83, t84, t85, t86, t87, t88, t89, t90, t91, t92, t93, t94, t95, t96, t97, t98, t99, t100, t101, t102, t103, t104, t105, t106, t107, t108, t109, t110, t111, t112, t113, t114, t115, t116, t117, t118, t119, t120, t121, .int .i64 (t : Int), .int .i64 (n : Int), .bool true, .bool true, .slice (some ⟨gb, go, none⟩) N gc, .int .i64 (k : Int), .pointer (some ⟨gb, go + k, none⟩), .slice (some ⟨g1, o1, none⟩) n gcp, .int .i64 (t : Int), .pointer (some ⟨g1, o1 + t * 4, none⟩), .pointer (some ⟨g1, o1 + t * 4, none⟩), .int .i8 77, .bool false, .bool false, .slice (some ⟨gb, go, none⟩) N gc, .int .i64 (k : Int), .pointer (some ⟨gb, go + k, none⟩), .slice (some ⟨g1, o1, none⟩) n gcp, .int .i64 (t : Int), .pointer (some ⟨g1, o1 + t * 4, none⟩), .pointer (some ⟨g1, o1 + t * 4 + 2, none⟩), .int .i64 (k : Int), .int .i64 (k : Int), .bool false, .bool false, .bool false, .slice (some ⟨lb, lo, none⟩) N lc, .int .i64 (k : Int), .pointer (some ⟨lb, lo + k, none⟩), .slice (some ⟨g2, o2, none⟩) (n + 70) lcp, .int .i64 (t : Int), .pointer (some ⟨g2, o2 + t * 4, none⟩), .agg #[.int .i8 77, .string ⟨#[]⟩, .int .i64 (k : Int), .int .i64 0], .slice (some ⟨gb, go, none⟩) N gc, .int .i64 (k : Int), .pointer (some ⟨gb, go + k, none⟩), .slice (some ⟨g1, o1, none⟩) n gcp, .int .i64 (t : Int), .pointer (some ⟨g1, o1 + t * 4, none⟩), .agg #[.int .i8 77, .string ⟨#[]⟩, .int .i64 (k : Int), .int .i64 0], .bool false, .bool false, .bool false, .bool false, .int .i64 (t : Int), .int .i64 (n : Int), .bool false, .bool false, undef, undef, undef, undef, undef, undef, undef, undef, undef, undef, undef, undef, undef, undef, undef, undef, undef, undef, undef, undef, undef, .bool false, .bool false], defers := D } w.drew) :
    (Code.region 32 ([{ dst := some 122, op := Op.move (Operand.tmp 13), type := 3, pos := "law.go:65", after := #[], guard := none }, { dst := some 123, op := Op.move (Operand.tmp 14), type := 3, pos := "law.go:65", after := #[], guard := none }, { dst := some 124, op := Op.binOp BinOp.lss 3 (Operand.tmp 122) (Operand.tmp 123) 3, type := 4, pos := "law.go:65", after := #[{ on := 0, ground := Ground.data }, { on := 1, ground := Ground.data }], guard := none }, { dst := some 125, op := Op.move (Operand.tmp 124), type := 4, pos := "law.go:65", after := #[{ on := 2, ground := Ground.data }], guard := none }, { dst := some 126, op := Op.move (Operand.tmp 0), type := 35, pos := "law.go:65", after := #[{ on := 3, ground := Ground.guard }], guard := some (3, true) }, { dst := some 127, op := Op.move (Operand.tmp 12), type := 3, pos := "law.go:65", after := #[{ on := 3, ground := Ground.guard }], guard := some (3, true) }, { dst := some 128, op := Op.indexAddr 35 (Operand.tmp 126) (Operand.tmp 127), type := 0, pos := "law.go:65", after := #[{ on := 4, ground := Ground.data }, { on := 5, ground := Ground.data }, { on := 3, ground := Ground.guard }], guard := some (3, true) }, { dst := some 129, op := Op.load 22 (Operand.tmp 128), type := 22, pos := "law.go:65", after := #[{ on := 6, ground := Ground.data }, { on := 3, ground := Ground.guard }], guard := some (3, true) }, { dst := some 130, op := Op.move (Operand.tmp 13), type := 3, pos := "law.go:65", after := #[{ on := 3, ground := Ground.guard }], guard := some (3, true) }, { dst := some 131, op := Op.indexAddr 22 (Operand.tmp 129) (Operand.tmp 130), type := 0, pos := "law.go:65", after := #[{ on := 7, ground := Ground.data }, { on := 8, ground := Ground.data }, { on := 3, ground := Ground.guard }], guard := some (3, true) }, { dst := some 132, op := Op.fieldAddr 52 (Operand.tmp 131) 0, type := 0, pos := "law.go:65", after := #[{ on := 9, ground := Ground.data }, { on := 3, ground := Ground.guard }], guard := some (3, true) }, { dst := some 133, op := Op.load 50 (Operand.tmp 132), type := 50, pos := "law.go:65", after := #[{ on := 10, ground := Ground.data }, { on := 3, ground := Ground.guard }], guard := some (3, true) }, { dst := some 134, op := Op.binOp BinOp.neq 50 (Operand.tmp 133) (Operand.const (Value.int IntKind.i8 77)) 50, type := 4, pos := "law.go:65", after := #[{ on := 11, ground := Ground.data }, { on := 3, ground := Ground.guard }], guard := some (3, true) }, { dst := some 135, op := Op.move (Operand.tmp 134), type := 4, pos := "law.go:65", after := #[{ on := 12, ground := Ground.data }, { on := 3, ground := Ground.chain }, { on := 3, ground := Ground.guard }], guard := some (3, true) }, { dst := some 136, op := Op.move (Operand.tmp 0), type := 35, pos := "law.go:65", after := #[{ on := 13, ground := Ground.guard }], guard := some (13, false) }, { dst := some 137, op := Op.move (Operand.tmp 12), type := 3, pos := "law.go:65", after := #[{ on := 13, ground := Ground.guard }], guard := some (13, false) }, { dst := some 138, op := Op.indexAddr 35 (Operand.tmp 136) (Operand.tmp 137), type := 0, pos := "law.go:65", after := #[{ on := 14, ground := Ground.data }, { on := 15, ground := Ground.data }, { on := 13, ground := Ground.guard }], guard := some (13, false) }, { dst := some 139, op := Op.load 22 (Operand.tmp 138), type := 22, pos := "law.go:65", after := #[{ on := 16, ground := Ground.data }, { on := 13, ground := Ground.guard }], guard := some (13, false) }, { dst := some 140, op := Op.move (Operand.tmp 13), type := 3, pos := "law.go:65", after := #[{ on := 13, ground := Ground.guard }], guard := some (13, false) }, { dst := some 141, op := Op.indexAddr 22 (Operand.tmp 139) (Operand.tmp 140), type := 0, pos := "law.go:65", after := #[{ on := 17, ground := Ground.data }, { on := 18, ground := Ground.data }, { on := 13, ground := Ground.guard }], guard := some (13, false) }, { dst := some 142, op := Op.fieldAddr 52 (Operand.tmp 141) 2, type := 0, pos := "law.go:65", after := #[{ on := 19, ground := Ground.data }, { on := 13, ground := Ground.guard }], guard := some (13, false) }, { dst := some 143, op := Op.load 3 (Operand.tmp 142), type := 3, pos := "law.go:65", after := #[{ on := 20, ground := Ground.data }, { on := 13, ground := Ground.guard }], guard := some (13, false) }, { dst := some 144, op := Op.move (Operand.tmp 12), type := 3, pos := "law.go:65", after := #[{ on := 13, ground := Ground.guard }], guard := some (13, false) }, { dst := some 145, op := Op.binOp BinOp.neq 3 (Operand.tmp 143) (Operand.tmp 144) 3, type := 4, pos := "law.go:65", after := #[{ on := 21, ground := Ground.data }, { on := 22, ground := Ground.data }, { on := 13, ground := Ground.guard }], guard := some (13, false) }, { dst := some 146, op := Op.pick (Operand.tmp 135) (Operand.const (Value.bool true)) (Operand.tmp 145), type := 4, pos := "law.go:65", after := #[{ on := 13, ground := Ground.data }, { on := 23, ground := Ground.data }, { on := 3, ground := Ground.guard }], guard := some (3, true) }, { dst := some 147, op := Op.move (Operand.tmp 146), type := 4, pos := "law.go:65", after := #[{ on := 24, ground := Ground.data }, { on := 13, ground := Ground.chain }, { on := 3, ground := Ground.guard }], guard := some (3, true) }, { dst := some 148, op := Op.move (Operand.tmp 8), type := 35, pos := "law.go:65", after := #[{ on := 25, ground := Ground.guard }], guard := some (25, false) }, { dst := some 149, op := Op.move (Operand.tmp 12), type := 3, pos := "law.go:65", after := #[{ on := 25, ground := Ground.guard }], guard := some (25, false) }, { dst := some 150, op := Op.indexAddr 35 (Operand.tmp 148) (Operand.tmp 149), type := 0, pos := "law.go:65", after := #[{ on := 26, ground := Ground.data }, { on := 27, ground := Ground.data }, { on := 25, ground := Ground.guard }], guard := some (25, false) }, { dst := some 151, op := Op.load 22 (Operand.tmp 150), type := 22, pos := "law.go:65", after := #[{ on := 28, ground := Ground.data }, { on := 25, ground := Ground.guard }], guard := some (25, false) }, { dst := some 152, op := Op.move (Operand.tmp 13), type := 3, pos := "law.go:65", after := #[{ on := 25, ground := Ground.guard }], guard := some (25, false) }, { dst := some 153, op := Op.indexAddr 22 (Operand.tmp 151) (Operand.tmp 152), type := 0, pos := "law.go:65", after := #[{ on := 29, ground := Ground.data }, { on := 30, ground := Ground.data }, { on := 25, ground := Ground.guard }], guard := some (25, false) }, { dst := some 154, op := Op.load 52 (Operand.tmp 153), type := 52, pos := "law.go:65", after := #[{ on := 31, ground := Ground.data }, { on := 25, ground := Ground.guard }], guard := some (25, false) }, { dst := some 155, op := Op.move (Operand.tmp 0), type := 35, pos := "law.go:65", after := #[{ on := 25, ground := Ground.guard }], guard := some (25, false) }, { dst := some 156, op := Op.move (Operand.tmp 12), type := 3, pos := "law.go:65", after := #[{ on := 25, ground := Ground.guard }], guard := some (25, false) }].append [{ dst := some 157, op := Op.indexAddr 35 (Operand.tmp 155) (Operand.tmp 156), type := 0, pos := "law.go:65", after := #[{ on := 33, ground := Ground.data }, { on := 34, ground := Ground.data }, { on := 25, ground := Ground.guard }], guard := some (25, false) }, { dst := some 158, op := Op.load 22 (Operand.tmp 157), type := 22, pos := "law.go:65", after := #[{ on := 35, ground := Ground.data }, { on := 25, ground := Ground.guard }], guard := some (25, false) }, { dst := some 159, op := Op.move (Operand.tmp 13), type := 3, pos := "law.go:65", after := #[{ on := 25, ground := Ground.guard }], guard := some (25, false) }, { dst := some 160, op := Op.indexAddr 22 (Operand.tmp 158) (Operand.tmp 159), type := 0, pos := "law.go:65", after := #[{ on := 36, ground := Ground.data }, { on := 37, ground := Ground.data }, { on := 25, ground := Ground.guard }], guard := some (25, false) }, { dst := some 161, op := Op.load 52 (Operand.tmp 160), type := 52, pos := "law.go:65", after := #[{ on := 38, ground := Ground.data }, { on := 25, ground := Ground.guard }], guard := some (25, false) }, { dst := some 162, op := Op.binOp BinOp.neq 52 (Operand.tmp 154) (Operand.tmp 161) 52, type := 4, pos := "law.go:65", after := #[{ on := 32, ground := Ground.data }, { on := 39, ground := Ground.data }, { on := 25, ground := Ground.guard }], guard := some (25, false) }, { dst := some 163, op := Op.pick (Operand.tmp 147) (Operand.const (Value.bool true)) (Operand.tmp 162), type := 4, pos := "law.go:65", after := #[{ on := 25, ground := Ground.data }, { on := 40, ground := Ground.data }, { on := 3, ground := Ground.guard }], guard := some (3, true) }, { dst := some 164, op := Op.pick (Operand.tmp 125) (Operand.tmp 163) (Operand.const (Value.bool false)), type := 4, pos := "law.go:65", after := #[{ on := 3, ground := Ground.data }, { on := 41, ground := Ground.data }], guard := none }, { dst := some 165, op := Op.move (Operand.tmp 164), type := 4, pos := "law.go:65", after := #[{ on := 42, ground := Ground.data }, { on := 25, ground := Ground.chain }], guard := none }, { dst := some 166, op := Op.move (Operand.tmp 13), type := 3, pos := "law.go:65", after := #[{ on := 43, ground := Ground.guard }], guard := some (43, false) }, { dst := some 167, op := Op.move (Operand.tmp 14), type := 3, pos := "law.go:65", after := #[{ on := 43, ground := Ground.guard }], guard := some (43, false) }, { dst := some 168, op := Op.binOp BinOp.geq 3 (Operand.tmp 166) (Operand.tmp 167) 3, type := 4, pos := "law.go:65", after := #[{ on := 44, ground := Ground.data }, { on := 45, ground := Ground.data }, { on := 43, ground := Ground.guard }], guard := some (43, false) }, { dst := some 169, op := Op.move (Operand.tmp 168), type := 4, pos := "law.go:65", after := #[{ on := 46, ground := Ground.data }, { on := 43, ground := Ground.chain }, { on := 43, ground := Ground.guard }], guard := some (43, false) }, { dst := some 170, op := Op.move (Operand.tmp 8), type := 35, pos := "law.go:65", after := #[{ on := 47, ground := Ground.guard }], guard := some (47, true) }, { dst := some 171, op := Op.move (Operand.tmp 12), type := 3, pos := "law.go:65", after := #[{ on := 47, ground := Ground.guard }], guard := some (47, true) }, { dst := some 172, op := Op.indexAddr 35 (Operand.tmp 170) (Operand.tmp 171), type := 0, pos := "law.go:65", after := #[{ on := 48, ground := Ground.data }, { on := 49, ground := Ground.data }, { on := 47, ground := Ground.guard }], guard := some (47, true) }, { dst := some 173, op := Op.load 22 (Operand.tmp 172), type := 22, pos := "law.go:65", after := #[{ on := 50, ground := Ground.data }, { on := 47, ground := Ground.guard }], guard := some (47, true) }, { dst := some 174, op := Op.move (Operand.tmp 13), type := 3, pos := "law.go:65", after := #[{ on := 47, ground := Ground.guard }], guard := some (47, true) }, { dst := some 175, op := Op.indexAddr 22 (Operand.tmp 173) (Operand.tmp 174), type := 0, pos := "law.go:65", after := #[{ on := 51, ground := Ground.data }, { on := 52, ground := Ground.data }, { on := 47, ground := Ground.guard }], guard := some (47, true) }, { dst := some 176, op := Op.fieldAddr 52 (Operand.tmp 175) 0, type := 0, pos := "law.go:65", after := #[{ on := 53, ground := Ground.data }, { on := 47, ground := Ground.guard }], guard := some (47, true) }, { dst := some 177, op := Op.load 50 (Operand.tmp 176), type := 50, pos := "law.go:65", after := #[{ on := 54, ground := Ground.data }, { on := 47, ground := Ground.guard }], guard := some (47, true) }, { dst := some 178, op := Op.binOp BinOp.neq 50 (Operand.tmp 177) (Operand.const (Value.int IntKind.i8 78)) 50, type := 4, pos := "law.go:65", after := #[{ on := 55, ground := Ground.data }, { on := 47, ground := Ground.guard }], guard := some (47, true) }, { dst := some 179, op := Op.move (Operand.tmp 178), type := 4, pos := "law.go:65", after := #[{ on := 56, ground := Ground.data }, { on := 47, ground := Ground.chain }, { on := 47, ground := Ground.guard }], guard := some (47, true) }, { dst := some 180, op := Op.move (Operand.tmp 8), type := 35, pos := "law.go:65", after := #[{ on := 57, ground := Ground.guard }], guard := some (57, false) }, { dst := some 181, op := Op.move (Operand.tmp 12), type := 3, pos := "law.go:65", after := #[{ on := 57, ground := Ground.guard }], guard := some (57, false) }, { dst := some 182, op := Op.indexAddr 35 (Operand.tmp 180) (Operand.tmp 181), type := 0, pos := "law.go:65", after := #[{ on := 58, ground := Ground.data }, { on := 59, ground := Ground.data }, { on := 57, ground := Ground.guard }], guard := some (57, false) }, { dst := some 183, op := Op.load 22 (Operand.tmp 182), type := 22, pos := "law.go:65", after := #[{ on := 60, ground := Ground.data }, { on := 57, ground := Ground.guard }], guard := some (57, false) }, { dst := some 184, op := Op.move (Operand.tmp 13), type := 3, pos := "law.go:65", after := #[{ on := 57, ground := Ground.guard }], guard := some (57, false) }, { dst := some 185, op := Op.indexAddr 22 (Operand.tmp 183) (Operand.tmp 184), type := 0, pos := "law.go:65", after := #[{ on := 61, ground := Ground.data }, { on := 62, ground := Ground.data }, { on := 57, ground := Ground.guard }], guard := some (57, false) }, { dst := some 186, op := Op.fieldAddr 52 (Operand.tmp 185) 2, type := 0, pos := "law.go:65", after := #[{ on := 63, ground := Ground.data }, { on := 57, ground := Ground.guard }], guard := some (57, false) }, { dst := some 187, op := Op.load 3 (Operand.tmp 186), type := 3, pos := "law.go:65", after := #[{ on := 64, ground := Ground.data }, { on := 57, ground := Ground.guard }], guard := some (57, false) }, { dst := some 188, op := Op.move (Operand.tmp 12), type := 3, pos := "law.go:65", after := #[{ on := 57, ground := Ground.guard }], guard := some (57, false) }, { dst := some 189, op := Op.binOp BinOp.neq 3 (Operand.tmp 187) (Operand.tmp 188) 3, type := 4, pos := "law.go:65", after := #[{ on := 65, ground := Ground.data }, { on := 66, ground := Ground.data }, { on := 57, ground := Ground.guard }], guard := some (57, false) }, { dst := some 190, op := Op.pick (Operand.tmp 179) (Operand.const (Value.bool true)) (Operand.tmp 189), type := 4, pos := "law.go:65", after := #[{ on := 57, ground := Ground.data }, { on := 67, ground := Ground.data }, { on := 47, ground := Ground.guard }], guard := some (47, true) }, { dst := some 191, op := Op.pick (Operand.tmp 169) (Operand.tmp 190) (Operand.const (Value.bool false)), type := 4, pos := "law.go:65", after := #[{ on := 47, ground := Ground.data }, { on := 68, ground := Ground.data }, { on := 43, ground := Ground.guard }], guard := some (43, false) }, { dst := some 192, op := Op.pick (Operand.tmp 165) (Operand.const (Value.bool true)) (Operand.tmp 191), type := 4, pos := "law.go:65", after := #[{ on := 43, ground := Ground.data }, { on := 69, ground := Ground.data }], guard := none }]).toArray true).wp Tryz.prog Q { tmps := #[.slice (some ⟨gb, go, none⟩) N gc, t1, t2, t3, t4, t5, t6, t7, .slice (some ⟨lb, lo, none⟩) N lc, t9, t10, t11, .int .i64 (k : Int), .int .i64 (t : Int), .int .i64 (n : Int), t15, t16, t17, t18, t19, t20, t21, t22, t23, t24, t25, t26, t27, t28, t29, t30, t31, t32, t33, t34, t35, t36, t37, t38, t39, t40, t41, t42, t43, t44, t45, t46, t47, t48, t49, t50, t51, t52, t53, t54, t55, t56, t57, t58, t59, t60, t61, t62, t63, t64, t65, t66, t67, t68, t69, t70, t71, t72, t73, t74, t75, t76, t77, t78, t79, t80, t81, t82, t83, t84, t85, t86, t87, t88, t89, t90, t91, t92, t93, t94, t95, t96, t97, t98, t99, t100, t101, t102, t103, t104, t105, t106, t107, t108, t109, t110, t111, t112, t113, t114, t115, t116, t117, t118, t119, t120, t121, t122, t123, t124, t125, t126, t127, t128, t129, t130, t131, t132, t133, t134, t135, t136, t137, t138, t139, t140, t141, t142, t143, t144, t145, t146, t147, t148, t149, t150, t151, t152, t153, t154, t155, t156, t157, t158, t159, t160, t161, t162, t163, t164, t165, t166, t167, t168, t169, t170, t171, t172, t173, t174, t175, t176, t177, t178, t179, t180, t181, t182, t183, t184, t185, t186, t187, t188, t189, t190, t191, t192], defers := D } w := by
  refine wp_region_noPanic ?_
  refine wp_region_held_drew (S := fun w' => w'.cell? ⟨gb, go + k, none⟩ = some (.slice (some ⟨g1, o1, none⟩) n gcp) ∧ w'.cell? ⟨g1, o1 + t * 4, none⟩ = some (.int .i8 77) ∧ w'.cell? ⟨g1, o1 + t * 4 + 1, none⟩ = some (.string ⟨#[]⟩) ∧ w'.cell? ⟨g1, o1 + t * 4 + 2, none⟩ = some (.int .i64 (k : Int)) ∧ w'.cell? ⟨g1, o1 + t * 4 + 3, none⟩ = some (.int .i64 0) ∧ w'.cell? ⟨lb, lo + k, none⟩ = some (.slice (some ⟨g2, o2, none⟩) (n + 70) lcp) ∧ w'.cell? ⟨g2, o2 + t * 4, none⟩ = some (.int .i8 77) ∧ w'.cell? ⟨g2, o2 + t * 4 + 1, none⟩ = some (.string ⟨#[]⟩) ∧ w'.cell? ⟨g2, o2 + t * 4 + 2, none⟩ = some (.int .i64 (k : Int)) ∧ w'.cell? ⟨g2, o2 + t * 4 + 3, none⟩ = some (.int .i64 0)) (by kernel_rfl) hS (fun hHeld => ?_)
  refine wpAnyH_take (i := 0) (oi := { dst := some 122, op := Op.move (Operand.tmp 13), type := 3, pos := "law.go:65", after := #[], guard := none }) (v := .int .i64 (t : Int)) rfl (by kernel_rfl) (by kernel_rfl) (by kernel_rfl) (fun _ _ _ h => h) (Or.inl ⟨by kernel_rfl, fun w hSw => ?_⟩) (by assumption) ?_
  · dsimp only at hSw; go_simp
  (try simp only [Act.put, List.setIfInBounds_toArray, List.set_cons_zero, List.set_cons_succ])
  refine wpAnyH_take (i := 1) (oi := { dst := some 123, op := Op.move (Operand.tmp 14), type := 3, pos := "law.go:65", after := #[], guard := none }) (v := .int .i64 (n : Int)) rfl (by kernel_rfl) (by kernel_rfl) (by kernel_rfl) (fun _ _ _ h => h) (Or.inl ⟨by kernel_rfl, fun w hSw => ?_⟩) (by assumption) ?_
  · dsimp only at hSw; go_simp
  (try simp only [Act.put, List.setIfInBounds_toArray, List.set_cons_zero, List.set_cons_succ])
  refine wpAnyH_take (i := 2) (oi := { dst := some 124, op := Op.binOp BinOp.lss 3 (Operand.tmp 122) (Operand.tmp 123) 3, type := 4, pos := "law.go:65", after := #[{ on := 0, ground := Ground.data }, { on := 1, ground := Ground.data }], guard := none }) (v := .bool true) rfl (by kernel_rfl) (by kernel_rfl) (by kernel_rfl) (fun _ _ _ h => h) (Or.inl ⟨by kernel_rfl, fun w hSw => ?_⟩) (by assumption) ?_
  · dsimp only at hSw; go_simp
  (try simp only [Act.put, List.setIfInBounds_toArray, List.set_cons_zero, List.set_cons_succ])
  refine wpAnyH_take (i := 3) (oi := { dst := some 125, op := Op.move (Operand.tmp 124), type := 4, pos := "law.go:65", after := #[{ on := 2, ground := Ground.data }], guard := none }) (v := .bool true) rfl (by kernel_rfl) (by kernel_rfl) (by kernel_rfl) (fun _ _ _ h => h) (Or.inl ⟨by kernel_rfl, fun w hSw => ?_⟩) (by assumption) ?_
  · dsimp only at hSw; go_simp
  (try simp only [Act.put, List.setIfInBounds_toArray, List.set_cons_zero, List.set_cons_succ])
  refine wpAnyH_take (i := 4) (oi := { dst := some 126, op := Op.move (Operand.tmp 0), type := 35, pos := "law.go:65", after := #[{ on := 3, ground := Ground.guard }], guard := some (3, true) }) (v := .slice (some ⟨gb, go, none⟩) N gc) rfl (by kernel_rfl) (by kernel_rfl) (by kernel_rfl) (fun _ _ _ h => h) (Or.inl ⟨by kernel_rfl, fun w hSw => ?_⟩) (by assumption) ?_
  · dsimp only at hSw; go_simp
  (try simp only [Act.put, List.setIfInBounds_toArray, List.set_cons_zero, List.set_cons_succ])
  refine wpAnyH_take (i := 5) (oi := { dst := some 127, op := Op.move (Operand.tmp 12), type := 3, pos := "law.go:65", after := #[{ on := 3, ground := Ground.guard }], guard := some (3, true) }) (v := .int .i64 (k : Int)) rfl (by kernel_rfl) (by kernel_rfl) (by kernel_rfl) (fun _ _ _ h => h) (Or.inl ⟨by kernel_rfl, fun w hSw => ?_⟩) (by assumption) ?_
  · dsimp only at hSw; go_simp
  (try simp only [Act.put, List.setIfInBounds_toArray, List.set_cons_zero, List.set_cons_succ])
  refine wpAnyH_take (i := 6) (oi := { dst := some 128, op := Op.indexAddr 35 (Operand.tmp 126) (Operand.tmp 127), type := 0, pos := "law.go:65", after := #[{ on := 4, ground := Ground.data }, { on := 5, ground := Ground.data }, { on := 3, ground := Ground.guard }], guard := some (3, true) }) (v := .pointer (some ⟨gb, go + k, none⟩)) rfl (by kernel_rfl) (by kernel_rfl) (by kernel_rfl) (fun _ _ _ h => h) (Or.inl ⟨by kernel_rfl, fun w hSw => ?_⟩) (by assumption) ?_
  · dsimp only at hSw; go_simp; all_goals (first | omega | exact fun e => absurd e (by omega))
  (try simp only [Act.put, List.setIfInBounds_toArray, List.set_cons_zero, List.set_cons_succ])
  refine wpAnyH_take (i := 7) (oi := { dst := some 129, op := Op.load 22 (Operand.tmp 128), type := 22, pos := "law.go:65", after := #[{ on := 6, ground := Ground.data }, { on := 3, ground := Ground.guard }], guard := some (3, true) }) (v := .slice (some ⟨g1, o1, none⟩) n gcp) rfl (by kernel_rfl) (by kernel_rfl) (by kernel_rfl) (fun _ _ _ h => h) (Or.inl ⟨by kernel_rfl, fun w hSw => ?_⟩) (by assumption) ?_
  · dsimp only at hSw; go_simp
  (try simp only [Act.put, List.setIfInBounds_toArray, List.set_cons_zero, List.set_cons_succ])
  refine wpAnyH_take (i := 8) (oi := { dst := some 130, op := Op.move (Operand.tmp 13), type := 3, pos := "law.go:65", after := #[{ on := 3, ground := Ground.guard }], guard := some (3, true) }) (v := .int .i64 (t : Int)) rfl (by kernel_rfl) (by kernel_rfl) (by kernel_rfl) (fun _ _ _ h => h) (Or.inl ⟨by kernel_rfl, fun w hSw => ?_⟩) (by assumption) ?_
  · dsimp only at hSw; go_simp
  (try simp only [Act.put, List.setIfInBounds_toArray, List.set_cons_zero, List.set_cons_succ])
  refine wpAnyH_take (i := 9) (oi := { dst := some 131, op := Op.indexAddr 22 (Operand.tmp 129) (Operand.tmp 130), type := 0, pos := "law.go:65", after := #[{ on := 7, ground := Ground.data }, { on := 8, ground := Ground.data }, { on := 3, ground := Ground.guard }], guard := some (3, true) }) (v := .pointer (some ⟨g1, o1 + t * 4, none⟩)) rfl (by kernel_rfl) (by kernel_rfl) (by kernel_rfl) (fun _ _ _ h => h) (Or.inl ⟨by kernel_rfl, fun w hSw => ?_⟩) (by assumption) ?_
  · dsimp only at hSw; go_simp; all_goals (first | omega | exact fun e => absurd e (by omega))
  (try simp only [Act.put, List.setIfInBounds_toArray, List.set_cons_zero, List.set_cons_succ])
  refine wpAnyH_take (i := 10) (oi := { dst := some 132, op := Op.fieldAddr 52 (Operand.tmp 131) 0, type := 0, pos := "law.go:65", after := #[{ on := 9, ground := Ground.data }, { on := 3, ground := Ground.guard }], guard := some (3, true) }) (v := .pointer (some ⟨g1, o1 + t * 4, none⟩)) rfl (by kernel_rfl) (by kernel_rfl) (by kernel_rfl) (fun _ _ _ h => h) (Or.inl ⟨by kernel_rfl, fun w hSw => ?_⟩) (by assumption) ?_
  · dsimp only at hSw; go_simp; all_goals (first | omega | exact fun e => absurd e (by omega))
  (try simp only [Act.put, List.setIfInBounds_toArray, List.set_cons_zero, List.set_cons_succ])
  refine wpAnyH_take (i := 11) (oi := { dst := some 133, op := Op.load 50 (Operand.tmp 132), type := 50, pos := "law.go:65", after := #[{ on := 10, ground := Ground.data }, { on := 3, ground := Ground.guard }], guard := some (3, true) }) (v := .int .i8 77) rfl (by kernel_rfl) (by kernel_rfl) (by kernel_rfl) (fun _ _ _ h => h) (Or.inl ⟨by kernel_rfl, fun w hSw => ?_⟩) (by assumption) ?_
  · dsimp only at hSw; go_simp
  (try simp only [Act.put, List.setIfInBounds_toArray, List.set_cons_zero, List.set_cons_succ])
  refine wpAnyH_take (i := 12) (oi := { dst := some 134, op := Op.binOp BinOp.neq 50 (Operand.tmp 133) (Operand.const (Value.int IntKind.i8 77)) 50, type := 4, pos := "law.go:65", after := #[{ on := 11, ground := Ground.data }, { on := 3, ground := Ground.guard }], guard := some (3, true) }) (v := .bool false) rfl (by kernel_rfl) (by kernel_rfl) (by kernel_rfl) (fun _ _ _ h => h) (Or.inl ⟨by kernel_rfl, fun w hSw => ?_⟩) (by assumption) ?_
  · dsimp only at hSw; go_simp
  (try simp only [Act.put, List.setIfInBounds_toArray, List.set_cons_zero, List.set_cons_succ])
  refine wpAnyH_take (i := 13) (oi := { dst := some 135, op := Op.move (Operand.tmp 134), type := 4, pos := "law.go:65", after := #[{ on := 12, ground := Ground.data }, { on := 3, ground := Ground.chain }, { on := 3, ground := Ground.guard }], guard := some (3, true) }) (v := .bool false) rfl (by kernel_rfl) (by kernel_rfl) (by kernel_rfl) (fun _ _ _ h => h) (Or.inl ⟨by kernel_rfl, fun w hSw => ?_⟩) (by assumption) ?_
  · dsimp only at hSw; go_simp
  (try simp only [Act.put, List.setIfInBounds_toArray, List.set_cons_zero, List.set_cons_succ])
  refine wpAnyH_take (i := 14) (oi := { dst := some 136, op := Op.move (Operand.tmp 0), type := 35, pos := "law.go:65", after := #[{ on := 13, ground := Ground.guard }], guard := some (13, false) }) (v := .slice (some ⟨gb, go, none⟩) N gc) rfl (by kernel_rfl) (by kernel_rfl) (by kernel_rfl) (fun _ _ _ h => h) (Or.inl ⟨by kernel_rfl, fun w hSw => ?_⟩) (by assumption) ?_
  · dsimp only at hSw; go_simp
  (try simp only [Act.put, List.setIfInBounds_toArray, List.set_cons_zero, List.set_cons_succ])
  refine wpAnyH_take (i := 15) (oi := { dst := some 137, op := Op.move (Operand.tmp 12), type := 3, pos := "law.go:65", after := #[{ on := 13, ground := Ground.guard }], guard := some (13, false) }) (v := .int .i64 (k : Int)) rfl (by kernel_rfl) (by kernel_rfl) (by kernel_rfl) (fun _ _ _ h => h) (Or.inl ⟨by kernel_rfl, fun w hSw => ?_⟩) (by assumption) ?_
  · dsimp only at hSw; go_simp
  (try simp only [Act.put, List.setIfInBounds_toArray, List.set_cons_zero, List.set_cons_succ])
  refine wpAnyH_take (i := 16) (oi := { dst := some 138, op := Op.indexAddr 35 (Operand.tmp 136) (Operand.tmp 137), type := 0, pos := "law.go:65", after := #[{ on := 14, ground := Ground.data }, { on := 15, ground := Ground.data }, { on := 13, ground := Ground.guard }], guard := some (13, false) }) (v := .pointer (some ⟨gb, go + k, none⟩)) rfl (by kernel_rfl) (by kernel_rfl) (by kernel_rfl) (fun _ _ _ h => h) (Or.inl ⟨by kernel_rfl, fun w hSw => ?_⟩) (by assumption) ?_
  · dsimp only at hSw; go_simp; all_goals (first | omega | exact fun e => absurd e (by omega))
  (try simp only [Act.put, List.setIfInBounds_toArray, List.set_cons_zero, List.set_cons_succ])
  refine wpAnyH_take (i := 17) (oi := { dst := some 139, op := Op.load 22 (Operand.tmp 138), type := 22, pos := "law.go:65", after := #[{ on := 16, ground := Ground.data }, { on := 13, ground := Ground.guard }], guard := some (13, false) }) (v := .slice (some ⟨g1, o1, none⟩) n gcp) rfl (by kernel_rfl) (by kernel_rfl) (by kernel_rfl) (fun _ _ _ h => h) (Or.inl ⟨by kernel_rfl, fun w hSw => ?_⟩) (by assumption) ?_
  · dsimp only at hSw; go_simp
  (try simp only [Act.put, List.setIfInBounds_toArray, List.set_cons_zero, List.set_cons_succ])
  refine wpAnyH_take (i := 18) (oi := { dst := some 140, op := Op.move (Operand.tmp 13), type := 3, pos := "law.go:65", after := #[{ on := 13, ground := Ground.guard }], guard := some (13, false) }) (v := .int .i64 (t : Int)) rfl (by kernel_rfl) (by kernel_rfl) (by kernel_rfl) (fun _ _ _ h => h) (Or.inl ⟨by kernel_rfl, fun w hSw => ?_⟩) (by assumption) ?_
  · dsimp only at hSw; go_simp
  (try simp only [Act.put, List.setIfInBounds_toArray, List.set_cons_zero, List.set_cons_succ])
  refine wpAnyH_take (i := 19) (oi := { dst := some 141, op := Op.indexAddr 22 (Operand.tmp 139) (Operand.tmp 140), type := 0, pos := "law.go:65", after := #[{ on := 17, ground := Ground.data }, { on := 18, ground := Ground.data }, { on := 13, ground := Ground.guard }], guard := some (13, false) }) (v := .pointer (some ⟨g1, o1 + t * 4, none⟩)) rfl (by kernel_rfl) (by kernel_rfl) (by kernel_rfl) (fun _ _ _ h => h) (Or.inl ⟨by kernel_rfl, fun w hSw => ?_⟩) (by assumption) ?_
  · dsimp only at hSw; go_simp; all_goals (first | omega | exact fun e => absurd e (by omega))
  (try simp only [Act.put, List.setIfInBounds_toArray, List.set_cons_zero, List.set_cons_succ])
  refine wpAnyH_take (i := 20) (oi := { dst := some 142, op := Op.fieldAddr 52 (Operand.tmp 141) 2, type := 0, pos := "law.go:65", after := #[{ on := 19, ground := Ground.data }, { on := 13, ground := Ground.guard }], guard := some (13, false) }) (v := .pointer (some ⟨g1, o1 + t * 4 + 2, none⟩)) rfl (by kernel_rfl) (by kernel_rfl) (by kernel_rfl) (fun _ _ _ h => h) (Or.inl ⟨by kernel_rfl, fun w hSw => ?_⟩) (by assumption) ?_
  · dsimp only at hSw; go_simp; all_goals (first | omega | exact fun e => absurd e (by omega))
  (try simp only [Act.put, List.setIfInBounds_toArray, List.set_cons_zero, List.set_cons_succ])
  refine wpAnyH_take (i := 21) (oi := { dst := some 143, op := Op.load 3 (Operand.tmp 142), type := 3, pos := "law.go:65", after := #[{ on := 20, ground := Ground.data }, { on := 13, ground := Ground.guard }], guard := some (13, false) }) (v := .int .i64 (k : Int)) rfl (by kernel_rfl) (by kernel_rfl) (by kernel_rfl) (fun _ _ _ h => h) (Or.inl ⟨by kernel_rfl, fun w hSw => ?_⟩) (by assumption) ?_
  · dsimp only at hSw; go_simp
  (try simp only [Act.put, List.setIfInBounds_toArray, List.set_cons_zero, List.set_cons_succ])
  refine wpAnyH_take (i := 22) (oi := { dst := some 144, op := Op.move (Operand.tmp 12), type := 3, pos := "law.go:65", after := #[{ on := 13, ground := Ground.guard }], guard := some (13, false) }) (v := .int .i64 (k : Int)) rfl (by kernel_rfl) (by kernel_rfl) (by kernel_rfl) (fun _ _ _ h => h) (Or.inl ⟨by kernel_rfl, fun w hSw => ?_⟩) (by assumption) ?_
  · dsimp only at hSw; go_simp
  (try simp only [Act.put, List.setIfInBounds_toArray, List.set_cons_zero, List.set_cons_succ])
  refine wpAnyH_take (i := 23) (oi := { dst := some 145, op := Op.binOp BinOp.neq 3 (Operand.tmp 143) (Operand.tmp 144) 3, type := 4, pos := "law.go:65", after := #[{ on := 21, ground := Ground.data }, { on := 22, ground := Ground.data }, { on := 13, ground := Ground.guard }], guard := some (13, false) }) (v := .bool false) rfl (by kernel_rfl) (by kernel_rfl) (by kernel_rfl) (fun _ _ _ h => h) (Or.inl ⟨by kernel_rfl, fun w hSw => ?_⟩) (by assumption) ?_
  · dsimp only at hSw; go_simp
  (try simp only [Act.put, List.setIfInBounds_toArray, List.set_cons_zero, List.set_cons_succ])
  refine wpAnyH_take (i := 24) (oi := { dst := some 146, op := Op.pick (Operand.tmp 135) (Operand.const (Value.bool true)) (Operand.tmp 145), type := 4, pos := "law.go:65", after := #[{ on := 13, ground := Ground.data }, { on := 23, ground := Ground.data }, { on := 3, ground := Ground.guard }], guard := some (3, true) }) (v := .bool false) rfl (by kernel_rfl) (by kernel_rfl) (by kernel_rfl) (fun _ _ _ h => h) (Or.inl ⟨by kernel_rfl, fun w hSw => ?_⟩) (by assumption) ?_
  · dsimp only at hSw; go_simp
  (try simp only [Act.put, List.setIfInBounds_toArray, List.set_cons_zero, List.set_cons_succ])
  refine wpAnyH_take (i := 25) (oi := { dst := some 147, op := Op.move (Operand.tmp 146), type := 4, pos := "law.go:65", after := #[{ on := 24, ground := Ground.data }, { on := 13, ground := Ground.chain }, { on := 3, ground := Ground.guard }], guard := some (3, true) }) (v := .bool false) rfl (by kernel_rfl) (by kernel_rfl) (by kernel_rfl) (fun _ _ _ h => h) (Or.inl ⟨by kernel_rfl, fun w hSw => ?_⟩) (by assumption) ?_
  · dsimp only at hSw; go_simp
  (try simp only [Act.put, List.setIfInBounds_toArray, List.set_cons_zero, List.set_cons_succ])
  refine wpAnyH_take (i := 26) (oi := { dst := some 148, op := Op.move (Operand.tmp 8), type := 35, pos := "law.go:65", after := #[{ on := 25, ground := Ground.guard }], guard := some (25, false) }) (v := .slice (some ⟨lb, lo, none⟩) N lc) rfl (by kernel_rfl) (by kernel_rfl) (by kernel_rfl) (fun _ _ _ h => h) (Or.inl ⟨by kernel_rfl, fun w hSw => ?_⟩) (by assumption) ?_
  · dsimp only at hSw; go_simp
  (try simp only [Act.put, List.setIfInBounds_toArray, List.set_cons_zero, List.set_cons_succ])
  refine wpAnyH_take (i := 27) (oi := { dst := some 149, op := Op.move (Operand.tmp 12), type := 3, pos := "law.go:65", after := #[{ on := 25, ground := Ground.guard }], guard := some (25, false) }) (v := .int .i64 (k : Int)) rfl (by kernel_rfl) (by kernel_rfl) (by kernel_rfl) (fun _ _ _ h => h) (Or.inl ⟨by kernel_rfl, fun w hSw => ?_⟩) (by assumption) ?_
  · dsimp only at hSw; go_simp
  (try simp only [Act.put, List.setIfInBounds_toArray, List.set_cons_zero, List.set_cons_succ])
  refine wpAnyH_take (i := 28) (oi := { dst := some 150, op := Op.indexAddr 35 (Operand.tmp 148) (Operand.tmp 149), type := 0, pos := "law.go:65", after := #[{ on := 26, ground := Ground.data }, { on := 27, ground := Ground.data }, { on := 25, ground := Ground.guard }], guard := some (25, false) }) (v := .pointer (some ⟨lb, lo + k, none⟩)) rfl (by kernel_rfl) (by kernel_rfl) (by kernel_rfl) (fun _ _ _ h => h) (Or.inl ⟨by kernel_rfl, fun w hSw => ?_⟩) (by assumption) ?_
  · dsimp only at hSw; go_simp; all_goals (first | omega | exact fun e => absurd e (by omega))
  (try simp only [Act.put, List.setIfInBounds_toArray, List.set_cons_zero, List.set_cons_succ])
  refine wpAnyH_take (i := 29) (oi := { dst := some 151, op := Op.load 22 (Operand.tmp 150), type := 22, pos := "law.go:65", after := #[{ on := 28, ground := Ground.data }, { on := 25, ground := Ground.guard }], guard := some (25, false) }) (v := .slice (some ⟨g2, o2, none⟩) (n + 70) lcp) rfl (by kernel_rfl) (by kernel_rfl) (by kernel_rfl) (fun _ _ _ h => h) (Or.inl ⟨by kernel_rfl, fun w hSw => ?_⟩) (by assumption) ?_
  · dsimp only at hSw; go_simp
  (try simp only [Act.put, List.setIfInBounds_toArray, List.set_cons_zero, List.set_cons_succ])
  refine wpAnyH_take (i := 30) (oi := { dst := some 152, op := Op.move (Operand.tmp 13), type := 3, pos := "law.go:65", after := #[{ on := 25, ground := Ground.guard }], guard := some (25, false) }) (v := .int .i64 (t : Int)) rfl (by kernel_rfl) (by kernel_rfl) (by kernel_rfl) (fun _ _ _ h => h) (Or.inl ⟨by kernel_rfl, fun w hSw => ?_⟩) (by assumption) ?_
  · dsimp only at hSw; go_simp
  (try simp only [Act.put, List.setIfInBounds_toArray, List.set_cons_zero, List.set_cons_succ])
  refine wpAnyH_take (i := 31) (oi := { dst := some 153, op := Op.indexAddr 22 (Operand.tmp 151) (Operand.tmp 152), type := 0, pos := "law.go:65", after := #[{ on := 29, ground := Ground.data }, { on := 30, ground := Ground.data }, { on := 25, ground := Ground.guard }], guard := some (25, false) }) (v := .pointer (some ⟨g2, o2 + t * 4, none⟩)) rfl (by kernel_rfl) (by kernel_rfl) (by kernel_rfl) (fun _ _ _ h => h) (Or.inl ⟨by kernel_rfl, fun w hSw => ?_⟩) (by assumption) ?_
  · dsimp only at hSw; go_simp; all_goals (first | omega | exact fun e => absurd e (by omega))
  (try simp only [Act.put, List.setIfInBounds_toArray, List.set_cons_zero, List.set_cons_succ])
  refine wpAnyH_take (i := 32) (oi := { dst := some 154, op := Op.load 52 (Operand.tmp 153), type := 52, pos := "law.go:65", after := #[{ on := 31, ground := Ground.data }, { on := 25, ground := Ground.guard }], guard := some (25, false) }) (v := .agg #[.int .i8 77, .string ⟨#[]⟩, .int .i64 (k : Int), .int .i64 0]) rfl (by kernel_rfl) (by kernel_rfl) (by kernel_rfl) (fun _ _ _ h => h) (Or.inl ⟨by kernel_rfl, fun w hSw => ?_⟩) (by assumption) ?_
  · dsimp only at hSw; go_simp
  (try simp only [Act.put, List.setIfInBounds_toArray, List.set_cons_zero, List.set_cons_succ])
  refine wpAnyH_take (i := 33) (oi := { dst := some 155, op := Op.move (Operand.tmp 0), type := 35, pos := "law.go:65", after := #[{ on := 25, ground := Ground.guard }], guard := some (25, false) }) (v := .slice (some ⟨gb, go, none⟩) N gc) rfl (by kernel_rfl) (by kernel_rfl) (by kernel_rfl) (fun _ _ _ h => h) (Or.inl ⟨by kernel_rfl, fun w hSw => ?_⟩) (by assumption) ?_
  · dsimp only at hSw; go_simp
  (try simp only [Act.put, List.setIfInBounds_toArray, List.set_cons_zero, List.set_cons_succ])
  refine wpAnyH_take (i := 34) (oi := { dst := some 156, op := Op.move (Operand.tmp 12), type := 3, pos := "law.go:65", after := #[{ on := 25, ground := Ground.guard }], guard := some (25, false) }) (v := .int .i64 (k : Int)) rfl (by kernel_rfl) (by kernel_rfl) (by kernel_rfl) (fun _ _ _ h => h) (Or.inl ⟨by kernel_rfl, fun w hSw => ?_⟩) (by assumption) ?_
  · dsimp only at hSw; go_simp
  (try simp only [Act.put, List.setIfInBounds_toArray, List.set_cons_zero, List.set_cons_succ])
  refine wpAnyH_take (i := 35) (oi := { dst := some 157, op := Op.indexAddr 35 (Operand.tmp 155) (Operand.tmp 156), type := 0, pos := "law.go:65", after := #[{ on := 33, ground := Ground.data }, { on := 34, ground := Ground.data }, { on := 25, ground := Ground.guard }], guard := some (25, false) }) (v := .pointer (some ⟨gb, go + k, none⟩)) rfl (by kernel_rfl) (by kernel_rfl) (by kernel_rfl) (fun _ _ _ h => h) (Or.inl ⟨by kernel_rfl, fun w hSw => ?_⟩) (by assumption) ?_
  · dsimp only at hSw; go_simp; all_goals (first | omega | exact fun e => absurd e (by omega))
  (try simp only [Act.put, List.setIfInBounds_toArray, List.set_cons_zero, List.set_cons_succ])
  refine wpAnyH_take (i := 36) (oi := { dst := some 158, op := Op.load 22 (Operand.tmp 157), type := 22, pos := "law.go:65", after := #[{ on := 35, ground := Ground.data }, { on := 25, ground := Ground.guard }], guard := some (25, false) }) (v := .slice (some ⟨g1, o1, none⟩) n gcp) rfl (by kernel_rfl) (by kernel_rfl) (by kernel_rfl) (fun _ _ _ h => h) (Or.inl ⟨by kernel_rfl, fun w hSw => ?_⟩) (by assumption) ?_
  · dsimp only at hSw; go_simp
  (try simp only [Act.put, List.setIfInBounds_toArray, List.set_cons_zero, List.set_cons_succ])
  refine wpAnyH_take (i := 37) (oi := { dst := some 159, op := Op.move (Operand.tmp 13), type := 3, pos := "law.go:65", after := #[{ on := 25, ground := Ground.guard }], guard := some (25, false) }) (v := .int .i64 (t : Int)) rfl (by kernel_rfl) (by kernel_rfl) (by kernel_rfl) (fun _ _ _ h => h) (Or.inl ⟨by kernel_rfl, fun w hSw => ?_⟩) (by assumption) ?_
  · dsimp only at hSw; go_simp
  (try simp only [Act.put, List.setIfInBounds_toArray, List.set_cons_zero, List.set_cons_succ])
  refine wpAnyH_take (i := 38) (oi := { dst := some 160, op := Op.indexAddr 22 (Operand.tmp 158) (Operand.tmp 159), type := 0, pos := "law.go:65", after := #[{ on := 36, ground := Ground.data }, { on := 37, ground := Ground.data }, { on := 25, ground := Ground.guard }], guard := some (25, false) }) (v := .pointer (some ⟨g1, o1 + t * 4, none⟩)) rfl (by kernel_rfl) (by kernel_rfl) (by kernel_rfl) (fun _ _ _ h => h) (Or.inl ⟨by kernel_rfl, fun w hSw => ?_⟩) (by assumption) ?_
  · dsimp only at hSw; go_simp; all_goals (first | omega | exact fun e => absurd e (by omega))
  (try simp only [Act.put, List.setIfInBounds_toArray, List.set_cons_zero, List.set_cons_succ])
  refine wpAnyH_take (i := 39) (oi := { dst := some 161, op := Op.load 52 (Operand.tmp 160), type := 52, pos := "law.go:65", after := #[{ on := 38, ground := Ground.data }, { on := 25, ground := Ground.guard }], guard := some (25, false) }) (v := .agg #[.int .i8 77, .string ⟨#[]⟩, .int .i64 (k : Int), .int .i64 0]) rfl (by kernel_rfl) (by kernel_rfl) (by kernel_rfl) (fun _ _ _ h => h) (Or.inl ⟨by kernel_rfl, fun w hSw => ?_⟩) (by assumption) ?_
  · dsimp only at hSw; go_simp
  (try simp only [Act.put, List.setIfInBounds_toArray, List.set_cons_zero, List.set_cons_succ])
  refine wpAnyH_take (i := 40) (oi := { dst := some 162, op := Op.binOp BinOp.neq 52 (Operand.tmp 154) (Operand.tmp 161) 52, type := 4, pos := "law.go:65", after := #[{ on := 32, ground := Ground.data }, { on := 39, ground := Ground.data }, { on := 25, ground := Ground.guard }], guard := some (25, false) }) (v := .bool false) rfl (by kernel_rfl) (by kernel_rfl) (by kernel_rfl) (fun _ _ _ h => h) (Or.inl ⟨by kernel_rfl, fun w hSw => ?_⟩) (by assumption) ?_
  · dsimp only at hSw; go_simp
  (try simp only [Act.put, List.setIfInBounds_toArray, List.set_cons_zero, List.set_cons_succ])
  refine wpAnyH_take (i := 41) (oi := { dst := some 163, op := Op.pick (Operand.tmp 147) (Operand.const (Value.bool true)) (Operand.tmp 162), type := 4, pos := "law.go:65", after := #[{ on := 25, ground := Ground.data }, { on := 40, ground := Ground.data }, { on := 3, ground := Ground.guard }], guard := some (3, true) }) (v := .bool false) rfl (by kernel_rfl) (by kernel_rfl) (by kernel_rfl) (fun _ _ _ h => h) (Or.inl ⟨by kernel_rfl, fun w hSw => ?_⟩) (by assumption) ?_
  · dsimp only at hSw; go_simp
  (try simp only [Act.put, List.setIfInBounds_toArray, List.set_cons_zero, List.set_cons_succ])
  refine wpAnyH_take (i := 42) (oi := { dst := some 164, op := Op.pick (Operand.tmp 125) (Operand.tmp 163) (Operand.const (Value.bool false)), type := 4, pos := "law.go:65", after := #[{ on := 3, ground := Ground.data }, { on := 41, ground := Ground.data }], guard := none }) (v := .bool false) rfl (by kernel_rfl) (by kernel_rfl) (by kernel_rfl) (fun _ _ _ h => h) (Or.inl ⟨by kernel_rfl, fun w hSw => ?_⟩) (by assumption) ?_
  · dsimp only at hSw; go_simp
  (try simp only [Act.put, List.setIfInBounds_toArray, List.set_cons_zero, List.set_cons_succ])
  refine wpAnyH_take (i := 43) (oi := { dst := some 165, op := Op.move (Operand.tmp 164), type := 4, pos := "law.go:65", after := #[{ on := 42, ground := Ground.data }, { on := 25, ground := Ground.chain }], guard := none }) (v := .bool false) rfl (by kernel_rfl) (by kernel_rfl) (by kernel_rfl) (fun _ _ _ h => h) (Or.inl ⟨by kernel_rfl, fun w hSw => ?_⟩) (by assumption) ?_
  · dsimp only at hSw; go_simp
  (try simp only [Act.put, List.setIfInBounds_toArray, List.set_cons_zero, List.set_cons_succ])
  refine wpAnyH_take (i := 44) (oi := { dst := some 166, op := Op.move (Operand.tmp 13), type := 3, pos := "law.go:65", after := #[{ on := 43, ground := Ground.guard }], guard := some (43, false) }) (v := .int .i64 (t : Int)) rfl (by kernel_rfl) (by kernel_rfl) (by kernel_rfl) (fun _ _ _ h => h) (Or.inl ⟨by kernel_rfl, fun w hSw => ?_⟩) (by assumption) ?_
  · dsimp only at hSw; go_simp
  (try simp only [Act.put, List.setIfInBounds_toArray, List.set_cons_zero, List.set_cons_succ])
  refine wpAnyH_take (i := 45) (oi := { dst := some 167, op := Op.move (Operand.tmp 14), type := 3, pos := "law.go:65", after := #[{ on := 43, ground := Ground.guard }], guard := some (43, false) }) (v := .int .i64 (n : Int)) rfl (by kernel_rfl) (by kernel_rfl) (by kernel_rfl) (fun _ _ _ h => h) (Or.inl ⟨by kernel_rfl, fun w hSw => ?_⟩) (by assumption) ?_
  · dsimp only at hSw; go_simp
  (try simp only [Act.put, List.setIfInBounds_toArray, List.set_cons_zero, List.set_cons_succ])
  refine wpAnyH_take (i := 46) (oi := { dst := some 168, op := Op.binOp BinOp.geq 3 (Operand.tmp 166) (Operand.tmp 167) 3, type := 4, pos := "law.go:65", after := #[{ on := 44, ground := Ground.data }, { on := 45, ground := Ground.data }, { on := 43, ground := Ground.guard }], guard := some (43, false) }) (v := .bool false) rfl (by kernel_rfl) (by kernel_rfl) (by kernel_rfl) (fun _ _ _ h => h) (Or.inl ⟨by kernel_rfl, fun w hSw => ?_⟩) (by assumption) ?_
  · dsimp only at hSw; go_simp
  (try simp only [Act.put, List.setIfInBounds_toArray, List.set_cons_zero, List.set_cons_succ])
  refine wpAnyH_take (i := 47) (oi := { dst := some 169, op := Op.move (Operand.tmp 168), type := 4, pos := "law.go:65", after := #[{ on := 46, ground := Ground.data }, { on := 43, ground := Ground.chain }, { on := 43, ground := Ground.guard }], guard := some (43, false) }) (v := .bool false) rfl (by kernel_rfl) (by kernel_rfl) (by kernel_rfl) (fun _ _ _ h => h) (Or.inl ⟨by kernel_rfl, fun w hSw => ?_⟩) (by assumption) ?_
  · dsimp only at hSw; go_simp
  (try simp only [Act.put, List.setIfInBounds_toArray, List.set_cons_zero, List.set_cons_succ])
  refine wpAnyH_take (i := 48) (oi := { dst := some 170, op := Op.move (Operand.tmp 8), type := 35, pos := "law.go:65", after := #[{ on := 47, ground := Ground.guard }], guard := some (47, true) }) (v := undef) rfl (by kernel_rfl) (by kernel_rfl) (by kernel_rfl) (fun _ _ _ h => h) (Or.inr ⟨by kernel_rfl, rfl⟩) (by assumption) ?_
  (try simp only [Act.put, List.setIfInBounds_toArray, List.set_cons_zero, List.set_cons_succ])
  refine wpAnyH_take (i := 49) (oi := { dst := some 171, op := Op.move (Operand.tmp 12), type := 3, pos := "law.go:65", after := #[{ on := 47, ground := Ground.guard }], guard := some (47, true) }) (v := undef) rfl (by kernel_rfl) (by kernel_rfl) (by kernel_rfl) (fun _ _ _ h => h) (Or.inr ⟨by kernel_rfl, rfl⟩) (by assumption) ?_
  (try simp only [Act.put, List.setIfInBounds_toArray, List.set_cons_zero, List.set_cons_succ])
  refine wpAnyH_take (i := 50) (oi := { dst := some 172, op := Op.indexAddr 35 (Operand.tmp 170) (Operand.tmp 171), type := 0, pos := "law.go:65", after := #[{ on := 48, ground := Ground.data }, { on := 49, ground := Ground.data }, { on := 47, ground := Ground.guard }], guard := some (47, true) }) (v := undef) rfl (by kernel_rfl) (by kernel_rfl) (by kernel_rfl) (fun _ _ _ h => h) (Or.inr ⟨by kernel_rfl, rfl⟩) (by assumption) ?_
  (try simp only [Act.put, List.setIfInBounds_toArray, List.set_cons_zero, List.set_cons_succ])
  refine wpAnyH_take (i := 51) (oi := { dst := some 173, op := Op.load 22 (Operand.tmp 172), type := 22, pos := "law.go:65", after := #[{ on := 50, ground := Ground.data }, { on := 47, ground := Ground.guard }], guard := some (47, true) }) (v := undef) rfl (by kernel_rfl) (by kernel_rfl) (by kernel_rfl) (fun _ _ _ h => h) (Or.inr ⟨by kernel_rfl, rfl⟩) (by assumption) ?_
  (try simp only [Act.put, List.setIfInBounds_toArray, List.set_cons_zero, List.set_cons_succ])
  refine wpAnyH_take (i := 52) (oi := { dst := some 174, op := Op.move (Operand.tmp 13), type := 3, pos := "law.go:65", after := #[{ on := 47, ground := Ground.guard }], guard := some (47, true) }) (v := undef) rfl (by kernel_rfl) (by kernel_rfl) (by kernel_rfl) (fun _ _ _ h => h) (Or.inr ⟨by kernel_rfl, rfl⟩) (by assumption) ?_
  (try simp only [Act.put, List.setIfInBounds_toArray, List.set_cons_zero, List.set_cons_succ])
  refine wpAnyH_take (i := 53) (oi := { dst := some 175, op := Op.indexAddr 22 (Operand.tmp 173) (Operand.tmp 174), type := 0, pos := "law.go:65", after := #[{ on := 51, ground := Ground.data }, { on := 52, ground := Ground.data }, { on := 47, ground := Ground.guard }], guard := some (47, true) }) (v := undef) rfl (by kernel_rfl) (by kernel_rfl) (by kernel_rfl) (fun _ _ _ h => h) (Or.inr ⟨by kernel_rfl, rfl⟩) (by assumption) ?_
  (try simp only [Act.put, List.setIfInBounds_toArray, List.set_cons_zero, List.set_cons_succ])
  refine wpAnyH_take (i := 54) (oi := { dst := some 176, op := Op.fieldAddr 52 (Operand.tmp 175) 0, type := 0, pos := "law.go:65", after := #[{ on := 53, ground := Ground.data }, { on := 47, ground := Ground.guard }], guard := some (47, true) }) (v := undef) rfl (by kernel_rfl) (by kernel_rfl) (by kernel_rfl) (fun _ _ _ h => h) (Or.inr ⟨by kernel_rfl, rfl⟩) (by assumption) ?_
  (try simp only [Act.put, List.setIfInBounds_toArray, List.set_cons_zero, List.set_cons_succ])
  refine wpAnyH_take (i := 55) (oi := { dst := some 177, op := Op.load 50 (Operand.tmp 176), type := 50, pos := "law.go:65", after := #[{ on := 54, ground := Ground.data }, { on := 47, ground := Ground.guard }], guard := some (47, true) }) (v := undef) rfl (by kernel_rfl) (by kernel_rfl) (by kernel_rfl) (fun _ _ _ h => h) (Or.inr ⟨by kernel_rfl, rfl⟩) (by assumption) ?_
  (try simp only [Act.put, List.setIfInBounds_toArray, List.set_cons_zero, List.set_cons_succ])
  refine wpAnyH_take (i := 56) (oi := { dst := some 178, op := Op.binOp BinOp.neq 50 (Operand.tmp 177) (Operand.const (Value.int IntKind.i8 78)) 50, type := 4, pos := "law.go:65", after := #[{ on := 55, ground := Ground.data }, { on := 47, ground := Ground.guard }], guard := some (47, true) }) (v := undef) rfl (by kernel_rfl) (by kernel_rfl) (by kernel_rfl) (fun _ _ _ h => h) (Or.inr ⟨by kernel_rfl, rfl⟩) (by assumption) ?_
  (try simp only [Act.put, List.setIfInBounds_toArray, List.set_cons_zero, List.set_cons_succ])
  refine wpAnyH_take (i := 57) (oi := { dst := some 179, op := Op.move (Operand.tmp 178), type := 4, pos := "law.go:65", after := #[{ on := 56, ground := Ground.data }, { on := 47, ground := Ground.chain }, { on := 47, ground := Ground.guard }], guard := some (47, true) }) (v := undef) rfl (by kernel_rfl) (by kernel_rfl) (by kernel_rfl) (fun _ _ _ h => h) (Or.inr ⟨by kernel_rfl, rfl⟩) (by assumption) ?_
  (try simp only [Act.put, List.setIfInBounds_toArray, List.set_cons_zero, List.set_cons_succ])
  refine wpAnyH_take (i := 58) (oi := { dst := some 180, op := Op.move (Operand.tmp 8), type := 35, pos := "law.go:65", after := #[{ on := 57, ground := Ground.guard }], guard := some (57, false) }) (v := undef) rfl (by kernel_rfl) (by kernel_rfl) (by kernel_rfl) (fun _ _ _ h => h) (Or.inr ⟨by kernel_rfl, rfl⟩) (by assumption) ?_
  (try simp only [Act.put, List.setIfInBounds_toArray, List.set_cons_zero, List.set_cons_succ])
  refine wpAnyH_take (i := 59) (oi := { dst := some 181, op := Op.move (Operand.tmp 12), type := 3, pos := "law.go:65", after := #[{ on := 57, ground := Ground.guard }], guard := some (57, false) }) (v := undef) rfl (by kernel_rfl) (by kernel_rfl) (by kernel_rfl) (fun _ _ _ h => h) (Or.inr ⟨by kernel_rfl, rfl⟩) (by assumption) ?_
  (try simp only [Act.put, List.setIfInBounds_toArray, List.set_cons_zero, List.set_cons_succ])
  refine wpAnyH_take (i := 60) (oi := { dst := some 182, op := Op.indexAddr 35 (Operand.tmp 180) (Operand.tmp 181), type := 0, pos := "law.go:65", after := #[{ on := 58, ground := Ground.data }, { on := 59, ground := Ground.data }, { on := 57, ground := Ground.guard }], guard := some (57, false) }) (v := undef) rfl (by kernel_rfl) (by kernel_rfl) (by kernel_rfl) (fun _ _ _ h => h) (Or.inr ⟨by kernel_rfl, rfl⟩) (by assumption) ?_
  (try simp only [Act.put, List.setIfInBounds_toArray, List.set_cons_zero, List.set_cons_succ])
  refine wpAnyH_take (i := 61) (oi := { dst := some 183, op := Op.load 22 (Operand.tmp 182), type := 22, pos := "law.go:65", after := #[{ on := 60, ground := Ground.data }, { on := 57, ground := Ground.guard }], guard := some (57, false) }) (v := undef) rfl (by kernel_rfl) (by kernel_rfl) (by kernel_rfl) (fun _ _ _ h => h) (Or.inr ⟨by kernel_rfl, rfl⟩) (by assumption) ?_
  (try simp only [Act.put, List.setIfInBounds_toArray, List.set_cons_zero, List.set_cons_succ])
  refine wpAnyH_take (i := 62) (oi := { dst := some 184, op := Op.move (Operand.tmp 13), type := 3, pos := "law.go:65", after := #[{ on := 57, ground := Ground.guard }], guard := some (57, false) }) (v := undef) rfl (by kernel_rfl) (by kernel_rfl) (by kernel_rfl) (fun _ _ _ h => h) (Or.inr ⟨by kernel_rfl, rfl⟩) (by assumption) ?_
  (try simp only [Act.put, List.setIfInBounds_toArray, List.set_cons_zero, List.set_cons_succ])
  refine wpAnyH_take (i := 63) (oi := { dst := some 185, op := Op.indexAddr 22 (Operand.tmp 183) (Operand.tmp 184), type := 0, pos := "law.go:65", after := #[{ on := 61, ground := Ground.data }, { on := 62, ground := Ground.data }, { on := 57, ground := Ground.guard }], guard := some (57, false) }) (v := undef) rfl (by kernel_rfl) (by kernel_rfl) (by kernel_rfl) (fun _ _ _ h => h) (Or.inr ⟨by kernel_rfl, rfl⟩) (by assumption) ?_
  (try simp only [Act.put, List.setIfInBounds_toArray, List.set_cons_zero, List.set_cons_succ])
  refine wpAnyH_take (i := 64) (oi := { dst := some 186, op := Op.fieldAddr 52 (Operand.tmp 185) 2, type := 0, pos := "law.go:65", after := #[{ on := 63, ground := Ground.data }, { on := 57, ground := Ground.guard }], guard := some (57, false) }) (v := undef) rfl (by kernel_rfl) (by kernel_rfl) (by kernel_rfl) (fun _ _ _ h => h) (Or.inr ⟨by kernel_rfl, rfl⟩) (by assumption) ?_
  (try simp only [Act.put, List.setIfInBounds_toArray, List.set_cons_zero, List.set_cons_succ])
  refine wpAnyH_take (i := 65) (oi := { dst := some 187, op := Op.load 3 (Operand.tmp 186), type := 3, pos := "law.go:65", after := #[{ on := 64, ground := Ground.data }, { on := 57, ground := Ground.guard }], guard := some (57, false) }) (v := undef) rfl (by kernel_rfl) (by kernel_rfl) (by kernel_rfl) (fun _ _ _ h => h) (Or.inr ⟨by kernel_rfl, rfl⟩) (by assumption) ?_
  (try simp only [Act.put, List.setIfInBounds_toArray, List.set_cons_zero, List.set_cons_succ])
  refine wpAnyH_take (i := 66) (oi := { dst := some 188, op := Op.move (Operand.tmp 12), type := 3, pos := "law.go:65", after := #[{ on := 57, ground := Ground.guard }], guard := some (57, false) }) (v := undef) rfl (by kernel_rfl) (by kernel_rfl) (by kernel_rfl) (fun _ _ _ h => h) (Or.inr ⟨by kernel_rfl, rfl⟩) (by assumption) ?_
  (try simp only [Act.put, List.setIfInBounds_toArray, List.set_cons_zero, List.set_cons_succ])
  refine wpAnyH_take (i := 67) (oi := { dst := some 189, op := Op.binOp BinOp.neq 3 (Operand.tmp 187) (Operand.tmp 188) 3, type := 4, pos := "law.go:65", after := #[{ on := 65, ground := Ground.data }, { on := 66, ground := Ground.data }, { on := 57, ground := Ground.guard }], guard := some (57, false) }) (v := undef) rfl (by kernel_rfl) (by kernel_rfl) (by kernel_rfl) (fun _ _ _ h => h) (Or.inr ⟨by kernel_rfl, rfl⟩) (by assumption) ?_
  (try simp only [Act.put, List.setIfInBounds_toArray, List.set_cons_zero, List.set_cons_succ])
  refine wpAnyH_take (i := 68) (oi := { dst := some 190, op := Op.pick (Operand.tmp 179) (Operand.const (Value.bool true)) (Operand.tmp 189), type := 4, pos := "law.go:65", after := #[{ on := 57, ground := Ground.data }, { on := 67, ground := Ground.data }, { on := 47, ground := Ground.guard }], guard := some (47, true) }) (v := undef) rfl (by kernel_rfl) (by kernel_rfl) (by kernel_rfl) (fun _ _ _ h => h) (Or.inr ⟨by kernel_rfl, rfl⟩) (by assumption) ?_
  (try simp only [Act.put, List.setIfInBounds_toArray, List.set_cons_zero, List.set_cons_succ])
  refine wpAnyH_take (i := 69) (oi := { dst := some 191, op := Op.pick (Operand.tmp 169) (Operand.tmp 190) (Operand.const (Value.bool false)), type := 4, pos := "law.go:65", after := #[{ on := 47, ground := Ground.data }, { on := 68, ground := Ground.data }, { on := 43, ground := Ground.guard }], guard := some (43, false) }) (v := .bool false) rfl (by kernel_rfl) (by kernel_rfl) (by kernel_rfl) (fun _ _ _ h => h) (Or.inl ⟨by kernel_rfl, fun w hSw => ?_⟩) (by assumption) ?_
  · dsimp only at hSw; go_simp
  (try simp only [Act.put, List.setIfInBounds_toArray, List.set_cons_zero, List.set_cons_succ])
  refine wpAnyH_take (i := 70) (oi := { dst := some 192, op := Op.pick (Operand.tmp 165) (Operand.const (Value.bool true)) (Operand.tmp 191), type := 4, pos := "law.go:65", after := #[{ on := 43, ground := Ground.data }, { on := 69, ground := Ground.data }], guard := none }) (v := .bool false) rfl (by kernel_rfl) (by kernel_rfl) (by kernel_rfl) (fun _ _ _ h => h) (Or.inl ⟨by kernel_rfl, fun w hSw => ?_⟩) (by assumption) ?_
  · dsimp only at hSw; go_simp
  (try simp only [Act.put, List.setIfInBounds_toArray, List.set_cons_zero, List.set_cons_succ])
  refine wpAnyH_done (by kernel_rfl) ?_ _
  exact NoPanic.normal hQ
set_option maxRecDepth 100000 in
set_option maxHeartbeats 8000000 in
theorem g32b {gsl : Value} {lb lo lc N n g2 o2 lcp k t : Nat} {D} {t1 t2 t3 t4 t5 t6 t7 t9 t10 t11 t15 t16 t17 t18 t19 t20 t21 t22 t23 t24 t25 t26 t27 t28 t29 t30 t31 t32 t33 t34 t35 t36 t37 t38 t39 t40 t41 t42 t43 t44 t45 t46 t47 t48 t49 t50 t51 t52 t53 t54 t55 t56 t57 t58 t59 t60 t61 t62 t63 t64 t65 t66 t67 t68 t69 t70 t71 t72 t73 t74 t75 t76 t77 t78 t79 t80 t81 t82 t83 t84 t85 t86 t87 t88 t89 t90 t91 t92 t93 t94 t95 t96 t97 t98 t99 t100 t101 t102 t103 t104 t105 t106 t107 t108 t109 t110 t111 t112 t113 t114 t115 t116 t117 t118 t119 t120 t121 t122 t123 t124 t125 t126 t127 t128 t129 t130 t131 t132 t133 t134 t135 t136 t137 t138 t139 t140 t141 t142 t143 t144 t145 t146 t147 t148 t149 t150 t151 t152 t153 t154 t155 t156 t157 t158 t159 t160 t161 t162 t163 t164 t165 t166 t167 t168 t169 t170 t171 t172 t173 t174 t175 t176 t177 t178 t179 t180 t181 t182 t183 t184 t185 t186 t187 t188 t189 t190 t191 t192 : Value} {Q : Exit → Act → World → Prop} {w : World} (htn : ¬ (t : Int) < (n : Int)) (htn2 : (n : Int) ≤ (t : Int)) (htl : (t : Int) < ((n + 70 : Nat) : Int)) (hk : (k : Int) < (N : Int)) (nt : n ≤ t) (nt2 : ¬ t < n) (nl : t < n + 70) (nk : k < N)
    (hS : w.cell? ⟨lb, lo + k, none⟩ = some (.slice (some ⟨g2, o2, none⟩) (n + 70) lcp) ∧ w.cell? ⟨g2, o2 + t * 4, none⟩ = some (.int .i8 78) ∧ w.cell? ⟨g2, o2 + t * 4 + 2, none⟩ = some (.int .i64 (k : Int)))
    (hQ : Q .normal { tmps := #[gsl, t1, t2, t3, t4, t5, t6, t7, .slice (some ⟨lb, lo, none⟩) N lc, t9, t10, t11, .int .i64 (k : Int), .int .i64 (t : Int), .int .i64 (n : Int), t15, t16, t17, t18, t19, t20, t21, t22, t23, t24, t25, t26, t27, t28, t29, t30, t31, t32, t33, t34, t35, t36, t37, t38, t39, t40, t41, t42, t43, t44, t45, t46, t47, t48, t49, t50, t51, t52, t53, t54, t55, t56, t57, t58, t59, t60, t61, t62, t63, t64, t65, t66, t67, t68, t69, t70, t71, t72, t73, t74, t75, t76, t77, t78, t79, t80, t81, t82, t83, t84, t85, t86, t87, t88, t89, t90, t91, t92, t93, t94, t95, t96, t97, t98, t99, t100, t101, t102, t103, t104, t105, t106, t107, t108, t109, t110, t111, t112, t113, t114, t115, t116, t117, t118, t119, t120, t121, .int .i64 (t : Int), .int .i64 (n : Int), .bool false, .bool false, undef, undef, undef, undef, undef, undef, undef, undef, undef, undef, undef, undef, undef, undef, undef, undef, undef, undef, undef, undef, undef, undef, undef, undef, undef, undef, undef, undef, undef, undef, undef, undef, undef, undef, undef, undef, undef, undef, .bool false, .bool false, .int .i64 (t : Int), .int .i64 (n : Int), .bool true, .bool true, .slice (some ⟨lb, lo, none⟩) N lc, .int .i64 (k : Int), .pointer (some ⟨lb, lo + k, none⟩), .slice (some ⟨g2, o2, none⟩) (n + 70) lcp, .int .i64 (t : Int), .pointer (some ⟨g2, o2 + t * 4, none⟩), .pointer (some ⟨g2, o2 + t * 4, none⟩), .int .i8 78, .bool false, .bool false, .slice (some ⟨lb, lo, none⟩) N lc, .int .i64 (k : Int), .pointer (some ⟨lb, lo + k, none⟩), .slice (some ⟨g2, o2, none⟩) (n + 70) lcp, .int .i64 (t : Int), .pointer (some ⟨g2, o2 + t * 4, none⟩), .pointer (some ⟨g2, o2 + t * 4 + 2, none⟩), .int .i64 (k : Int), .int .i64 (k : Int), .bool false, .bool false, .bool false, .bool false], defers := D } w.drew) :
    (Code.region 32 ([{ dst := some 122, op := Op.move (Operand.tmp 13), type := 3, pos := "law.go:65", after := #[], guard := none }, { dst := some 123, op := Op.move (Operand.tmp 14), type := 3, pos := "law.go:65", after := #[], guard := none }, { dst := some 124, op := Op.binOp BinOp.lss 3 (Operand.tmp 122) (Operand.tmp 123) 3, type := 4, pos := "law.go:65", after := #[{ on := 0, ground := Ground.data }, { on := 1, ground := Ground.data }], guard := none }, { dst := some 125, op := Op.move (Operand.tmp 124), type := 4, pos := "law.go:65", after := #[{ on := 2, ground := Ground.data }], guard := none }, { dst := some 126, op := Op.move (Operand.tmp 0), type := 35, pos := "law.go:65", after := #[{ on := 3, ground := Ground.guard }], guard := some (3, true) }, { dst := some 127, op := Op.move (Operand.tmp 12), type := 3, pos := "law.go:65", after := #[{ on := 3, ground := Ground.guard }], guard := some (3, true) }, { dst := some 128, op := Op.indexAddr 35 (Operand.tmp 126) (Operand.tmp 127), type := 0, pos := "law.go:65", after := #[{ on := 4, ground := Ground.data }, { on := 5, ground := Ground.data }, { on := 3, ground := Ground.guard }], guard := some (3, true) }, { dst := some 129, op := Op.load 22 (Operand.tmp 128), type := 22, pos := "law.go:65", after := #[{ on := 6, ground := Ground.data }, { on := 3, ground := Ground.guard }], guard := some (3, true) }, { dst := some 130, op := Op.move (Operand.tmp 13), type := 3, pos := "law.go:65", after := #[{ on := 3, ground := Ground.guard }], guard := some (3, true) }, { dst := some 131, op := Op.indexAddr 22 (Operand.tmp 129) (Operand.tmp 130), type := 0, pos := "law.go:65", after := #[{ on := 7, ground := Ground.data }, { on := 8, ground := Ground.data }, { on := 3, ground := Ground.guard }], guard := some (3, true) }, { dst := some 132, op := Op.fieldAddr 52 (Operand.tmp 131) 0, type := 0, pos := "law.go:65", after := #[{ on := 9, ground := Ground.data }, { on := 3, ground := Ground.guard }], guard := some (3, true) }, { dst := some 133, op := Op.load 50 (Operand.tmp 132), type := 50, pos := "law.go:65", after := #[{ on := 10, ground := Ground.data }, { on := 3, ground := Ground.guard }], guard := some (3, true) }, { dst := some 134, op := Op.binOp BinOp.neq 50 (Operand.tmp 133) (Operand.const (Value.int IntKind.i8 77)) 50, type := 4, pos := "law.go:65", after := #[{ on := 11, ground := Ground.data }, { on := 3, ground := Ground.guard }], guard := some (3, true) }, { dst := some 135, op := Op.move (Operand.tmp 134), type := 4, pos := "law.go:65", after := #[{ on := 12, ground := Ground.data }, { on := 3, ground := Ground.chain }, { on := 3, ground := Ground.guard }], guard := some (3, true) }, { dst := some 136, op := Op.move (Operand.tmp 0), type := 35, pos := "law.go:65", after := #[{ on := 13, ground := Ground.guard }], guard := some (13, false) }, { dst := some 137, op := Op.move (Operand.tmp 12), type := 3, pos := "law.go:65", after := #[{ on := 13, ground := Ground.guard }], guard := some (13, false) }, { dst := some 138, op := Op.indexAddr 35 (Operand.tmp 136) (Operand.tmp 137), type := 0, pos := "law.go:65", after := #[{ on := 14, ground := Ground.data }, { on := 15, ground := Ground.data }, { on := 13, ground := Ground.guard }], guard := some (13, false) }, { dst := some 139, op := Op.load 22 (Operand.tmp 138), type := 22, pos := "law.go:65", after := #[{ on := 16, ground := Ground.data }, { on := 13, ground := Ground.guard }], guard := some (13, false) }, { dst := some 140, op := Op.move (Operand.tmp 13), type := 3, pos := "law.go:65", after := #[{ on := 13, ground := Ground.guard }], guard := some (13, false) }, { dst := some 141, op := Op.indexAddr 22 (Operand.tmp 139) (Operand.tmp 140), type := 0, pos := "law.go:65", after := #[{ on := 17, ground := Ground.data }, { on := 18, ground := Ground.data }, { on := 13, ground := Ground.guard }], guard := some (13, false) }, { dst := some 142, op := Op.fieldAddr 52 (Operand.tmp 141) 2, type := 0, pos := "law.go:65", after := #[{ on := 19, ground := Ground.data }, { on := 13, ground := Ground.guard }], guard := some (13, false) }, { dst := some 143, op := Op.load 3 (Operand.tmp 142), type := 3, pos := "law.go:65", after := #[{ on := 20, ground := Ground.data }, { on := 13, ground := Ground.guard }], guard := some (13, false) }, { dst := some 144, op := Op.move (Operand.tmp 12), type := 3, pos := "law.go:65", after := #[{ on := 13, ground := Ground.guard }], guard := some (13, false) }, { dst := some 145, op := Op.binOp BinOp.neq 3 (Operand.tmp 143) (Operand.tmp 144) 3, type := 4, pos := "law.go:65", after := #[{ on := 21, ground := Ground.data }, { on := 22, ground := Ground.data }, { on := 13, ground := Ground.guard }], guard := some (13, false) }, { dst := some 146, op := Op.pick (Operand.tmp 135) (Operand.const (Value.bool true)) (Operand.tmp 145), type := 4, pos := "law.go:65", after := #[{ on := 13, ground := Ground.data }, { on := 23, ground := Ground.data }, { on := 3, ground := Ground.guard }], guard := some (3, true) }, { dst := some 147, op := Op.move (Operand.tmp 146), type := 4, pos := "law.go:65", after := #[{ on := 24, ground := Ground.data }, { on := 13, ground := Ground.chain }, { on := 3, ground := Ground.guard }], guard := some (3, true) }, { dst := some 148, op := Op.move (Operand.tmp 8), type := 35, pos := "law.go:65", after := #[{ on := 25, ground := Ground.guard }], guard := some (25, false) }, { dst := some 149, op := Op.move (Operand.tmp 12), type := 3, pos := "law.go:65", after := #[{ on := 25, ground := Ground.guard }], guard := some (25, false) }, { dst := some 150, op := Op.indexAddr 35 (Operand.tmp 148) (Operand.tmp 149), type := 0, pos := "law.go:65", after := #[{ on := 26, ground := Ground.data }, { on := 27, ground := Ground.data }, { on := 25, ground := Ground.guard }], guard := some (25, false) }, { dst := some 151, op := Op.load 22 (Operand.tmp 150), type := 22, pos := "law.go:65", after := #[{ on := 28, ground := Ground.data }, { on := 25, ground := Ground.guard }], guard := some (25, false) }, { dst := some 152, op := Op.move (Operand.tmp 13), type := 3, pos := "law.go:65", after := #[{ on := 25, ground := Ground.guard }], guard := some (25, false) }, { dst := some 153, op := Op.indexAddr 22 (Operand.tmp 151) (Operand.tmp 152), type := 0, pos := "law.go:65", after := #[{ on := 29, ground := Ground.data }, { on := 30, ground := Ground.data }, { on := 25, ground := Ground.guard }], guard := some (25, false) }, { dst := some 154, op := Op.load 52 (Operand.tmp 153), type := 52, pos := "law.go:65", after := #[{ on := 31, ground := Ground.data }, { on := 25, ground := Ground.guard }], guard := some (25, false) }, { dst := some 155, op := Op.move (Operand.tmp 0), type := 35, pos := "law.go:65", after := #[{ on := 25, ground := Ground.guard }], guard := some (25, false) }, { dst := some 156, op := Op.move (Operand.tmp 12), type := 3, pos := "law.go:65", after := #[{ on := 25, ground := Ground.guard }], guard := some (25, false) }].append [{ dst := some 157, op := Op.indexAddr 35 (Operand.tmp 155) (Operand.tmp 156), type := 0, pos := "law.go:65", after := #[{ on := 33, ground := Ground.data }, { on := 34, ground := Ground.data }, { on := 25, ground := Ground.guard }], guard := some (25, false) }, { dst := some 158, op := Op.load 22 (Operand.tmp 157), type := 22, pos := "law.go:65", after := #[{ on := 35, ground := Ground.data }, { on := 25, ground := Ground.guard }], guard := some (25, false) }, { dst := some 159, op := Op.move (Operand.tmp 13), type := 3, pos := "law.go:65", after := #[{ on := 25, ground := Ground.guard }], guard := some (25, false) }, { dst := some 160, op := Op.indexAddr 22 (Operand.tmp 158) (Operand.tmp 159), type := 0, pos := "law.go:65", after := #[{ on := 36, ground := Ground.data }, { on := 37, ground := Ground.data }, { on := 25, ground := Ground.guard }], guard := some (25, false) }, { dst := some 161, op := Op.load 52 (Operand.tmp 160), type := 52, pos := "law.go:65", after := #[{ on := 38, ground := Ground.data }, { on := 25, ground := Ground.guard }], guard := some (25, false) }, { dst := some 162, op := Op.binOp BinOp.neq 52 (Operand.tmp 154) (Operand.tmp 161) 52, type := 4, pos := "law.go:65", after := #[{ on := 32, ground := Ground.data }, { on := 39, ground := Ground.data }, { on := 25, ground := Ground.guard }], guard := some (25, false) }, { dst := some 163, op := Op.pick (Operand.tmp 147) (Operand.const (Value.bool true)) (Operand.tmp 162), type := 4, pos := "law.go:65", after := #[{ on := 25, ground := Ground.data }, { on := 40, ground := Ground.data }, { on := 3, ground := Ground.guard }], guard := some (3, true) }, { dst := some 164, op := Op.pick (Operand.tmp 125) (Operand.tmp 163) (Operand.const (Value.bool false)), type := 4, pos := "law.go:65", after := #[{ on := 3, ground := Ground.data }, { on := 41, ground := Ground.data }], guard := none }, { dst := some 165, op := Op.move (Operand.tmp 164), type := 4, pos := "law.go:65", after := #[{ on := 42, ground := Ground.data }, { on := 25, ground := Ground.chain }], guard := none }, { dst := some 166, op := Op.move (Operand.tmp 13), type := 3, pos := "law.go:65", after := #[{ on := 43, ground := Ground.guard }], guard := some (43, false) }, { dst := some 167, op := Op.move (Operand.tmp 14), type := 3, pos := "law.go:65", after := #[{ on := 43, ground := Ground.guard }], guard := some (43, false) }, { dst := some 168, op := Op.binOp BinOp.geq 3 (Operand.tmp 166) (Operand.tmp 167) 3, type := 4, pos := "law.go:65", after := #[{ on := 44, ground := Ground.data }, { on := 45, ground := Ground.data }, { on := 43, ground := Ground.guard }], guard := some (43, false) }, { dst := some 169, op := Op.move (Operand.tmp 168), type := 4, pos := "law.go:65", after := #[{ on := 46, ground := Ground.data }, { on := 43, ground := Ground.chain }, { on := 43, ground := Ground.guard }], guard := some (43, false) }, { dst := some 170, op := Op.move (Operand.tmp 8), type := 35, pos := "law.go:65", after := #[{ on := 47, ground := Ground.guard }], guard := some (47, true) }, { dst := some 171, op := Op.move (Operand.tmp 12), type := 3, pos := "law.go:65", after := #[{ on := 47, ground := Ground.guard }], guard := some (47, true) }, { dst := some 172, op := Op.indexAddr 35 (Operand.tmp 170) (Operand.tmp 171), type := 0, pos := "law.go:65", after := #[{ on := 48, ground := Ground.data }, { on := 49, ground := Ground.data }, { on := 47, ground := Ground.guard }], guard := some (47, true) }, { dst := some 173, op := Op.load 22 (Operand.tmp 172), type := 22, pos := "law.go:65", after := #[{ on := 50, ground := Ground.data }, { on := 47, ground := Ground.guard }], guard := some (47, true) }, { dst := some 174, op := Op.move (Operand.tmp 13), type := 3, pos := "law.go:65", after := #[{ on := 47, ground := Ground.guard }], guard := some (47, true) }, { dst := some 175, op := Op.indexAddr 22 (Operand.tmp 173) (Operand.tmp 174), type := 0, pos := "law.go:65", after := #[{ on := 51, ground := Ground.data }, { on := 52, ground := Ground.data }, { on := 47, ground := Ground.guard }], guard := some (47, true) }, { dst := some 176, op := Op.fieldAddr 52 (Operand.tmp 175) 0, type := 0, pos := "law.go:65", after := #[{ on := 53, ground := Ground.data }, { on := 47, ground := Ground.guard }], guard := some (47, true) }, { dst := some 177, op := Op.load 50 (Operand.tmp 176), type := 50, pos := "law.go:65", after := #[{ on := 54, ground := Ground.data }, { on := 47, ground := Ground.guard }], guard := some (47, true) }, { dst := some 178, op := Op.binOp BinOp.neq 50 (Operand.tmp 177) (Operand.const (Value.int IntKind.i8 78)) 50, type := 4, pos := "law.go:65", after := #[{ on := 55, ground := Ground.data }, { on := 47, ground := Ground.guard }], guard := some (47, true) }, { dst := some 179, op := Op.move (Operand.tmp 178), type := 4, pos := "law.go:65", after := #[{ on := 56, ground := Ground.data }, { on := 47, ground := Ground.chain }, { on := 47, ground := Ground.guard }], guard := some (47, true) }, { dst := some 180, op := Op.move (Operand.tmp 8), type := 35, pos := "law.go:65", after := #[{ on := 57, ground := Ground.guard }], guard := some (57, false) }, { dst := some 181, op := Op.move (Operand.tmp 12), type := 3, pos := "law.go:65", after := #[{ on := 57, ground := Ground.guard }], guard := some (57, false) }, { dst := some 182, op := Op.indexAddr 35 (Operand.tmp 180) (Operand.tmp 181), type := 0, pos := "law.go:65", after := #[{ on := 58, ground := Ground.data }, { on := 59, ground := Ground.data }, { on := 57, ground := Ground.guard }], guard := some (57, false) }, { dst := some 183, op := Op.load 22 (Operand.tmp 182), type := 22, pos := "law.go:65", after := #[{ on := 60, ground := Ground.data }, { on := 57, ground := Ground.guard }], guard := some (57, false) }, { dst := some 184, op := Op.move (Operand.tmp 13), type := 3, pos := "law.go:65", after := #[{ on := 57, ground := Ground.guard }], guard := some (57, false) }, { dst := some 185, op := Op.indexAddr 22 (Operand.tmp 183) (Operand.tmp 184), type := 0, pos := "law.go:65", after := #[{ on := 61, ground := Ground.data }, { on := 62, ground := Ground.data }, { on := 57, ground := Ground.guard }], guard := some (57, false) }, { dst := some 186, op := Op.fieldAddr 52 (Operand.tmp 185) 2, type := 0, pos := "law.go:65", after := #[{ on := 63, ground := Ground.data }, { on := 57, ground := Ground.guard }], guard := some (57, false) }, { dst := some 187, op := Op.load 3 (Operand.tmp 186), type := 3, pos := "law.go:65", after := #[{ on := 64, ground := Ground.data }, { on := 57, ground := Ground.guard }], guard := some (57, false) }, { dst := some 188, op := Op.move (Operand.tmp 12), type := 3, pos := "law.go:65", after := #[{ on := 57, ground := Ground.guard }], guard := some (57, false) }, { dst := some 189, op := Op.binOp BinOp.neq 3 (Operand.tmp 187) (Operand.tmp 188) 3, type := 4, pos := "law.go:65", after := #[{ on := 65, ground := Ground.data }, { on := 66, ground := Ground.data }, { on := 57, ground := Ground.guard }], guard := some (57, false) }, { dst := some 190, op := Op.pick (Operand.tmp 179) (Operand.const (Value.bool true)) (Operand.tmp 189), type := 4, pos := "law.go:65", after := #[{ on := 57, ground := Ground.data }, { on := 67, ground := Ground.data }, { on := 47, ground := Ground.guard }], guard := some (47, true) }, { dst := some 191, op := Op.pick (Operand.tmp 169) (Operand.tmp 190) (Operand.const (Value.bool false)), type := 4, pos := "law.go:65", after := #[{ on := 47, ground := Ground.data }, { on := 68, ground := Ground.data }, { on := 43, ground := Ground.guard }], guard := some (43, false) }, { dst := some 192, op := Op.pick (Operand.tmp 165) (Operand.const (Value.bool true)) (Operand.tmp 191), type := 4, pos := "law.go:65", after := #[{ on := 43, ground := Ground.data }, { on := 69, ground := Ground.data }], guard := none }]).toArray true).wp Tryz.prog Q { tmps := #[gsl, t1, t2, t3, t4, t5, t6, t7, .slice (some ⟨lb, lo, none⟩) N lc, t9, t10, t11, .int .i64 (k : Int), .int .i64 (t : Int), .int .i64 (n : Int), t15, t16, t17, t18, t19, t20, t21, t22, t23, t24, t25, t26, t27, t28, t29, t30, t31, t32, t33, t34, t35, t36, t37, t38, t39, t40, t41, t42, t43, t44, t45, t46, t47, t48, t49, t50, t51, t52, t53, t54, t55, t56, t57, t58, t59, t60, t61, t62, t63, t64, t65, t66, t67, t68, t69, t70, t71, t72, t73, t74, t75, t76, t77, t78, t79, t80, t81, t82, t83, t84, t85, t86, t87, t88, t89, t90, t91, t92, t93, t94, t95, t96, t97, t98, t99, t100, t101, t102, t103, t104, t105, t106, t107, t108, t109, t110, t111, t112, t113, t114, t115, t116, t117, t118, t119, t120, t121, t122, t123, t124, t125, t126, t127, t128, t129, t130, t131, t132, t133, t134, t135, t136, t137, t138, t139, t140, t141, t142, t143, t144, t145, t146, t147, t148, t149, t150, t151, t152, t153, t154, t155, t156, t157, t158, t159, t160, t161, t162, t163, t164, t165, t166, t167, t168, t169, t170, t171, t172, t173, t174, t175, t176, t177, t178, t179, t180, t181, t182, t183, t184, t185, t186, t187, t188, t189, t190, t191, t192], defers := D } w := by
  refine wp_region_noPanic ?_
  refine wp_region_held_drew (S := fun w' => w'.cell? ⟨lb, lo + k, none⟩ = some (.slice (some ⟨g2, o2, none⟩) (n + 70) lcp) ∧ w'.cell? ⟨g2, o2 + t * 4, none⟩ = some (.int .i8 78) ∧ w'.cell? ⟨g2, o2 + t * 4 + 2, none⟩ = some (.int .i64 (k : Int))) (by kernel_rfl) hS (fun hHeld => ?_)
  refine wpAnyH_take (i := 0) (oi := { dst := some 122, op := Op.move (Operand.tmp 13), type := 3, pos := "law.go:65", after := #[], guard := none }) (v := .int .i64 (t : Int)) rfl (by kernel_rfl) (by kernel_rfl) (by kernel_rfl) (fun _ _ _ h => h) (Or.inl ⟨by kernel_rfl, fun w hSw => ?_⟩) (by assumption) ?_
  · dsimp only at hSw; go_simp
  (try simp only [Act.put, List.setIfInBounds_toArray, List.set_cons_zero, List.set_cons_succ])
  refine wpAnyH_take (i := 1) (oi := { dst := some 123, op := Op.move (Operand.tmp 14), type := 3, pos := "law.go:65", after := #[], guard := none }) (v := .int .i64 (n : Int)) rfl (by kernel_rfl) (by kernel_rfl) (by kernel_rfl) (fun _ _ _ h => h) (Or.inl ⟨by kernel_rfl, fun w hSw => ?_⟩) (by assumption) ?_
  · dsimp only at hSw; go_simp
  (try simp only [Act.put, List.setIfInBounds_toArray, List.set_cons_zero, List.set_cons_succ])
  refine wpAnyH_take (i := 2) (oi := { dst := some 124, op := Op.binOp BinOp.lss 3 (Operand.tmp 122) (Operand.tmp 123) 3, type := 4, pos := "law.go:65", after := #[{ on := 0, ground := Ground.data }, { on := 1, ground := Ground.data }], guard := none }) (v := .bool false) rfl (by kernel_rfl) (by kernel_rfl) (by kernel_rfl) (fun _ _ _ h => h) (Or.inl ⟨by kernel_rfl, fun w hSw => ?_⟩) (by assumption) ?_
  · dsimp only at hSw; go_simp
  (try simp only [Act.put, List.setIfInBounds_toArray, List.set_cons_zero, List.set_cons_succ])
  refine wpAnyH_take (i := 3) (oi := { dst := some 125, op := Op.move (Operand.tmp 124), type := 4, pos := "law.go:65", after := #[{ on := 2, ground := Ground.data }], guard := none }) (v := .bool false) rfl (by kernel_rfl) (by kernel_rfl) (by kernel_rfl) (fun _ _ _ h => h) (Or.inl ⟨by kernel_rfl, fun w hSw => ?_⟩) (by assumption) ?_
  · dsimp only at hSw; go_simp
  (try simp only [Act.put, List.setIfInBounds_toArray, List.set_cons_zero, List.set_cons_succ])
  refine wpAnyH_take (i := 4) (oi := { dst := some 126, op := Op.move (Operand.tmp 0), type := 35, pos := "law.go:65", after := #[{ on := 3, ground := Ground.guard }], guard := some (3, true) }) (v := undef) rfl (by kernel_rfl) (by kernel_rfl) (by kernel_rfl) (fun _ _ _ h => h) (Or.inr ⟨by kernel_rfl, rfl⟩) (by assumption) ?_
  (try simp only [Act.put, List.setIfInBounds_toArray, List.set_cons_zero, List.set_cons_succ])
  refine wpAnyH_take (i := 5) (oi := { dst := some 127, op := Op.move (Operand.tmp 12), type := 3, pos := "law.go:65", after := #[{ on := 3, ground := Ground.guard }], guard := some (3, true) }) (v := undef) rfl (by kernel_rfl) (by kernel_rfl) (by kernel_rfl) (fun _ _ _ h => h) (Or.inr ⟨by kernel_rfl, rfl⟩) (by assumption) ?_
  (try simp only [Act.put, List.setIfInBounds_toArray, List.set_cons_zero, List.set_cons_succ])
  refine wpAnyH_take (i := 6) (oi := { dst := some 128, op := Op.indexAddr 35 (Operand.tmp 126) (Operand.tmp 127), type := 0, pos := "law.go:65", after := #[{ on := 4, ground := Ground.data }, { on := 5, ground := Ground.data }, { on := 3, ground := Ground.guard }], guard := some (3, true) }) (v := undef) rfl (by kernel_rfl) (by kernel_rfl) (by kernel_rfl) (fun _ _ _ h => h) (Or.inr ⟨by kernel_rfl, rfl⟩) (by assumption) ?_
  (try simp only [Act.put, List.setIfInBounds_toArray, List.set_cons_zero, List.set_cons_succ])
  refine wpAnyH_take (i := 7) (oi := { dst := some 129, op := Op.load 22 (Operand.tmp 128), type := 22, pos := "law.go:65", after := #[{ on := 6, ground := Ground.data }, { on := 3, ground := Ground.guard }], guard := some (3, true) }) (v := undef) rfl (by kernel_rfl) (by kernel_rfl) (by kernel_rfl) (fun _ _ _ h => h) (Or.inr ⟨by kernel_rfl, rfl⟩) (by assumption) ?_
  (try simp only [Act.put, List.setIfInBounds_toArray, List.set_cons_zero, List.set_cons_succ])
  refine wpAnyH_take (i := 8) (oi := { dst := some 130, op := Op.move (Operand.tmp 13), type := 3, pos := "law.go:65", after := #[{ on := 3, ground := Ground.guard }], guard := some (3, true) }) (v := undef) rfl (by kernel_rfl) (by kernel_rfl) (by kernel_rfl) (fun _ _ _ h => h) (Or.inr ⟨by kernel_rfl, rfl⟩) (by assumption) ?_
  (try simp only [Act.put, List.setIfInBounds_toArray, List.set_cons_zero, List.set_cons_succ])
  refine wpAnyH_take (i := 9) (oi := { dst := some 131, op := Op.indexAddr 22 (Operand.tmp 129) (Operand.tmp 130), type := 0, pos := "law.go:65", after := #[{ on := 7, ground := Ground.data }, { on := 8, ground := Ground.data }, { on := 3, ground := Ground.guard }], guard := some (3, true) }) (v := undef) rfl (by kernel_rfl) (by kernel_rfl) (by kernel_rfl) (fun _ _ _ h => h) (Or.inr ⟨by kernel_rfl, rfl⟩) (by assumption) ?_
  (try simp only [Act.put, List.setIfInBounds_toArray, List.set_cons_zero, List.set_cons_succ])
  refine wpAnyH_take (i := 10) (oi := { dst := some 132, op := Op.fieldAddr 52 (Operand.tmp 131) 0, type := 0, pos := "law.go:65", after := #[{ on := 9, ground := Ground.data }, { on := 3, ground := Ground.guard }], guard := some (3, true) }) (v := undef) rfl (by kernel_rfl) (by kernel_rfl) (by kernel_rfl) (fun _ _ _ h => h) (Or.inr ⟨by kernel_rfl, rfl⟩) (by assumption) ?_
  (try simp only [Act.put, List.setIfInBounds_toArray, List.set_cons_zero, List.set_cons_succ])
  refine wpAnyH_take (i := 11) (oi := { dst := some 133, op := Op.load 50 (Operand.tmp 132), type := 50, pos := "law.go:65", after := #[{ on := 10, ground := Ground.data }, { on := 3, ground := Ground.guard }], guard := some (3, true) }) (v := undef) rfl (by kernel_rfl) (by kernel_rfl) (by kernel_rfl) (fun _ _ _ h => h) (Or.inr ⟨by kernel_rfl, rfl⟩) (by assumption) ?_
  (try simp only [Act.put, List.setIfInBounds_toArray, List.set_cons_zero, List.set_cons_succ])
  refine wpAnyH_take (i := 12) (oi := { dst := some 134, op := Op.binOp BinOp.neq 50 (Operand.tmp 133) (Operand.const (Value.int IntKind.i8 77)) 50, type := 4, pos := "law.go:65", after := #[{ on := 11, ground := Ground.data }, { on := 3, ground := Ground.guard }], guard := some (3, true) }) (v := undef) rfl (by kernel_rfl) (by kernel_rfl) (by kernel_rfl) (fun _ _ _ h => h) (Or.inr ⟨by kernel_rfl, rfl⟩) (by assumption) ?_
  (try simp only [Act.put, List.setIfInBounds_toArray, List.set_cons_zero, List.set_cons_succ])
  refine wpAnyH_take (i := 13) (oi := { dst := some 135, op := Op.move (Operand.tmp 134), type := 4, pos := "law.go:65", after := #[{ on := 12, ground := Ground.data }, { on := 3, ground := Ground.chain }, { on := 3, ground := Ground.guard }], guard := some (3, true) }) (v := undef) rfl (by kernel_rfl) (by kernel_rfl) (by kernel_rfl) (fun _ _ _ h => h) (Or.inr ⟨by kernel_rfl, rfl⟩) (by assumption) ?_
  (try simp only [Act.put, List.setIfInBounds_toArray, List.set_cons_zero, List.set_cons_succ])
  refine wpAnyH_take (i := 14) (oi := { dst := some 136, op := Op.move (Operand.tmp 0), type := 35, pos := "law.go:65", after := #[{ on := 13, ground := Ground.guard }], guard := some (13, false) }) (v := undef) rfl (by kernel_rfl) (by kernel_rfl) (by kernel_rfl) (fun _ _ _ h => h) (Or.inr ⟨by kernel_rfl, rfl⟩) (by assumption) ?_
  (try simp only [Act.put, List.setIfInBounds_toArray, List.set_cons_zero, List.set_cons_succ])
  refine wpAnyH_take (i := 15) (oi := { dst := some 137, op := Op.move (Operand.tmp 12), type := 3, pos := "law.go:65", after := #[{ on := 13, ground := Ground.guard }], guard := some (13, false) }) (v := undef) rfl (by kernel_rfl) (by kernel_rfl) (by kernel_rfl) (fun _ _ _ h => h) (Or.inr ⟨by kernel_rfl, rfl⟩) (by assumption) ?_
  (try simp only [Act.put, List.setIfInBounds_toArray, List.set_cons_zero, List.set_cons_succ])
  refine wpAnyH_take (i := 16) (oi := { dst := some 138, op := Op.indexAddr 35 (Operand.tmp 136) (Operand.tmp 137), type := 0, pos := "law.go:65", after := #[{ on := 14, ground := Ground.data }, { on := 15, ground := Ground.data }, { on := 13, ground := Ground.guard }], guard := some (13, false) }) (v := undef) rfl (by kernel_rfl) (by kernel_rfl) (by kernel_rfl) (fun _ _ _ h => h) (Or.inr ⟨by kernel_rfl, rfl⟩) (by assumption) ?_
  (try simp only [Act.put, List.setIfInBounds_toArray, List.set_cons_zero, List.set_cons_succ])
  refine wpAnyH_take (i := 17) (oi := { dst := some 139, op := Op.load 22 (Operand.tmp 138), type := 22, pos := "law.go:65", after := #[{ on := 16, ground := Ground.data }, { on := 13, ground := Ground.guard }], guard := some (13, false) }) (v := undef) rfl (by kernel_rfl) (by kernel_rfl) (by kernel_rfl) (fun _ _ _ h => h) (Or.inr ⟨by kernel_rfl, rfl⟩) (by assumption) ?_
  (try simp only [Act.put, List.setIfInBounds_toArray, List.set_cons_zero, List.set_cons_succ])
  refine wpAnyH_take (i := 18) (oi := { dst := some 140, op := Op.move (Operand.tmp 13), type := 3, pos := "law.go:65", after := #[{ on := 13, ground := Ground.guard }], guard := some (13, false) }) (v := undef) rfl (by kernel_rfl) (by kernel_rfl) (by kernel_rfl) (fun _ _ _ h => h) (Or.inr ⟨by kernel_rfl, rfl⟩) (by assumption) ?_
  (try simp only [Act.put, List.setIfInBounds_toArray, List.set_cons_zero, List.set_cons_succ])
  refine wpAnyH_take (i := 19) (oi := { dst := some 141, op := Op.indexAddr 22 (Operand.tmp 139) (Operand.tmp 140), type := 0, pos := "law.go:65", after := #[{ on := 17, ground := Ground.data }, { on := 18, ground := Ground.data }, { on := 13, ground := Ground.guard }], guard := some (13, false) }) (v := undef) rfl (by kernel_rfl) (by kernel_rfl) (by kernel_rfl) (fun _ _ _ h => h) (Or.inr ⟨by kernel_rfl, rfl⟩) (by assumption) ?_
  (try simp only [Act.put, List.setIfInBounds_toArray, List.set_cons_zero, List.set_cons_succ])
  refine wpAnyH_take (i := 20) (oi := { dst := some 142, op := Op.fieldAddr 52 (Operand.tmp 141) 2, type := 0, pos := "law.go:65", after := #[{ on := 19, ground := Ground.data }, { on := 13, ground := Ground.guard }], guard := some (13, false) }) (v := undef) rfl (by kernel_rfl) (by kernel_rfl) (by kernel_rfl) (fun _ _ _ h => h) (Or.inr ⟨by kernel_rfl, rfl⟩) (by assumption) ?_
  (try simp only [Act.put, List.setIfInBounds_toArray, List.set_cons_zero, List.set_cons_succ])
  refine wpAnyH_take (i := 21) (oi := { dst := some 143, op := Op.load 3 (Operand.tmp 142), type := 3, pos := "law.go:65", after := #[{ on := 20, ground := Ground.data }, { on := 13, ground := Ground.guard }], guard := some (13, false) }) (v := undef) rfl (by kernel_rfl) (by kernel_rfl) (by kernel_rfl) (fun _ _ _ h => h) (Or.inr ⟨by kernel_rfl, rfl⟩) (by assumption) ?_
  (try simp only [Act.put, List.setIfInBounds_toArray, List.set_cons_zero, List.set_cons_succ])
  refine wpAnyH_take (i := 22) (oi := { dst := some 144, op := Op.move (Operand.tmp 12), type := 3, pos := "law.go:65", after := #[{ on := 13, ground := Ground.guard }], guard := some (13, false) }) (v := undef) rfl (by kernel_rfl) (by kernel_rfl) (by kernel_rfl) (fun _ _ _ h => h) (Or.inr ⟨by kernel_rfl, rfl⟩) (by assumption) ?_
  (try simp only [Act.put, List.setIfInBounds_toArray, List.set_cons_zero, List.set_cons_succ])
  refine wpAnyH_take (i := 23) (oi := { dst := some 145, op := Op.binOp BinOp.neq 3 (Operand.tmp 143) (Operand.tmp 144) 3, type := 4, pos := "law.go:65", after := #[{ on := 21, ground := Ground.data }, { on := 22, ground := Ground.data }, { on := 13, ground := Ground.guard }], guard := some (13, false) }) (v := undef) rfl (by kernel_rfl) (by kernel_rfl) (by kernel_rfl) (fun _ _ _ h => h) (Or.inr ⟨by kernel_rfl, rfl⟩) (by assumption) ?_
  (try simp only [Act.put, List.setIfInBounds_toArray, List.set_cons_zero, List.set_cons_succ])
  refine wpAnyH_take (i := 24) (oi := { dst := some 146, op := Op.pick (Operand.tmp 135) (Operand.const (Value.bool true)) (Operand.tmp 145), type := 4, pos := "law.go:65", after := #[{ on := 13, ground := Ground.data }, { on := 23, ground := Ground.data }, { on := 3, ground := Ground.guard }], guard := some (3, true) }) (v := undef) rfl (by kernel_rfl) (by kernel_rfl) (by kernel_rfl) (fun _ _ _ h => h) (Or.inr ⟨by kernel_rfl, rfl⟩) (by assumption) ?_
  (try simp only [Act.put, List.setIfInBounds_toArray, List.set_cons_zero, List.set_cons_succ])
  refine wpAnyH_take (i := 25) (oi := { dst := some 147, op := Op.move (Operand.tmp 146), type := 4, pos := "law.go:65", after := #[{ on := 24, ground := Ground.data }, { on := 13, ground := Ground.chain }, { on := 3, ground := Ground.guard }], guard := some (3, true) }) (v := undef) rfl (by kernel_rfl) (by kernel_rfl) (by kernel_rfl) (fun _ _ _ h => h) (Or.inr ⟨by kernel_rfl, rfl⟩) (by assumption) ?_
  (try simp only [Act.put, List.setIfInBounds_toArray, List.set_cons_zero, List.set_cons_succ])
  refine wpAnyH_take (i := 26) (oi := { dst := some 148, op := Op.move (Operand.tmp 8), type := 35, pos := "law.go:65", after := #[{ on := 25, ground := Ground.guard }], guard := some (25, false) }) (v := undef) rfl (by kernel_rfl) (by kernel_rfl) (by kernel_rfl) (fun _ _ _ h => h) (Or.inr ⟨by kernel_rfl, rfl⟩) (by assumption) ?_
  (try simp only [Act.put, List.setIfInBounds_toArray, List.set_cons_zero, List.set_cons_succ])
  refine wpAnyH_take (i := 27) (oi := { dst := some 149, op := Op.move (Operand.tmp 12), type := 3, pos := "law.go:65", after := #[{ on := 25, ground := Ground.guard }], guard := some (25, false) }) (v := undef) rfl (by kernel_rfl) (by kernel_rfl) (by kernel_rfl) (fun _ _ _ h => h) (Or.inr ⟨by kernel_rfl, rfl⟩) (by assumption) ?_
  (try simp only [Act.put, List.setIfInBounds_toArray, List.set_cons_zero, List.set_cons_succ])
  refine wpAnyH_take (i := 28) (oi := { dst := some 150, op := Op.indexAddr 35 (Operand.tmp 148) (Operand.tmp 149), type := 0, pos := "law.go:65", after := #[{ on := 26, ground := Ground.data }, { on := 27, ground := Ground.data }, { on := 25, ground := Ground.guard }], guard := some (25, false) }) (v := undef) rfl (by kernel_rfl) (by kernel_rfl) (by kernel_rfl) (fun _ _ _ h => h) (Or.inr ⟨by kernel_rfl, rfl⟩) (by assumption) ?_
  (try simp only [Act.put, List.setIfInBounds_toArray, List.set_cons_zero, List.set_cons_succ])
  refine wpAnyH_take (i := 29) (oi := { dst := some 151, op := Op.load 22 (Operand.tmp 150), type := 22, pos := "law.go:65", after := #[{ on := 28, ground := Ground.data }, { on := 25, ground := Ground.guard }], guard := some (25, false) }) (v := undef) rfl (by kernel_rfl) (by kernel_rfl) (by kernel_rfl) (fun _ _ _ h => h) (Or.inr ⟨by kernel_rfl, rfl⟩) (by assumption) ?_
  (try simp only [Act.put, List.setIfInBounds_toArray, List.set_cons_zero, List.set_cons_succ])
  refine wpAnyH_take (i := 30) (oi := { dst := some 152, op := Op.move (Operand.tmp 13), type := 3, pos := "law.go:65", after := #[{ on := 25, ground := Ground.guard }], guard := some (25, false) }) (v := undef) rfl (by kernel_rfl) (by kernel_rfl) (by kernel_rfl) (fun _ _ _ h => h) (Or.inr ⟨by kernel_rfl, rfl⟩) (by assumption) ?_
  (try simp only [Act.put, List.setIfInBounds_toArray, List.set_cons_zero, List.set_cons_succ])
  refine wpAnyH_take (i := 31) (oi := { dst := some 153, op := Op.indexAddr 22 (Operand.tmp 151) (Operand.tmp 152), type := 0, pos := "law.go:65", after := #[{ on := 29, ground := Ground.data }, { on := 30, ground := Ground.data }, { on := 25, ground := Ground.guard }], guard := some (25, false) }) (v := undef) rfl (by kernel_rfl) (by kernel_rfl) (by kernel_rfl) (fun _ _ _ h => h) (Or.inr ⟨by kernel_rfl, rfl⟩) (by assumption) ?_
  (try simp only [Act.put, List.setIfInBounds_toArray, List.set_cons_zero, List.set_cons_succ])
  refine wpAnyH_take (i := 32) (oi := { dst := some 154, op := Op.load 52 (Operand.tmp 153), type := 52, pos := "law.go:65", after := #[{ on := 31, ground := Ground.data }, { on := 25, ground := Ground.guard }], guard := some (25, false) }) (v := undef) rfl (by kernel_rfl) (by kernel_rfl) (by kernel_rfl) (fun _ _ _ h => h) (Or.inr ⟨by kernel_rfl, rfl⟩) (by assumption) ?_
  (try simp only [Act.put, List.setIfInBounds_toArray, List.set_cons_zero, List.set_cons_succ])
  refine wpAnyH_take (i := 33) (oi := { dst := some 155, op := Op.move (Operand.tmp 0), type := 35, pos := "law.go:65", after := #[{ on := 25, ground := Ground.guard }], guard := some (25, false) }) (v := undef) rfl (by kernel_rfl) (by kernel_rfl) (by kernel_rfl) (fun _ _ _ h => h) (Or.inr ⟨by kernel_rfl, rfl⟩) (by assumption) ?_
  (try simp only [Act.put, List.setIfInBounds_toArray, List.set_cons_zero, List.set_cons_succ])
  refine wpAnyH_take (i := 34) (oi := { dst := some 156, op := Op.move (Operand.tmp 12), type := 3, pos := "law.go:65", after := #[{ on := 25, ground := Ground.guard }], guard := some (25, false) }) (v := undef) rfl (by kernel_rfl) (by kernel_rfl) (by kernel_rfl) (fun _ _ _ h => h) (Or.inr ⟨by kernel_rfl, rfl⟩) (by assumption) ?_
  (try simp only [Act.put, List.setIfInBounds_toArray, List.set_cons_zero, List.set_cons_succ])
  refine wpAnyH_take (i := 35) (oi := { dst := some 157, op := Op.indexAddr 35 (Operand.tmp 155) (Operand.tmp 156), type := 0, pos := "law.go:65", after := #[{ on := 33, ground := Ground.data }, { on := 34, ground := Ground.data }, { on := 25, ground := Ground.guard }], guard := some (25, false) }) (v := undef) rfl (by kernel_rfl) (by kernel_rfl) (by kernel_rfl) (fun _ _ _ h => h) (Or.inr ⟨by kernel_rfl, rfl⟩) (by assumption) ?_
  (try simp only [Act.put, List.setIfInBounds_toArray, List.set_cons_zero, List.set_cons_succ])
  refine wpAnyH_take (i := 36) (oi := { dst := some 158, op := Op.load 22 (Operand.tmp 157), type := 22, pos := "law.go:65", after := #[{ on := 35, ground := Ground.data }, { on := 25, ground := Ground.guard }], guard := some (25, false) }) (v := undef) rfl (by kernel_rfl) (by kernel_rfl) (by kernel_rfl) (fun _ _ _ h => h) (Or.inr ⟨by kernel_rfl, rfl⟩) (by assumption) ?_
  (try simp only [Act.put, List.setIfInBounds_toArray, List.set_cons_zero, List.set_cons_succ])
  refine wpAnyH_take (i := 37) (oi := { dst := some 159, op := Op.move (Operand.tmp 13), type := 3, pos := "law.go:65", after := #[{ on := 25, ground := Ground.guard }], guard := some (25, false) }) (v := undef) rfl (by kernel_rfl) (by kernel_rfl) (by kernel_rfl) (fun _ _ _ h => h) (Or.inr ⟨by kernel_rfl, rfl⟩) (by assumption) ?_
  (try simp only [Act.put, List.setIfInBounds_toArray, List.set_cons_zero, List.set_cons_succ])
  refine wpAnyH_take (i := 38) (oi := { dst := some 160, op := Op.indexAddr 22 (Operand.tmp 158) (Operand.tmp 159), type := 0, pos := "law.go:65", after := #[{ on := 36, ground := Ground.data }, { on := 37, ground := Ground.data }, { on := 25, ground := Ground.guard }], guard := some (25, false) }) (v := undef) rfl (by kernel_rfl) (by kernel_rfl) (by kernel_rfl) (fun _ _ _ h => h) (Or.inr ⟨by kernel_rfl, rfl⟩) (by assumption) ?_
  (try simp only [Act.put, List.setIfInBounds_toArray, List.set_cons_zero, List.set_cons_succ])
  refine wpAnyH_take (i := 39) (oi := { dst := some 161, op := Op.load 52 (Operand.tmp 160), type := 52, pos := "law.go:65", after := #[{ on := 38, ground := Ground.data }, { on := 25, ground := Ground.guard }], guard := some (25, false) }) (v := undef) rfl (by kernel_rfl) (by kernel_rfl) (by kernel_rfl) (fun _ _ _ h => h) (Or.inr ⟨by kernel_rfl, rfl⟩) (by assumption) ?_
  (try simp only [Act.put, List.setIfInBounds_toArray, List.set_cons_zero, List.set_cons_succ])
  refine wpAnyH_take (i := 40) (oi := { dst := some 162, op := Op.binOp BinOp.neq 52 (Operand.tmp 154) (Operand.tmp 161) 52, type := 4, pos := "law.go:65", after := #[{ on := 32, ground := Ground.data }, { on := 39, ground := Ground.data }, { on := 25, ground := Ground.guard }], guard := some (25, false) }) (v := undef) rfl (by kernel_rfl) (by kernel_rfl) (by kernel_rfl) (fun _ _ _ h => h) (Or.inr ⟨by kernel_rfl, rfl⟩) (by assumption) ?_
  (try simp only [Act.put, List.setIfInBounds_toArray, List.set_cons_zero, List.set_cons_succ])
  refine wpAnyH_take (i := 41) (oi := { dst := some 163, op := Op.pick (Operand.tmp 147) (Operand.const (Value.bool true)) (Operand.tmp 162), type := 4, pos := "law.go:65", after := #[{ on := 25, ground := Ground.data }, { on := 40, ground := Ground.data }, { on := 3, ground := Ground.guard }], guard := some (3, true) }) (v := undef) rfl (by kernel_rfl) (by kernel_rfl) (by kernel_rfl) (fun _ _ _ h => h) (Or.inr ⟨by kernel_rfl, rfl⟩) (by assumption) ?_
  (try simp only [Act.put, List.setIfInBounds_toArray, List.set_cons_zero, List.set_cons_succ])
  refine wpAnyH_take (i := 42) (oi := { dst := some 164, op := Op.pick (Operand.tmp 125) (Operand.tmp 163) (Operand.const (Value.bool false)), type := 4, pos := "law.go:65", after := #[{ on := 3, ground := Ground.data }, { on := 41, ground := Ground.data }], guard := none }) (v := .bool false) rfl (by kernel_rfl) (by kernel_rfl) (by kernel_rfl) (fun _ _ _ h => h) (Or.inl ⟨by kernel_rfl, fun w hSw => ?_⟩) (by assumption) ?_
  · dsimp only at hSw; go_simp
  (try simp only [Act.put, List.setIfInBounds_toArray, List.set_cons_zero, List.set_cons_succ])
  refine wpAnyH_take (i := 43) (oi := { dst := some 165, op := Op.move (Operand.tmp 164), type := 4, pos := "law.go:65", after := #[{ on := 42, ground := Ground.data }, { on := 25, ground := Ground.chain }], guard := none }) (v := .bool false) rfl (by kernel_rfl) (by kernel_rfl) (by kernel_rfl) (fun _ _ _ h => h) (Or.inl ⟨by kernel_rfl, fun w hSw => ?_⟩) (by assumption) ?_
  · dsimp only at hSw; go_simp
  (try simp only [Act.put, List.setIfInBounds_toArray, List.set_cons_zero, List.set_cons_succ])
  refine wpAnyH_take (i := 44) (oi := { dst := some 166, op := Op.move (Operand.tmp 13), type := 3, pos := "law.go:65", after := #[{ on := 43, ground := Ground.guard }], guard := some (43, false) }) (v := .int .i64 (t : Int)) rfl (by kernel_rfl) (by kernel_rfl) (by kernel_rfl) (fun _ _ _ h => h) (Or.inl ⟨by kernel_rfl, fun w hSw => ?_⟩) (by assumption) ?_
  · dsimp only at hSw; go_simp
  (try simp only [Act.put, List.setIfInBounds_toArray, List.set_cons_zero, List.set_cons_succ])
  refine wpAnyH_take (i := 45) (oi := { dst := some 167, op := Op.move (Operand.tmp 14), type := 3, pos := "law.go:65", after := #[{ on := 43, ground := Ground.guard }], guard := some (43, false) }) (v := .int .i64 (n : Int)) rfl (by kernel_rfl) (by kernel_rfl) (by kernel_rfl) (fun _ _ _ h => h) (Or.inl ⟨by kernel_rfl, fun w hSw => ?_⟩) (by assumption) ?_
  · dsimp only at hSw; go_simp
  (try simp only [Act.put, List.setIfInBounds_toArray, List.set_cons_zero, List.set_cons_succ])
  refine wpAnyH_take (i := 46) (oi := { dst := some 168, op := Op.binOp BinOp.geq 3 (Operand.tmp 166) (Operand.tmp 167) 3, type := 4, pos := "law.go:65", after := #[{ on := 44, ground := Ground.data }, { on := 45, ground := Ground.data }, { on := 43, ground := Ground.guard }], guard := some (43, false) }) (v := .bool true) rfl (by kernel_rfl) (by kernel_rfl) (by kernel_rfl) (fun _ _ _ h => h) (Or.inl ⟨by kernel_rfl, fun w hSw => ?_⟩) (by assumption) ?_
  · dsimp only at hSw; go_simp
  (try simp only [Act.put, List.setIfInBounds_toArray, List.set_cons_zero, List.set_cons_succ])
  refine wpAnyH_take (i := 47) (oi := { dst := some 169, op := Op.move (Operand.tmp 168), type := 4, pos := "law.go:65", after := #[{ on := 46, ground := Ground.data }, { on := 43, ground := Ground.chain }, { on := 43, ground := Ground.guard }], guard := some (43, false) }) (v := .bool true) rfl (by kernel_rfl) (by kernel_rfl) (by kernel_rfl) (fun _ _ _ h => h) (Or.inl ⟨by kernel_rfl, fun w hSw => ?_⟩) (by assumption) ?_
  · dsimp only at hSw; go_simp
  (try simp only [Act.put, List.setIfInBounds_toArray, List.set_cons_zero, List.set_cons_succ])
  refine wpAnyH_take (i := 48) (oi := { dst := some 170, op := Op.move (Operand.tmp 8), type := 35, pos := "law.go:65", after := #[{ on := 47, ground := Ground.guard }], guard := some (47, true) }) (v := .slice (some ⟨lb, lo, none⟩) N lc) rfl (by kernel_rfl) (by kernel_rfl) (by kernel_rfl) (fun _ _ _ h => h) (Or.inl ⟨by kernel_rfl, fun w hSw => ?_⟩) (by assumption) ?_
  · dsimp only at hSw; go_simp
  (try simp only [Act.put, List.setIfInBounds_toArray, List.set_cons_zero, List.set_cons_succ])
  refine wpAnyH_take (i := 49) (oi := { dst := some 171, op := Op.move (Operand.tmp 12), type := 3, pos := "law.go:65", after := #[{ on := 47, ground := Ground.guard }], guard := some (47, true) }) (v := .int .i64 (k : Int)) rfl (by kernel_rfl) (by kernel_rfl) (by kernel_rfl) (fun _ _ _ h => h) (Or.inl ⟨by kernel_rfl, fun w hSw => ?_⟩) (by assumption) ?_
  · dsimp only at hSw; go_simp
  (try simp only [Act.put, List.setIfInBounds_toArray, List.set_cons_zero, List.set_cons_succ])
  refine wpAnyH_take (i := 50) (oi := { dst := some 172, op := Op.indexAddr 35 (Operand.tmp 170) (Operand.tmp 171), type := 0, pos := "law.go:65", after := #[{ on := 48, ground := Ground.data }, { on := 49, ground := Ground.data }, { on := 47, ground := Ground.guard }], guard := some (47, true) }) (v := .pointer (some ⟨lb, lo + k, none⟩)) rfl (by kernel_rfl) (by kernel_rfl) (by kernel_rfl) (fun _ _ _ h => h) (Or.inl ⟨by kernel_rfl, fun w hSw => ?_⟩) (by assumption) ?_
  · dsimp only at hSw; go_simp; all_goals (first | omega | exact fun e => absurd e (by omega))
  (try simp only [Act.put, List.setIfInBounds_toArray, List.set_cons_zero, List.set_cons_succ])
  refine wpAnyH_take (i := 51) (oi := { dst := some 173, op := Op.load 22 (Operand.tmp 172), type := 22, pos := "law.go:65", after := #[{ on := 50, ground := Ground.data }, { on := 47, ground := Ground.guard }], guard := some (47, true) }) (v := .slice (some ⟨g2, o2, none⟩) (n + 70) lcp) rfl (by kernel_rfl) (by kernel_rfl) (by kernel_rfl) (fun _ _ _ h => h) (Or.inl ⟨by kernel_rfl, fun w hSw => ?_⟩) (by assumption) ?_
  · dsimp only at hSw; go_simp
  (try simp only [Act.put, List.setIfInBounds_toArray, List.set_cons_zero, List.set_cons_succ])
  refine wpAnyH_take (i := 52) (oi := { dst := some 174, op := Op.move (Operand.tmp 13), type := 3, pos := "law.go:65", after := #[{ on := 47, ground := Ground.guard }], guard := some (47, true) }) (v := .int .i64 (t : Int)) rfl (by kernel_rfl) (by kernel_rfl) (by kernel_rfl) (fun _ _ _ h => h) (Or.inl ⟨by kernel_rfl, fun w hSw => ?_⟩) (by assumption) ?_
  · dsimp only at hSw; go_simp
  (try simp only [Act.put, List.setIfInBounds_toArray, List.set_cons_zero, List.set_cons_succ])
  refine wpAnyH_take (i := 53) (oi := { dst := some 175, op := Op.indexAddr 22 (Operand.tmp 173) (Operand.tmp 174), type := 0, pos := "law.go:65", after := #[{ on := 51, ground := Ground.data }, { on := 52, ground := Ground.data }, { on := 47, ground := Ground.guard }], guard := some (47, true) }) (v := .pointer (some ⟨g2, o2 + t * 4, none⟩)) rfl (by kernel_rfl) (by kernel_rfl) (by kernel_rfl) (fun _ _ _ h => h) (Or.inl ⟨by kernel_rfl, fun w hSw => ?_⟩) (by assumption) ?_
  · dsimp only at hSw; go_simp; all_goals (first | omega | exact fun e => absurd e (by omega))
  (try simp only [Act.put, List.setIfInBounds_toArray, List.set_cons_zero, List.set_cons_succ])
  refine wpAnyH_take (i := 54) (oi := { dst := some 176, op := Op.fieldAddr 52 (Operand.tmp 175) 0, type := 0, pos := "law.go:65", after := #[{ on := 53, ground := Ground.data }, { on := 47, ground := Ground.guard }], guard := some (47, true) }) (v := .pointer (some ⟨g2, o2 + t * 4, none⟩)) rfl (by kernel_rfl) (by kernel_rfl) (by kernel_rfl) (fun _ _ _ h => h) (Or.inl ⟨by kernel_rfl, fun w hSw => ?_⟩) (by assumption) ?_
  · dsimp only at hSw; go_simp; all_goals (first | omega | exact fun e => absurd e (by omega))
  (try simp only [Act.put, List.setIfInBounds_toArray, List.set_cons_zero, List.set_cons_succ])
  refine wpAnyH_take (i := 55) (oi := { dst := some 177, op := Op.load 50 (Operand.tmp 176), type := 50, pos := "law.go:65", after := #[{ on := 54, ground := Ground.data }, { on := 47, ground := Ground.guard }], guard := some (47, true) }) (v := .int .i8 78) rfl (by kernel_rfl) (by kernel_rfl) (by kernel_rfl) (fun _ _ _ h => h) (Or.inl ⟨by kernel_rfl, fun w hSw => ?_⟩) (by assumption) ?_
  · dsimp only at hSw; go_simp
  (try simp only [Act.put, List.setIfInBounds_toArray, List.set_cons_zero, List.set_cons_succ])
  refine wpAnyH_take (i := 56) (oi := { dst := some 178, op := Op.binOp BinOp.neq 50 (Operand.tmp 177) (Operand.const (Value.int IntKind.i8 78)) 50, type := 4, pos := "law.go:65", after := #[{ on := 55, ground := Ground.data }, { on := 47, ground := Ground.guard }], guard := some (47, true) }) (v := .bool false) rfl (by kernel_rfl) (by kernel_rfl) (by kernel_rfl) (fun _ _ _ h => h) (Or.inl ⟨by kernel_rfl, fun w hSw => ?_⟩) (by assumption) ?_
  · dsimp only at hSw; go_simp
  (try simp only [Act.put, List.setIfInBounds_toArray, List.set_cons_zero, List.set_cons_succ])
  refine wpAnyH_take (i := 57) (oi := { dst := some 179, op := Op.move (Operand.tmp 178), type := 4, pos := "law.go:65", after := #[{ on := 56, ground := Ground.data }, { on := 47, ground := Ground.chain }, { on := 47, ground := Ground.guard }], guard := some (47, true) }) (v := .bool false) rfl (by kernel_rfl) (by kernel_rfl) (by kernel_rfl) (fun _ _ _ h => h) (Or.inl ⟨by kernel_rfl, fun w hSw => ?_⟩) (by assumption) ?_
  · dsimp only at hSw; go_simp
  (try simp only [Act.put, List.setIfInBounds_toArray, List.set_cons_zero, List.set_cons_succ])
  refine wpAnyH_take (i := 58) (oi := { dst := some 180, op := Op.move (Operand.tmp 8), type := 35, pos := "law.go:65", after := #[{ on := 57, ground := Ground.guard }], guard := some (57, false) }) (v := .slice (some ⟨lb, lo, none⟩) N lc) rfl (by kernel_rfl) (by kernel_rfl) (by kernel_rfl) (fun _ _ _ h => h) (Or.inl ⟨by kernel_rfl, fun w hSw => ?_⟩) (by assumption) ?_
  · dsimp only at hSw; go_simp
  (try simp only [Act.put, List.setIfInBounds_toArray, List.set_cons_zero, List.set_cons_succ])
  refine wpAnyH_take (i := 59) (oi := { dst := some 181, op := Op.move (Operand.tmp 12), type := 3, pos := "law.go:65", after := #[{ on := 57, ground := Ground.guard }], guard := some (57, false) }) (v := .int .i64 (k : Int)) rfl (by kernel_rfl) (by kernel_rfl) (by kernel_rfl) (fun _ _ _ h => h) (Or.inl ⟨by kernel_rfl, fun w hSw => ?_⟩) (by assumption) ?_
  · dsimp only at hSw; go_simp
  (try simp only [Act.put, List.setIfInBounds_toArray, List.set_cons_zero, List.set_cons_succ])
  refine wpAnyH_take (i := 60) (oi := { dst := some 182, op := Op.indexAddr 35 (Operand.tmp 180) (Operand.tmp 181), type := 0, pos := "law.go:65", after := #[{ on := 58, ground := Ground.data }, { on := 59, ground := Ground.data }, { on := 57, ground := Ground.guard }], guard := some (57, false) }) (v := .pointer (some ⟨lb, lo + k, none⟩)) rfl (by kernel_rfl) (by kernel_rfl) (by kernel_rfl) (fun _ _ _ h => h) (Or.inl ⟨by kernel_rfl, fun w hSw => ?_⟩) (by assumption) ?_
  · dsimp only at hSw; go_simp; all_goals (first | omega | exact fun e => absurd e (by omega))
  (try simp only [Act.put, List.setIfInBounds_toArray, List.set_cons_zero, List.set_cons_succ])
  refine wpAnyH_take (i := 61) (oi := { dst := some 183, op := Op.load 22 (Operand.tmp 182), type := 22, pos := "law.go:65", after := #[{ on := 60, ground := Ground.data }, { on := 57, ground := Ground.guard }], guard := some (57, false) }) (v := .slice (some ⟨g2, o2, none⟩) (n + 70) lcp) rfl (by kernel_rfl) (by kernel_rfl) (by kernel_rfl) (fun _ _ _ h => h) (Or.inl ⟨by kernel_rfl, fun w hSw => ?_⟩) (by assumption) ?_
  · dsimp only at hSw; go_simp
  (try simp only [Act.put, List.setIfInBounds_toArray, List.set_cons_zero, List.set_cons_succ])
  refine wpAnyH_take (i := 62) (oi := { dst := some 184, op := Op.move (Operand.tmp 13), type := 3, pos := "law.go:65", after := #[{ on := 57, ground := Ground.guard }], guard := some (57, false) }) (v := .int .i64 (t : Int)) rfl (by kernel_rfl) (by kernel_rfl) (by kernel_rfl) (fun _ _ _ h => h) (Or.inl ⟨by kernel_rfl, fun w hSw => ?_⟩) (by assumption) ?_
  · dsimp only at hSw; go_simp
  (try simp only [Act.put, List.setIfInBounds_toArray, List.set_cons_zero, List.set_cons_succ])
  refine wpAnyH_take (i := 63) (oi := { dst := some 185, op := Op.indexAddr 22 (Operand.tmp 183) (Operand.tmp 184), type := 0, pos := "law.go:65", after := #[{ on := 61, ground := Ground.data }, { on := 62, ground := Ground.data }, { on := 57, ground := Ground.guard }], guard := some (57, false) }) (v := .pointer (some ⟨g2, o2 + t * 4, none⟩)) rfl (by kernel_rfl) (by kernel_rfl) (by kernel_rfl) (fun _ _ _ h => h) (Or.inl ⟨by kernel_rfl, fun w hSw => ?_⟩) (by assumption) ?_
  · dsimp only at hSw; go_simp; all_goals (first | omega | exact fun e => absurd e (by omega))
  (try simp only [Act.put, List.setIfInBounds_toArray, List.set_cons_zero, List.set_cons_succ])
  refine wpAnyH_take (i := 64) (oi := { dst := some 186, op := Op.fieldAddr 52 (Operand.tmp 185) 2, type := 0, pos := "law.go:65", after := #[{ on := 63, ground := Ground.data }, { on := 57, ground := Ground.guard }], guard := some (57, false) }) (v := .pointer (some ⟨g2, o2 + t * 4 + 2, none⟩)) rfl (by kernel_rfl) (by kernel_rfl) (by kernel_rfl) (fun _ _ _ h => h) (Or.inl ⟨by kernel_rfl, fun w hSw => ?_⟩) (by assumption) ?_
  · dsimp only at hSw; go_simp; all_goals (first | omega | exact fun e => absurd e (by omega))
  (try simp only [Act.put, List.setIfInBounds_toArray, List.set_cons_zero, List.set_cons_succ])
  refine wpAnyH_take (i := 65) (oi := { dst := some 187, op := Op.load 3 (Operand.tmp 186), type := 3, pos := "law.go:65", after := #[{ on := 64, ground := Ground.data }, { on := 57, ground := Ground.guard }], guard := some (57, false) }) (v := .int .i64 (k : Int)) rfl (by kernel_rfl) (by kernel_rfl) (by kernel_rfl) (fun _ _ _ h => h) (Or.inl ⟨by kernel_rfl, fun w hSw => ?_⟩) (by assumption) ?_
  · dsimp only at hSw; go_simp
  (try simp only [Act.put, List.setIfInBounds_toArray, List.set_cons_zero, List.set_cons_succ])
  refine wpAnyH_take (i := 66) (oi := { dst := some 188, op := Op.move (Operand.tmp 12), type := 3, pos := "law.go:65", after := #[{ on := 57, ground := Ground.guard }], guard := some (57, false) }) (v := .int .i64 (k : Int)) rfl (by kernel_rfl) (by kernel_rfl) (by kernel_rfl) (fun _ _ _ h => h) (Or.inl ⟨by kernel_rfl, fun w hSw => ?_⟩) (by assumption) ?_
  · dsimp only at hSw; go_simp
  (try simp only [Act.put, List.setIfInBounds_toArray, List.set_cons_zero, List.set_cons_succ])
  refine wpAnyH_take (i := 67) (oi := { dst := some 189, op := Op.binOp BinOp.neq 3 (Operand.tmp 187) (Operand.tmp 188) 3, type := 4, pos := "law.go:65", after := #[{ on := 65, ground := Ground.data }, { on := 66, ground := Ground.data }, { on := 57, ground := Ground.guard }], guard := some (57, false) }) (v := .bool false) rfl (by kernel_rfl) (by kernel_rfl) (by kernel_rfl) (fun _ _ _ h => h) (Or.inl ⟨by kernel_rfl, fun w hSw => ?_⟩) (by assumption) ?_
  · dsimp only at hSw; go_simp
  (try simp only [Act.put, List.setIfInBounds_toArray, List.set_cons_zero, List.set_cons_succ])
  refine wpAnyH_take (i := 68) (oi := { dst := some 190, op := Op.pick (Operand.tmp 179) (Operand.const (Value.bool true)) (Operand.tmp 189), type := 4, pos := "law.go:65", after := #[{ on := 57, ground := Ground.data }, { on := 67, ground := Ground.data }, { on := 47, ground := Ground.guard }], guard := some (47, true) }) (v := .bool false) rfl (by kernel_rfl) (by kernel_rfl) (by kernel_rfl) (fun _ _ _ h => h) (Or.inl ⟨by kernel_rfl, fun w hSw => ?_⟩) (by assumption) ?_
  · dsimp only at hSw; go_simp
  (try simp only [Act.put, List.setIfInBounds_toArray, List.set_cons_zero, List.set_cons_succ])
  refine wpAnyH_take (i := 69) (oi := { dst := some 191, op := Op.pick (Operand.tmp 169) (Operand.tmp 190) (Operand.const (Value.bool false)), type := 4, pos := "law.go:65", after := #[{ on := 47, ground := Ground.data }, { on := 68, ground := Ground.data }, { on := 43, ground := Ground.guard }], guard := some (43, false) }) (v := .bool false) rfl (by kernel_rfl) (by kernel_rfl) (by kernel_rfl) (fun _ _ _ h => h) (Or.inl ⟨by kernel_rfl, fun w hSw => ?_⟩) (by assumption) ?_
  · dsimp only at hSw; go_simp
  (try simp only [Act.put, List.setIfInBounds_toArray, List.set_cons_zero, List.set_cons_succ])
  refine wpAnyH_take (i := 70) (oi := { dst := some 192, op := Op.pick (Operand.tmp 165) (Operand.const (Value.bool true)) (Operand.tmp 191), type := 4, pos := "law.go:65", after := #[{ on := 43, ground := Ground.data }, { on := 69, ground := Ground.data }], guard := none }) (v := .bool false) rfl (by kernel_rfl) (by kernel_rfl) (by kernel_rfl) (fun _ _ _ h => h) (Or.inl ⟨by kernel_rfl, fun w hSw => ?_⟩) (by assumption) ?_
  · dsimp only at hSw; go_simp
  (try simp only [Act.put, List.setIfInBounds_toArray, List.set_cons_zero, List.set_cons_succ])
  refine wpAnyH_done (by kernel_rfl) ?_ _
  exact NoPanic.normal hQ
end Sx
end Go.Proofs.YtnlopepbcnegbaaGreatDoor
