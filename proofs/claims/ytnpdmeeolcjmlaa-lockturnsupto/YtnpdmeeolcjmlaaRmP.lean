import Derived.Test.YtnpdmeeolcjmlaaSsP
import Derived.Test.YtnpdmeeolcjmlaaWrd
set_option linter.unusedVariables false
set_option linter.unusedSimpArgs false
namespace Go.Proofs.Ytnpdmeeolcjmlaa
open Go.RowKit
namespace T
open M
/-- a task, as it lies -/
structure Tk where
  w : Option Nat
  num : Int
  h : Bool
  st : Int
def Tk.cells (t : Tk) : List Value := [.pointer (t.w.map fun b => ⟨b, 0, none⟩), .int .i64 t.num, .bool t.h, .int .i64 t.st]
def tks (ts : List Tk) : List Value := ts.flatMap Tk.cells
theorem tks_len (ts : List Tk) : (tks ts).length = ts.length * 4 := by
  induction ts with
  | nil => rfl
  | cons a r ih => simp only [tks, List.flatMap_cons, List.length_append, List.length_cons] at ih ⊢; rw [ih]; simp [Tk.cells]; omega
theorem tks_at (ts : List Tk) : ∀ (k r : Nat), r < 4 → (tks ts)[k * 4 + r]? = ts[k]?.bind (fun z => z.cells[r]?) := by
  induction ts with
  | nil => intro k r _; simp [tks]
  | cons a t ih =>
    intro k r hr
    rw [show tks (a :: t) = a.cells ++ tks t from rfl]
    have hl : a.cells.length = 4 := rfl
    cases k with
    | zero => rw [Nat.zero_mul, Nat.zero_add, List.getElem?_append_left (by omega)]; rfl
    | succ k =>
      rw [List.getElem?_append_right (by omega), hl, show (k + 1) * 4 + r - 4 = k * 4 + r by omega, ih k r hr]
      rfl
theorem set4_at (xs : List Value) (a b c d : Value) (i j r : Nat) (hr : r < 4) (hi : i * 4 + 3 < xs.length) : ((((xs.set (i * 4) a).set (i * 4 + 1) b).set (i * 4 + 2) c).set (i * 4 + 3) d)[j * 4 + r]? = if j = i then [a, b, c, d][r]? else xs[j * 4 + r]? := by
  by_cases hj : j = i
  · subst hj
    rw [if_pos rfl]
    have : r = 0 ∨ r = 1 ∨ r = 2 ∨ r = 3 := by omega
    rcases this with rfl | rfl | rfl | rfl
    · rw [List.getElem?_set_ne (by omega), List.getElem?_set_ne (by omega), List.getElem?_set_ne (by omega), Nat.add_zero, List.getElem?_set_self (by omega)]; rfl
    · rw [List.getElem?_set_ne (by omega), List.getElem?_set_ne (by omega), List.getElem?_set_self (by simp; omega)]; rfl
    · rw [List.getElem?_set_ne (by omega), List.getElem?_set_self (by simp; omega)]; rfl
    · rw [List.getElem?_set_self (by simp; omega)]; rfl
  · rw [if_neg hj, List.getElem?_set_ne (by omega), List.getElem?_set_ne (by omega), List.getElem?_set_ne (by omega), List.getElem?_set_ne (by omega)]
theorem tks_set (ts : List Tk) (i : Nat) (t : Tk) (hi : i < ts.length) : ((((tks ts).set (i * 4) (.pointer (t.w.map fun b => ⟨b, 0, none⟩))).set (i * 4 + 1) (.int .i64 t.num)).set (i * 4 + 2) (.bool t.h)).set (i * 4 + 3) (.int .i64 t.st) = tks (ts.set i t) := by
  apply List.ext_getElem?
  intro m
  obtain ⟨j, r, hr, rfl⟩ : ∃ j r, r < 4 ∧ m = j * 4 + r := ⟨m / 4, m % 4, by omega, by omega⟩
  rw [set4_at _ _ _ _ _ i j r hr (by rw [tks_len]; omega), tks_at _ j r hr, tks_at _ j r hr]
  by_cases hj : j = i
  · subst hj
    rw [if_pos rfl, List.getElem?_set_self hi]
    rfl
  · rw [if_neg hj, List.getElem?_set_ne (by omega)]
variable {w w' : World}
theorem own_set {B e size g n cap k : Nat} {xs : List Value} (h : w.ownsRow B e size (.slice (some ⟨g, 0, none⟩) n cap) n xs) (v : Value) : (w.setCell ⟨g, k, none⟩ v).ownsRow B e size (.slice (some ⟨g, 0, none⟩) n cap) n (xs.set k v) := by
  refine ⟨by rw [List.length_set]; exact h.1, ?_⟩
  rcases h.2 with ⟨hv, _⟩ | ⟨g', cap', cur, hv, hb, hg', h1, h2, h3, h4⟩
  · cases hv
  · simp only [Value.slice.injEq, Option.some.injEq] at hv
    obtain ⟨hv1, _, rfl⟩ := hv
    cases hv1
    refine .inr ⟨g, cap, cur.setIfInBounds k v, rfl, hb, set_block hg', h1, h2, by simpa using h3, ?_⟩
    rw [Array.toList_setIfInBounds, List.take_set, h4]
/-- the world with a task written -/
def wr4 (w : World) (g i : Nat) (t : Tk) : World := (((w.setCell ⟨g, i * 4, none⟩ (.pointer (t.w.map fun b => ⟨b, 0, none⟩))).setCell ⟨g, i * 4 + 1, none⟩ (.int .i64 t.num)).setCell ⟨g, i * 4 + 2, none⟩ (.bool t.h)).setCell ⟨g, i * 4 + 3, none⟩ (.int .i64 t.st)
theorem wr4_row {B g tc i : Nat} {ts : List Tk} (h : w.ownsRow B 87 4 (.slice (some ⟨g, 0, none⟩) ts.length tc) ts.length (tks ts)) (hi : i < ts.length) (t : Tk) : (wr4 w g i t).ownsRow B 87 4 (.slice (some ⟨g, 0, none⟩) (ts.set i t).length tc) (ts.set i t).length (tks (ts.set i t)) := by
  rw [← tks_set ts i t hi, List.length_set]
  exact own_set (own_set (own_set (own_set h _) _) _) _
theorem wr4_turn (w : World) (g i : Nat) (t : Tk) : Turn (fun j => j = g) w (wr4 w g i t) :=
  (((((Turn.refl (fun j => j = g) w).setCell (p := ⟨g, i * 4, none⟩) (fun _ => rfl) _).setCell (p := ⟨g, i * 4 + 1, none⟩) (fun _ => rfl) _).setCell (p := ⟨g, i * 4 + 2, none⟩) (fun _ => rfl) _).setCell (p := ⟨g, i * 4 + 3, none⟩) (fun _ => rfl) _)
theorem row_blk {B e size n cap g : Nat} {xs : List Value} (h : w.ownsRow B e size (.slice (some ⟨g, 0, none⟩) n cap) n xs) : B ≤ g ∧ ∃ cs, w.heap[g]? = some (.cells cs e (0, 0)) := by
  rcases h.2 with ⟨hv, _⟩ | ⟨g', cap', cur, hv, hb, hg', _⟩
  · cases hv
  · simp only [Value.slice.injEq, Option.some.injEq] at hv
    obtain ⟨hv1, _, _⟩ := hv
    cases hv1
    exact ⟨hb, cur, hg'⟩
theorem row_atk {B e size n cap : Nat} {ao : Option Addr} {xs : List Value} (h : w.ownsRow B e size (.slice ao n cap) n xs) {j : Nat} (hj : At ao j) : B ≤ j ∧ j < w.heap.size ∧ ∃ cs, w.heap[j]? = some (.cells cs e (0, 0)) := by
  obtain ⟨a, rfl, rfl⟩ := hj
  rcases h.2 with ⟨hv, _⟩ | ⟨g', cap', cur, hv, hb, hg', _⟩
  · cases hv
  · simp only [Value.slice.injEq, Option.some.injEq] at hv
    obtain ⟨rfl, _, _⟩ := hv
    exact ⟨hb, lt_of_heap hg', cur, hg'⟩
theorem row_cells4 {B g tc i : Nat} {ts : List Tk} {t : Tk} (h : w.ownsRow B 87 4 (.slice (some ⟨g, 0, none⟩) ts.length tc) ts.length (tks ts)) (hi : ts[i]? = some t) : w.cell? ⟨g, i * 4, none⟩ = some (.pointer (t.w.map fun b => ⟨b, 0, none⟩)) ∧ w.cell? ⟨g, i * 4 + 1, none⟩ = some (.int .i64 t.num) ∧ w.cell? ⟨g, i * 4 + 2, none⟩ = some (.bool t.h) ∧ w.cell? ⟨g, i * 4 + 3, none⟩ = some (.int .i64 t.st) := by
  have key : ∀ r, r < 4 → ∀ u, t.cells[r]? = some u → w.cell? ⟨g, i * 4 + r, none⟩ = some u := by
    intro r hr u hu
    have := row_cell h (i * 4 + r) u (by rw [tks_at _ _ _ hr, hi]; exact hu)
    rw [show (⟨g, 0, none⟩ : Addr).add (i * 4 + r) = ⟨g, i * 4 + r, none⟩ by unfold Addr.add; split <;> simp_all] at this
    exact this
  exact ⟨key 0 (by omega) _ rfl, key 1 (by omega) _ rfl, key 2 (by omega) _ rfl, key 3 (by omega) _ rfl⟩
/-- BLOCK r IS A ROOM -/
def Rb (r x lb g n tc c f : Nat) (oo : Option Addr) (o oc : Nat) (w : World) : Prop := w.heap[r]? = some (.cells #[.pointer (some ⟨x, 0, none⟩), .slice (some ⟨lb, 0, none⟩) 2 2, .slice (some ⟨g, 0, none⟩) n tc, .int .i64 (c : Nat), .int .i64 (f : Nat), .slice oo o oc] 62 (0, 0))
def Lb (lb l1 l2 : Nat) (w : World) : Prop := w.heap[lb]? = some (.cells #[.pointer (some ⟨l1, 0, none⟩), .pointer (some ⟨l2, 0, none⟩)] 26 (0, 0))
def Bx (q : Nat) (t : Tk) (w : World) : Prop := w.heap[q]? = some (.cells #[.pointer (t.w.map fun b => ⟨b, 0, none⟩), .int .i64 t.num, .bool t.h, .int .i64 t.st] 87 (0, 0))
/-- what a room is, but for its memory -/
structure Rm (w0 : World) (bg : Int) (N r x lb l1 l2 g tc : Nat) (ts : List Tk) (c f o : Nat) (D : Nat → Prop) (tr : List Ac) (bad : Nat) (oo : Option Addr) (oc : Nat) (w : World) : Prop where
  mem : Mem D w0.heap.size x [0, wrap64 (bg + (c : Nat)), wrap64 (bg + (f : Nat))] tr bad w
  len : tr.length ≤ N
  hr : Rb r x lb g ts.length tc c f oo o oc w
  ord : w.ownsRow w0.heap.size 3 1 (.slice oo o oc) o (ivs ((List.range o).map fun (k : Nat) => (k : Int)))
  dis : ∀ j, At oo j → ¬ D j
  hL : Lb lb l1 l2 w
  k1 : Lk l1 x 1 2 w
  k2 : Lk l2 x 1 2 w
  row : w.ownsRow w0.heap.size 87 4 (.slice (some ⟨g, 0, none⟩) ts.length tc) ts.length (tks ts)
  wt : ∀ (i : Nat) (t : Tk) (b : Nat), ts[i]? = some t → t.w = some b → w0.heap.size ≤ b ∧ ∃ l, (l = l1 ∨ l = l2) ∧ Wt b l (wrap64 (bg + t.num)) true t.h w
  one : ∀ (i j : Nat) (t u : Tk) (b : Nat), ts[i]? = some t → ts[j]? = some u → t.w = some b → u.w = some b → i = j
  lr : w0.heap.size ≤ r
  bel : Below w0.heap.size w0 w
variable {w0 : World} {bg : Int} {N r x lb l1 l2 g tc : Nat} {ts : List Tk} {c f o : Nat} {D : Nat → Prop} {tr : List Ac} {bad : Nat} {oo : Option Addr} {oc : Nat}
/-- a move is through -/
theorem Rm.close (h : Rm w0 bg N r x lb l1 l2 g tc ts c f o D tr bad oo oc w) {i : Nat} {t t' : Tk} (hi : ts[i]? = some t) {D' : Nat → Prop} {tr' : List Ac} {bad' : Nat} {oo' : Option Addr} {oc' c' f' o' N' : Nat}
    (tt : Turn (fun j => D j ∨ j = r ∨ j = g ∨ At oo j ∨ t.w = some j) w w')
    (hm' : Mem D' w0.heap.size x [0, wrap64 (bg + (c' : Nat)), wrap64 (bg + (f' : Nat))] tr' bad' w') (hN : tr'.length ≤ N')
    (hr' : Rb r x lb g ts.length tc c' f' oo' o' oc' w') (ho' : w'.ownsRow w0.heap.size 3 1 (.slice oo' o' oc') o' (ivs ((List.range o').map fun (k : Nat) => (k : Int)))) (hd' : ∀ j, At oo' j → ¬ D' j)
    (hT' : w'.ownsRow w0.heap.size 87 4 (.slice (some ⟨g, 0, none⟩) (ts.set i t').length tc) (ts.set i t').length (tks (ts.set i t')))
    (hw' : ∀ b, t'.w = some b → w0.heap.size ≤ b ∧ (t.w = some b ∨ w.heap.size ≤ b) ∧ ∃ l, (l = l1 ∨ l = l2) ∧ Wt b l (wrap64 (bg + t'.num)) true t'.h w') :
    Rm w0 bg N' r x lb l1 l2 g tc (ts.set i t') c' f' o' D' tr' bad' oo' oc' w' := by
  have hil : i < ts.length := (List.getElem?_eq_some_iff.1 hi).1
  obtain ⟨hBg, csg, hg⟩ := row_blk h.row
  have nin : ∀ {j : Nat} {cs : Array Value} {T : TypeId} {q : Nat × Nat}, w.heap[j]? = some (.cells cs T q) → T ≠ 68 ∧ T ≠ 3 ∧ T ≠ 83 → T ≠ 62 → T ≠ 87 → (T = 73 → t.w ≠ some j) → ¬ (D j ∨ j = r ∨ j = g ∨ At oo j ∨ t.w = some j) := by
    intro j cs T q hj hk h62 h87 h73 z
    rcases z with z | z | z | z | z
    · exact h.mem.not hj hk z
    · exact cells_ne hj h.hr h62 z
    · exact cells_ne hj hg h87 z
    · obtain ⟨_, _, cs', h'⟩ := row_atk h.ord z
      exact cells_ne hj h' hk.2.1 rfl
    · by_cases e : T = 73
      · exact h73 e z
      · obtain ⟨_, l, _, hw⟩ := h.wt i t j hi z
        exact cells_ne hj hw e rfl
  have get : ∀ (j : Nat) (u : Tk), (ts.set i t')[j]? = some u → (j = i ∧ u = t') ∨ (j ≠ i ∧ ts[j]? = some u) := by
    intro j u hu
    by_cases e : j = i
    · subst e
      rw [List.getElem?_set_self hil] at hu
      exact .inl ⟨rfl, (Option.some.inj hu).symm⟩
    · rw [List.getElem?_set_ne (fun z => e z.symm)] at hu
      exact .inr ⟨e, hu⟩
  refine ⟨hm', hN, by rw [List.length_set]; exact hr', ho', hd', (tt.block lb (lt_of_heap h.hL) (nin h.hL (by decide) (by decide) (by decide) (fun e => absurd e (by decide)))).trans h.hL, h.k1.kept tt (nin h.k1 (by decide) (by decide) (by decide) (fun e => absurd e (by decide))), h.k2.kept tt (nin h.k2 (by decide) (by decide) (by decide) (fun e => absurd e (by decide))), hT', ?_, ?_, h.lr, ?_⟩
  · intro j u b hu hb
    rcases get j u hu with ⟨rfl, rfl⟩ | ⟨hne, hu'⟩
    · exact ⟨(hw' b hb).1, (hw' b hb).2.2⟩
    · obtain ⟨z1, l, z2, z3⟩ := h.wt j u b hu' hb
      exact ⟨z1, l, z2, z3.kept tt (nin z3 (by decide) (by decide) (by decide) (fun _ e => hne (h.one j i u t b hu' hi hb e)))⟩
  · intro j k u v b hu hv hub hvb
    rcases get j u hu with ⟨rfl, rfl⟩ | ⟨hne, hu'⟩
    · rcases get k v hv with ⟨rfl, rfl⟩ | ⟨hne2, hv'⟩
      · rfl
      · exfalso
        rcases (hw' b hub).2.1 with q | q
        · exact hne2 (h.one k j v t b hv' hi hvb q)
        · obtain ⟨_, l, _, z3⟩ := h.wt k v b hv' hvb
          have := lt_of_heap z3
          omega
    · rcases get k v hv with ⟨rfl, rfl⟩ | ⟨hne2, hv'⟩
      · exfalso
        rcases (hw' b hvb).2.1 with q | q
        · exact hne (h.one j k u t b hu' hi hub q)
        · obtain ⟨_, l, _, z3⟩ := h.wt j u b hu' hub
          have := lt_of_heap z3
          omega
      · exact h.one j k u v b hu' hv' hub hvb
  · refine h.bel.trans (tt.below (fun j hj => ?_) h.bel.size)
    rcases hj with z | z | z | z | z
    · exact (h.mem.lo z).1
    · rw [z]; exact h.lr
    · rw [z]; exact hBg
    · exact (row_atk h.ord z).1
    · exact (h.wt i t j hi z).1
end T
end Go.Proofs.Ytnpdmeeolcjmlaa
