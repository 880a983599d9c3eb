import Derived.Test.YtollaamlnddhcaaXrw
set_option linter.unusedVariables false
set_option linter.unusedSimpArgs false
namespace Go.Proofs.Ytollaamlnddhcaa
open Go.RowKit Go.Maps
namespace G
/-- a row of one's own, of things of m cells each -/
def RowI (e m B : Nat) (ao : Option Addr) (cap : Nat) (zs : List (List Value)) (w : World) : Prop := w.ownsRow B e m (.slice ao zs.length cap) zs.length zs.flatten
def At (ao : Option Addr) (j : Nat) : Prop := ∃ a, ao = some a ∧ j = a.block
theorem RowI.nil (e m B : Nat) (w : World) : RowI e m B none 0 [] w := World.ownsRow_nil _ _ _ _
theorem RowI.form {e m B : Nat} {ao : Option Addr} {cap : Nat} {zs : List (List Value)} {w : World} (h : RowI e m B ao cap zs w) : (ao = none ∧ zs = [] ∧ cap = 0) ∨ ∃ g, ao = some ⟨g, 0, none⟩ ∧ B ≤ g ∧ g < w.heap.size ∧ zs.length ≤ cap := by
  rcases h.2 with ⟨hv, h0⟩ | ⟨g, cap', cur, hv, hb, hg, h1, h2, h3, h4⟩
  · simp only [Value.slice.injEq] at hv
    exact .inl ⟨hv.1, List.eq_nil_of_length_eq_zero hv.2.1, hv.2.2⟩
  · simp only [Value.slice.injEq] at hv
    obtain ⟨rfl, _, rfl⟩ := hv
    exact .inr ⟨g, rfl, hb, lt_of_heap hg, by omega⟩
theorem RowI.cap {e m B : Nat} {ao : Option Addr} {cap : Nat} {zs : List (List Value)} {w : World} (h : RowI e m B ao cap zs w) : zs.length ≤ cap := by
  rcases h.form with ⟨_, rfl, rfl⟩ | ⟨g, _, _, _, h⟩
  · simp
  · exact h
theorem RowI.turn {e m : Nat} {S : Nat → Prop} {B : Nat} {ao : Option Addr} {cap : Nat} {zs : List (List Value)} {w w' : World} (h : RowI e m B ao cap zs w) (t : Turn S w w') (hn : ∀ j, At ao j → ¬ S j) : RowI e m B ao cap zs w' :=
  t.row h (fun g hg => hn g (by cases ao with | none => cases hg | some a => exact ⟨a, rfl, by simpa [Value.ownBlock] using hg.symm⟩))
theorem RowI.below {e m B : Nat} {ao : Option Addr} {cap : Nat} {zs : List (List Value)} {w w' : World} (h : RowI e m B ao cap zs w) (t : Below w.heap.size w w') : RowI e m B ao cap zs w' := h.turn (turn_below (S := fun _ => False) t) (fun _ _ q => q)
theorem RowI.lt {e m B : Nat} {ao : Option Addr} {cap : Nat} {zs : List (List Value)} {w : World} (h : RowI e m B ao cap zs w) : ∀ j, At ao j → B ≤ j ∧ j < w.heap.size := by
  rintro j ⟨a, rfl, rfl⟩
  rcases h.form with ⟨e, _⟩ | ⟨g, e, h1, h2, _⟩
  · cases e
  · cases e; exact ⟨h1, h2⟩
theorem flat_at {m : Nat} (zs : List (List Value)) (ha : ∀ k ∈ zs, k.length = m) (j r : Nat) (hr : r < m) {k : List Value} (h : zs[j]? = some k) : zs.flatten[j * m + r]? = k[r]? := by
  induction zs generalizing j with
  | nil => simp at h
  | cons a t ih =>
    have hla : a.length = m := ha a (by simp)
    rw [List.flatten_cons]
    cases j with
    | zero =>
      simp only [List.getElem?_cons_zero, Option.some.injEq] at h
      subst h
      rw [Nat.zero_mul, Nat.zero_add, List.getElem?_append_left (by omega)]
    | succ j =>
      have e : (j + 1) * m + r = a.length + (j * m + r) := by rw [hla, Nat.succ_mul]; omega
      rw [e, List.getElem?_append_right (by omega), Nat.add_sub_cancel_left]
      exact ih (fun k hk => ha k (by simp [hk])) j (by simpa using h)
theorem flat_lt {m : Nat} {j r n : Nat} (hj : j < n) (hr : r < m) : j * m + r < n * m := by
  have := Nat.mul_le_mul_right m (Nat.succ_le_of_lt hj)
  rw [Nat.succ_mul] at this; omega
theorem RowI.at {e m B : Nat} {ao : Option Addr} {cap : Nat} {zs : List (List Value)} {w : World} (h : RowI e m B ao cap zs w) (ha : ∀ k ∈ zs, k.length = m) {j r : Nat} {k : List Value} {u : Value} (hj : zs[j]? = some k) (hr : k[r]? = some u) : ∃ g, ao = some ⟨g, 0, none⟩ ∧ w.cell? ⟨g, j * m + r, none⟩ = some u ∧ B ≤ g ∧ g < w.heap.size := by
  have hl := (List.getElem?_eq_some_iff.1 hj).1
  have hrm : r < m := by have := (List.getElem?_eq_some_iff.1 hr).1; rw [ha k (List.mem_of_getElem? hj)] at this; exact this
  rcases h.2 with ⟨hv, h0⟩ | ⟨g, cap', cur, hv, hb, hg, h1, h2, h3, h4⟩
  · exfalso; omega
  · simp only [Value.slice.injEq] at hv
    obtain ⟨rfl, _, rfl⟩ := hv
    refine ⟨g, rfl, ?_, hb, lt_of_heap hg⟩
    have e1 := (flat_at zs ha j r hrm hj).trans hr
    rw [Lib.cell_of_heap hg]
    rw [← h4, List.getElem?_take_of_lt (flat_lt hl hrm), Array.getElem?_toList] at e1
    exact e1
/-- append of one thing, that has been laid into a new block -/
theorem wpList_app1 (w0 : World) {ops : Array Oper} {rest : List Oper} {o : Oper} {a : Act} {Q : Exit → Act → World → Prop} (hgd : o.guard = none) (s x : Operand) (t e m bytes : Nat) (z : Value)
    (ho : o.op = .call { callee := .builtin .append, args := #[s, x], argTypes := #[t, t] }) (hu : Try.prog.underlying t = some (.slice e)) (hinf : (Try.prog.info? e).map (fun i => (i.zero, i.size, i.bytes)) = some (some z, m, bytes)) (hz : z.cells.size = m) (hm : 0 < m) (hby : bytes ≤ 128)
    (B : Nat) (ao : Option Addr) (cap : Nat) (zs : List (List Value)) (k : List Value) (hk : k.length = m) (h1 : ∀ u ∈ k, u.oneCell' = true) (tt : TypeId) (c : Nat) (hs : a.eval s = .slice ao zs.length cap) (hrow : RowI e m B ao cap zs w0)
    (hx : a.eval x = .slice (some ⟨w0.heap.size, 0, none⟩) 1 c) (hb : Hid (zs.length < 1073741824)) (hB : B ≤ w0.heap.size)
    (h : ∀ g cap' w', RowI e m B (some ⟨g, 0, none⟩) cap' (zs ++ [k]) w' → Turn (At ao) w0 w' → (ao = some ⟨g, 0, none⟩ ∨ w0.heap.size ≤ g) → g < w'.heap.size → wpList Try.prog ops Q rest (a.put o.dst (.slice (some ⟨g, 0, none⟩) (zs.length + 1) cap')) w') :
    wpList Try.prog ops Q (o :: rest) a (w0.alloc (.cells k.toArray tt)) := by
  obtain ⟨i0, hi, hz0, hz1, hz2⟩ := info_parts hinf
  refine wpList_append_lies _ hgd s x t ho B e i0 z m bytes hu hi hz0 hz1 hz2 hz hm _ _ _ hs (World.ownsRow.alloc hrow _) ⟨w0.heap.size, 0, none⟩ 1 c k hx (by omega) (fun j u hj => ?_) h1 (by decide) (by have := hb.out; unfold maxLen; omega) (Nat.le_trans (Nat.mul_le_mul_left _ hby) (by have := hb.out; omega)) (by simp; omega) (w0.heap.size + 1) (by simp) ?_
  · exact World.news_of_block (heap_alloc_new w0 (.cells k.toArray tt)) j u (by simpa using hj)
  intro g cap' w1 hrow1 hgrow hat hlt
  refine h g cap' w1 (by unfold RowI; rw [List.length_append, List.flatten_append]; simpa using hrow1) (((Turn.refl _ w0).alloc _).grown hgrow (fun j hj _ => by
    cases ao with
    | none => cases hj
    | some ad => exact ⟨ad, rfl, by simpa [Value.ownBlock] using hj.symm⟩)) ?_ hlt
  rcases hat with q | q
  · cases ao with
    | none => cases q
    | some ad =>
      left
      rcases hrow.form with ⟨e, _⟩ | ⟨g', e, _⟩
      · cases e
      · cases e; simp only [Value.ownBlock, Option.some.injEq] at q; rw [q]
  · right; omega
theorem info27 : (Try.prog.info? 65).map (fun i => (i.zero, i.size, i.bytes)) = some (some (.agg #[.bool false, .string ByteArray.empty, .string ByteArray.empty, .slice none 0 0, .int .i8 0, .float .f64 0]), 6, 80) := by kernel_rfl
theorem info25 : (Try.prog.info? 22).map (fun i => (i.zero, i.size, i.bytes)) = some (some (.slice none 0 0), 1, 24) := by kernel_rfl
end G
end Go.Proofs.Ytollaamlnddhcaa
