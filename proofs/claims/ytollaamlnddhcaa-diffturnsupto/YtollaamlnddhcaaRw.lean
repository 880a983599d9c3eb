import Derived.Test.YtollaamlnddhcaaClL
set_option linter.unusedVariables false
set_option linter.unusedSimpArgs false
namespace Go.Proofs.Ytollaamlnddhcaa
open Go.RowKit Go.Maps
namespace I
/-- a row of numbers of one's own -/
def RowI (B : Nat) (ao : Option Addr) (cap : Nat) (zs : List Int) (w : World) : Prop := w.ownsRow B 3 1 (.slice ao zs.length cap) zs.length (zs.flatMap cells)
/-- the block of a row, if there is one -/
def At (ao : Option Addr) (j : Nat) : Prop := ∃ a, ao = some a ∧ j = a.block
theorem RowI.nil (B : Nat) (w : World) : RowI B none 0 [] w := World.ownsRow_nil _ _ _ _
theorem RowI.form {B : Nat} {ao : Option Addr} {cap : Nat} {zs : List Int} {w : World} (h : RowI B ao cap zs w) : (ao = none ∧ zs = [] ∧ cap = 0) ∨ ∃ g, ao = some ⟨g, 0, none⟩ ∧ B ≤ g ∧ g < w.heap.size ∧ zs.length ≤ cap := by
  rcases h.2 with ⟨hv, h0⟩ | ⟨g, cap', cur, hv, hb, hg, h1, h2, h3, h4⟩
  · simp only [Value.slice.injEq] at hv
    exact .inl ⟨hv.1, List.eq_nil_of_length_eq_zero hv.2.1, hv.2.2⟩
  · simp only [Value.slice.injEq] at hv
    obtain ⟨rfl, _, rfl⟩ := hv
    exact .inr ⟨g, rfl, hb, lt_of_heap hg, by omega⟩
theorem RowI.cap {B : Nat} {ao : Option Addr} {cap : Nat} {zs : List Int} {w : World} (h : RowI B ao cap zs w) : zs.length ≤ cap := by
  rcases h.form with ⟨_, rfl, rfl⟩ | ⟨g, _, _, _, h⟩
  · simp
  · exact h
theorem RowI.turn {S : Nat → Prop} {B : Nat} {ao : Option Addr} {cap : Nat} {zs : List Int} {w w' : World} (h : RowI B ao cap zs w) (t : Turn S w w') (hn : ∀ j, At ao j → ¬ S j) : RowI B ao cap zs w' :=
  t.row h (fun g hg => hn g (by cases ao with | none => cases hg | some a => exact ⟨a, rfl, by simpa [Value.ownBlock] using hg.symm⟩))
theorem RowI.below {B : Nat} {ao : Option Addr} {cap : Nat} {zs : List Int} {w w' : World} (h : RowI B ao cap zs w) (t : Below w.heap.size w w') : RowI B ao cap zs w' := h.turn (turn_below (S := fun _ => False) t) (fun _ _ q => q)
theorem RowI.ints {B : Nat} {ao : Option Addr} {cap : Nat} {zs : List Int} {w : World} (h : RowI B ao cap zs w) : Ints ao zs w := by
  rcases h.form with ⟨_, rfl, rfl⟩ | ⟨g, rfl, _, hl, hc⟩
  · exact .inl rfl
  · refine .inr ⟨g, 0, rfl, hl, fun i k q => ?_⟩
    obtain ⟨g', e, hcell, _⟩ := row_at h q
    cases e
    rw [Nat.zero_add]; exact hcell
theorem RowI.lt {B : Nat} {ao : Option Addr} {cap : Nat} {zs : List Int} {w : World} (h : RowI B ao cap zs w) : ∀ j, At ao j → B ≤ j ∧ j < w.heap.size := by
  rintro j ⟨a, rfl, rfl⟩
  rcases h.form with ⟨e, _⟩ | ⟨g, e, h1, h2, _⟩
  · cases e
  · cases e; exact ⟨h1, h2⟩
theorem RowI.mono {B C : Nat} {ao : Option Addr} {cap : Nat} {zs : List Int} {w : World} (h : RowI B ao cap zs w) (hB : C ≤ B) : RowI C ao cap zs w := by
  refine ⟨h.1, ?_⟩
  rcases h.2 with h2 | ⟨g, cap', cur, hv, hb, rest⟩
  · exact .inl h2
  · exact .inr ⟨g, cap', cur, hv, by omega, rest⟩
/-- append of one number, that has been laid into a new block -/
theorem wpList_app1 (w0 : World) {ops : Array Oper} {rest : List Oper} {o : Oper} {a : Act} {Q : Exit → Act → World → Prop} (hgd : o.guard = none) (s x : Operand)
    (ho : o.op = .call { callee := .builtin .append, args := #[s, x], argTypes := #[101, 101] }) (B : Nat) (ao : Option Addr) (cap : Nat) (zs : List Int) (k : Int) (t : TypeId) (c : Nat) (hs : a.eval s = .slice ao zs.length cap) (hrow : RowI B ao cap zs w0)
    (hx : a.eval x = .slice (some ⟨w0.heap.size, 0, none⟩) 1 c) (hb : Hid (zs.length < 4398046511104)) (hB : B ≤ w0.heap.size)
    (h : ∀ g cap' w', RowI B (some ⟨g, 0, none⟩) cap' (zs ++ [k]) w' → Turn (At ao) w0 w' → (ao = some ⟨g, 0, none⟩ ∨ w0.heap.size ≤ g) → g < w'.heap.size → wpList Try.prog ops Q rest (a.put o.dst (.slice (some ⟨g, 0, none⟩) (zs.length + 1) cap')) w') :
    wpList Try.prog ops Q (o :: rest) a (w0.alloc (.cells #[.int .i64 k] t)) := by
  obtain ⟨i0, hi, hz0, hz1, hz2⟩ := info_parts infoE
  refine wpList_append_lies _ hgd s x 101 ho B 3 i0 (.int .i64 0) 1 8 Try.underlying101 hi hz0 hz1 hz2 rfl (by decide) _ _ _ hs (World.ownsRow.alloc hrow _) ⟨w0.heap.size, 0, none⟩ 1 c [.int .i64 k] hx rfl (cell_one_new _ _ _) (by simp [Value.oneCell']) (by decide) (by have := hb.out; unfold maxLen; omega) (by have := hb.out; omega) (by simp; omega) (w0.heap.size + 1) (by simp) ?_
  intro g cap' w1 hrow1 hgrow hat hlt
  refine h g cap' w1 ?_ (((Turn.refl _ w0).alloc _).grown hgrow (fun j hj _ => by
    cases ao with
    | none => cases hj
    | some ad => exact ⟨ad, rfl, by simpa [Value.ownBlock] using hj.symm⟩)) ?_ hlt
  · unfold RowI; rw [List.length_append, List.flatMap_append]; simpa [cells] using hrow1
  · rcases hat with q | q
    · cases ao with
      | none => cases q
      | some ad =>
        left
        rcases hrow.form with ⟨e, _⟩ | ⟨g', e, _⟩
        · cases e
        · cases e; simp only [Value.ownBlock, Option.some.injEq] at q; rw [q]
    · right; omega
theorem flat_map (zs : List Int) : zs.flatMap cells = zs.map (fun k => Value.int .i64 k) := by
  induction zs with
  | nil => rfl
  | cons a r ih => simp [cells, ih]
/-- a cell of one's own row is written over -/
theorem RowI.put {B : Nat} {g cap : Nat} {zs : List Int} {w : World} (h : RowI B (some ⟨g, 0, none⟩) cap zs w) (i : Nat) (k : Int) (hi : i < zs.length) : RowI B (some ⟨g, 0, none⟩) cap (zs.set i k) (w.setCell ⟨g, i, none⟩ (.int .i64 k)) := by
  rcases h.2 with ⟨hv, h0⟩ | ⟨g', cap', cur, hv, hb, hg, h1, h2, h3, h4⟩
  · cases hv
  simp only [Value.slice.injEq, Option.some.injEq] at hv
  obtain ⟨he, _, rfl⟩ := hv
  cases he
  refine ⟨by rw [flat_len]; simp, .inr ⟨g, cap, cur.setIfInBounds i (.int .i64 k), by simp, hb, ?_, by simp; omega, h2, by simpa using h3, ?_⟩⟩
  · simp [World.setCell, Array.getElem?_modify, hg]
  · rw [flat_map] at h4 ⊢
    rw [List.map_set, ← h4, Array.toList_setIfInBounds]
    simp only [List.length_set]
    rw [List.take_set]
end I
end Go.Proofs.Ytollaamlnddhcaa
