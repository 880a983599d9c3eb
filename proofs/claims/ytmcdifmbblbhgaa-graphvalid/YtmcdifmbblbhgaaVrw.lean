import Derived.Test.YtmcdifmbblbhgaaGdc
import Derived.Test.YtmcdifmbblbhgaaVlp
import Derived.Deep.AppendLies
import Derived.Maps.OwnSet
import Derived.OwnWalk
import Derived.Outline
set_option linter.unusedVariables false
set_option linter.unusedSimpArgs false
namespace Go.Proofs.Ytmcdifmbblbhgaa
open Go.RowKit Go.Maps
theorem turn_below {S : Nat → Prop} {w w' : World} (b : Below w.heap.size w w') : Turn S w w' := ⟨b.os, b.tape, b.output, b.size, fun k hk _ => b.block k hk⟩
theorem set_turn (b i : Nat) (v : Value) (w : World) : Turn (fun j => j = b) w (w.setCell ⟨b, i, none⟩ v) := (Turn.refl (fun j => j = b) w).setCell (p := ⟨b, i, none⟩) (fun _ => rfl) v
def Stay (p : Prop) : Prop := p
theorem stay_app {P : Program} {ops : Array Oper} {rest : List Oper} {o : Oper} {a : Act} {Q : Exit → Act → World → Prop} {w : World} (s x : Operand) (ts : Array TypeId) (ho : o.op = .call { callee := .builtin .append, args := #[s, x], argTypes := ts }) (h : Stay (wpList P ops Q (o :: rest) a w)) : wpList P ops Q (o :: rest) a w := h
theorem lt_of_heap {w : World} {b : Nat} {o : Obj} (h : w.heap[b]? = some o) : b < w.heap.size := (Array.getElem?_eq_some_iff.1 h).1
namespace I
def cells (k : Int) : List Value := [.int .i64 k]
theorem infoE : (Try.prog.info? 3).map (fun i => (i.zero, i.size, i.bytes)) = some (some (.int .i64 0), 1, 8) := by kernel_rfl
/-- a slice of numbers that can be read -/
def Ints (to : Option Addr) (xs : List Int) (w : World) : Prop := xs = [] ∨ ∃ b off, to = some ⟨b, off, none⟩ ∧ b < w.heap.size ∧ ∀ i k, xs[i]? = some k → w.cell? ⟨b, off + i, none⟩ = some (.int .i64 k)
theorem Ints.turn {to : Option Addr} {xs : List Int} {w w' : World} {S : Nat → Prop} (h : Ints to xs w) (t : Turn S w w') (hS : xs ≠ [] → ∀ b off, to = some ⟨b, off, none⟩ → ¬ S b) : Ints to xs w' := by
  by_cases hn : xs = []
  · exact .inl hn
  rcases h with h | ⟨b, off, h1, h2, h3⟩
  · exact .inl h
  · exact .inr ⟨b, off, h1, Nat.lt_of_lt_of_le h2 t.size, fun i k q => (t.cell (p := ⟨b, off + i, none⟩) h2 (hS hn b off h1)).trans (h3 i k q)⟩
theorem Ints.below {to : Option Addr} {xs : List Int} {w w' : World} (h : Ints to xs w) (t : Below w.heap.size w w') : Ints to xs w' := h.turn (turn_below (S := fun _ => False) t) (fun _ _ _ _ q => q)
theorem Ints.at {to : Option Addr} {xs : List Int} {w : World} (h : Ints to xs w) {i : Nat} {k : Int} (q : xs[i]? = some k) : ∃ b off, to = some ⟨b, off, none⟩ ∧ b < w.heap.size ∧ w.cell? ⟨b, off + i, none⟩ = some (.int .i64 k) := by
  rcases h with rfl | ⟨b, off, h1, h2, h3⟩
  · simp at q
  · exact ⟨b, off, h1, h2, h3 i k q⟩
theorem flat_len (zs : List Int) : (zs.flatMap cells).length = zs.length := by
  induction zs with
  | nil => rfl
  | cons a r ih => simp [cells, ih]
theorem flat_at (zs : List Int) (j : Nat) : (zs.flatMap cells)[j]? = (zs[j]?).map (fun k => .int .i64 k) := by
  induction zs generalizing j with
  | nil => simp
  | cons a r ih => cases j with
    | zero => simp [cells]
    | succ j => simpa [cells] using ih j
theorem row_at {B : Nat} {ao : Option Addr} {cap : Nat} {zs : List Int} {w : World} (h : w.ownsRow B 3 1 (.slice ao zs.length cap) zs.length (zs.flatMap cells)) {j : Nat} {k : Int} (hj : zs[j]? = some k) : ∃ g, ao = some ⟨g, 0, none⟩ ∧ w.cell? ⟨g, j, none⟩ = some (.int .i64 k) ∧ zs.length ≤ cap ∧ B ≤ g ∧ g < w.heap.size := by
  rcases h.2 with ⟨hv, h0⟩ | ⟨g, cap', cur, hv, hb, hg, h1, h2, h3, h4⟩
  · exfalso
    have hl := (List.getElem?_eq_some_iff.1 hj).1
    omega
  · simp only [Value.slice.injEq] at hv
    obtain ⟨rfl, _, rfl⟩ := hv
    refine ⟨g, rfl, ?_, by omega, hb, lt_of_heap hg⟩
    rw [Lib.cell_of_heap hg]
    have hl := (List.getElem?_eq_some_iff.1 hj).1
    have e1 := flat_at zs j
    rw [hj, ← h4, List.getElem?_take_of_lt (by omega), Array.getElem?_toList] at e1
    exact e1
/-- a row of numbers of one's own -/
def RowI (B : Nat) (ao : Option Addr) (cap : Nat) (zs : List Int) (w : World) : Prop := w.ownsRow B 3 1 (.slice ao zs.length cap) zs.length (zs.flatMap cells)
/-- the block of a row, if there is one -/
def At (ao : Option Addr) (j : Nat) : Prop := ∃ a, ao = some a ∧ j = a.block
theorem RowI.nil (B : Nat) (w : World) : RowI B none 0 [] w := World.ownsRow_nil _ _ _ _
theorem RowI.form {B : Nat} {ao : Option Addr} {cap : Nat} {zs : List Int} {w : World} (h : RowI B ao cap zs w) : (ao = none ∧ zs = [] ∧ cap = 0) ∨ ∃ g, ao = some ⟨g, 0, none⟩ ∧ B ≤ g ∧ g < w.heap.size ∧ zs.length ≤ cap := by
  rcases h.2 with ⟨hv, h0⟩ | ⟨g, cap', cur, hv, hb, hg, h1, h2, h3, h4⟩
  · simp only [Value.slice.injEq] at hv
    exact .inl ⟨hv.1, List.eq_nil_of_length_eq_zero hv.2.1, hv.2.2⟩
  · simp only [Value.slice.injEq] at hv
    obtain ⟨rfl, _, rfl⟩ := hv
    exact .inr ⟨g, rfl, hb, lt_of_heap hg, by omega⟩
theorem RowI.cap {B : Nat} {ao : Option Addr} {cap : Nat} {zs : List Int} {w : World} (h : RowI B ao cap zs w) : zs.length ≤ cap := by
  rcases h.form with ⟨_, rfl, rfl⟩ | ⟨g, _, _, _, h⟩
  · simp
  · exact h
theorem RowI.turn {S : Nat → Prop} {B : Nat} {ao : Option Addr} {cap : Nat} {zs : List Int} {w w' : World} (h : RowI B ao cap zs w) (t : Turn S w w') (hn : ∀ j, At ao j → ¬ S j) : RowI B ao cap zs w' :=
  t.row h (fun g hg => hn g (by cases ao with | none => cases hg | some a => exact ⟨a, rfl, by simpa [Value.ownBlock] using hg.symm⟩))
theorem RowI.below {B : Nat} {ao : Option Addr} {cap : Nat} {zs : List Int} {w w' : World} (h : RowI B ao cap zs w) (t : Below w.heap.size w w') : RowI B ao cap zs w' := h.turn (turn_below (S := fun _ => False) t) (fun _ _ q => q)
theorem RowI.ints {B : Nat} {ao : Option Addr} {cap : Nat} {zs : List Int} {w : World} (h : RowI B ao cap zs w) : Ints ao zs w := by
  rcases h.form with ⟨_, rfl, rfl⟩ | ⟨g, rfl, _, hl, hc⟩
  · exact .inl rfl
  · refine .inr ⟨g, 0, rfl, hl, fun i k q => ?_⟩
    obtain ⟨g', e, hcell, _⟩ := row_at h q
    cases e
    rw [Nat.zero_add]; exact hcell
theorem RowI.lt {B : Nat} {ao : Option Addr} {cap : Nat} {zs : List Int} {w : World} (h : RowI B ao cap zs w) : ∀ j, At ao j → B ≤ j ∧ j < w.heap.size := by
  rintro j ⟨a, rfl, rfl⟩
  rcases h.form with ⟨e, _⟩ | ⟨g, e, h1, h2, _⟩
  · cases e
  · cases e; exact ⟨h1, h2⟩
theorem RowI.mono {B C : Nat} {ao : Option Addr} {cap : Nat} {zs : List Int} {w : World} (h : RowI B ao cap zs w) (hB : C ≤ B) : RowI C ao cap zs w := by
  refine ⟨h.1, ?_⟩
  rcases h.2 with h2 | ⟨g, cap', cur, hv, hb, rest⟩
  · exact .inl h2
  · exact .inr ⟨g, cap', cur, hv, by omega, rest⟩
/-- append of one number, that has been laid into a new block -/
theorem wpList_app1 (w0 : World) {ops : Array Oper} {rest : List Oper} {o : Oper} {a : Act} {Q : Exit → Act → World → Prop} (hgd : o.guard = none) (s x : Operand)
    (ho : o.op = .call { callee := .builtin .append, args := #[s, x], argTypes := #[23, 23] }) (B : Nat) (ao : Option Addr) (cap : Nat) (zs : List Int) (k : Int) (t : TypeId) (c : Nat) (hs : a.eval s = .slice ao zs.length cap) (hrow : RowI B ao cap zs w0)
    (hx : a.eval x = .slice (some ⟨w0.heap.size, 0, none⟩) 1 c) (hb : Hid (zs.length < 4398046511104)) (hB : B ≤ w0.heap.size)
    (h : ∀ g cap' w', RowI B (some ⟨g, 0, none⟩) cap' (zs ++ [k]) w' → Turn (At ao) w0 w' → (ao = some ⟨g, 0, none⟩ ∨ w0.heap.size ≤ g) → g < w'.heap.size → wpList Try.prog ops Q rest (a.put o.dst (.slice (some ⟨g, 0, none⟩) (zs.length + 1) cap')) w') :
    wpList Try.prog ops Q (o :: rest) a (w0.alloc (.cells #[.int .i64 k] t)) := by
  obtain ⟨i0, hi, hz0, hz1, hz2⟩ := info_parts infoE
  refine wpList_append_lies _ hgd s x 23 ho B 3 i0 (.int .i64 0) 1 8 Try.underlying23 hi hz0 hz1 hz2 rfl (by decide) _ _ _ hs (World.ownsRow.alloc hrow _) ⟨w0.heap.size, 0, none⟩ 1 c [.int .i64 k] hx rfl (cell_one_new _ _ _) (by simp [Value.oneCell']) (by decide) (by have := hb.out; unfold maxLen; omega) (by have := hb.out; omega) (by simp; omega) (w0.heap.size + 1) (by simp) ?_
  intro g cap' w1 hrow1 hgrow hat hlt
  refine h g cap' w1 ?_ (((Turn.refl _ w0).alloc _).grown hgrow (fun j hj _ => by
    cases ao with
    | none => cases hj
    | some ad => exact ⟨ad, rfl, by simpa [Value.ownBlock] using hj.symm⟩)) ?_ hlt
  · unfold RowI; rw [List.length_append, List.flatMap_append]; simpa [cells] using hrow1
  · rcases hat with q | q
    · cases ao with
      | none => cases q
      | some ad =>
        left
        rcases hrow.form with ⟨e, _⟩ | ⟨g', e, _⟩
        · cases e
        · cases e; simp only [Value.ownBlock, Option.some.injEq] at q; rw [q]
    · right; omega
theorem flat_map (zs : List Int) : zs.flatMap cells = zs.map (fun k => Value.int .i64 k) := by
  induction zs with
  | nil => rfl
  | cons a r ih => simp [cells, ih]
/-- a cell of one's own row is written over -/
theorem RowI.put {B : Nat} {g cap : Nat} {zs : List Int} {w : World} (h : RowI B (some ⟨g, 0, none⟩) cap zs w) (i : Nat) (k : Int) (hi : i < zs.length) : RowI B (some ⟨g, 0, none⟩) cap (zs.set i k) (w.setCell ⟨g, i, none⟩ (.int .i64 k)) := by
  rcases h.2 with ⟨hv, h0⟩ | ⟨g', cap', cur, hv, hb, hg, h1, h2, h3, h4⟩
  · cases hv
  simp only [Value.slice.injEq, Option.some.injEq] at hv
  obtain ⟨he, _, rfl⟩ := hv
  cases he
  refine ⟨by rw [flat_len]; simp, .inr ⟨g, cap, cur.setIfInBounds i (.int .i64 k), by simp, hb, ?_, by simp; omega, h2, by simpa using h3, ?_⟩⟩
  · simp [World.setCell, Array.getElem?_modify, hg]
  · rw [flat_map] at h4 ⊢
    rw [List.map_set, ← h4, Array.toList_setIfInBounds]
    simp only [List.length_set]
    rw [List.take_set]
end I
namespace S
def okk (k : ByteArray) : Prop := k.size ≤ maxLen
def lit (k : ByteArray) : Lit := .string k.data.toList
theorem law : Keyed Try.prog 9 := string_keyed Try.underlying9
theorem hkey {k : ByteArray} (h : okk k) : keyOf Try.prog 9 (.string k) = some (lit k) := Go.WideMaps.keyOf_string_mk Try.underlying9 h
theorem inj (j k : ByteArray) (hj : okk j) (hk : okk k) (h : lit j = lit k) : j = k := by
  have a := hkey hj
  rw [h] at a
  have := law.inj a (hkey hk)
  simpa using this
theorem isKey {k : ByteArray} (h : okk k) : WideAt.IsKeyLit (lit k) := law.key (hkey h)
end S
namespace U
/-- where a list lies: its block, its length, its room -/
abbrev V3 := Nat × Nat × Nat
def val : Option V3 → Value
  | some v => .slice (some ⟨v.1, 0, none⟩) v.2.1 v.2.2
  | none => .slice none 0 0
def dat : Option V3 → DataW Unit
  | some v => .agg [.lit (.int .i64 (v.1 : Int)), .lit (.int .i64 (v.2.1 : Int)), .lit (.int .i64 (v.2.2 : Int))]
  | none => .agg []
/-- how a slice in a map reads: by where it lies -/
def sE : Value → Option (DataW Unit × List MemPlace)
  | .slice none 0 0 => some (.agg [], [])
  | .slice (some ⟨b, 0, none⟩) l c => some (dat (some (b, l, c)), [])
  | _ => none
theorem sE_val (v : Option V3) : sE (val v) = some (dat v, []) := by cases v <;> rfl
theorem sE_inv {v : Value} {x : Option V3} {ps : List MemPlace} (h : sE v = some (dat x, ps)) : v = val x := by
  unfold sE at h
  split at h
  · cases x with
    | none => rfl
    | some x => simp [dat] at h
  · rename_i b l c
    cases x with
    | none => simp [dat] at h
    | some x =>
      obtain ⟨x1, x2, x3⟩ := x
      simp only [dat, Option.some.injEq, Prod.mk.injEq, DataW.agg.injEq, List.cons.injEq, DataW.lit.injEq, Lit.int.injEq, and_true, true_and] at h
      obtain ⟨⟨h1, h2, h3⟩, _⟩ := h
      have e1 : b = x1 := by omega
      have e2 : l = x2 := by omega
      have e3 : c = x3 := by omega
      subst e1 e2 e3
      rfl
  · cases h
end U
end Go.Proofs.Ytmcdifmbblbhgaa
