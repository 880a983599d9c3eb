import Derived.Test.YtollaamlnddhcaaTrw
set_option linter.unusedVariables false
set_option linter.unusedSimpArgs false
namespace Go.Proofs.Ytollaamlnddhcaa
open Go.RowKit Go.Maps
namespace X
abbrev K3 := ByteArray × ByteArray × ByteArray
/-- a slice of triples that can be read -/
def Ints (to : Option Addr) (xs : List K3) (w : World) : Prop := xs = [] ∨ ∃ b off, to = some ⟨b, off, none⟩ ∧ b < w.heap.size ∧ ∀ i k, xs[i]? = some k → w.cell? ⟨b, off + i * 3, none⟩ = some (.string k.1) ∧ w.cell? ⟨b, off + i * 3 + 1, none⟩ = some (.string k.2.1) ∧ w.cell? ⟨b, off + i * 3 + 2, none⟩ = some (.string k.2.2)
theorem Ints.below {to : Option Addr} {xs : List K3} {w w' : World} (h : Ints to xs w) (t : Below w.heap.size w w') : Ints to xs w' := by
  rcases h with h | ⟨b, off, h1, h2, h3⟩
  · exact .inl h
  · exact .inr ⟨b, off, h1, Nat.lt_of_lt_of_le h2 t.size, fun i k q => ⟨(t.cell (p := ⟨b, off + i * 3, none⟩) h2).trans (h3 i k q).1, (t.cell (p := ⟨b, off + i * 3 + 1, none⟩) h2).trans (h3 i k q).2.1, (t.cell (p := ⟨b, off + i * 3 + 2, none⟩) h2).trans (h3 i k q).2.2⟩⟩
theorem Ints.at {to : Option Addr} {xs : List K3} {w : World} (h : Ints to xs w) {i : Nat} {k : K3} (q : xs[i]? = some k) : ∃ b off, to = some ⟨b, off, none⟩ ∧ b < w.heap.size ∧ w.cell? ⟨b, off + i * 3, none⟩ = some (.string k.1) ∧ w.cell? ⟨b, off + i * 3 + 1, none⟩ = some (.string k.2.1) ∧ w.cell? ⟨b, off + i * 3 + 2, none⟩ = some (.string k.2.2) := by
  rcases h with rfl | ⟨b, off, h1, h2, h3⟩
  · simp at q
  · exact ⟨b, off, h1, h2, h3 i k q⟩
theorem infoE : (Try.prog.info? 42).map (fun i => (i.zero, i.size, i.bytes)) = some (some (.agg #[.string ByteArray.empty, .string ByteArray.empty, .string ByteArray.empty]), 3, 48) := by kernel_rfl
def cells (k : K3) : List Value := [.string k.1, .string k.2.1, .string k.2.2]
theorem three_new (w : World) (x y z : Value) (t : TypeId) : ∀ j u, [x, y, z][j]? = some u → (w.alloc (.cells #[x, y, z] t)).cell? ((⟨w.heap.size, 0, none⟩ : Addr).add j) = some u := by
  intro j u hj
  have := World.news_of_block (heap_alloc_new w (.cells #[x, y, z] t)) j u (by simpa using hj)
  exact this
theorem flat_len (zs : List K3) : (zs.flatMap cells).length = zs.length * 3 := by
  induction zs with
  | nil => rfl
  | cons a r ih => simp [cells, ih]; omega
theorem flat_at (zs : List K3) (j : Nat) {k : K3} (h : zs[j]? = some k) : (zs.flatMap cells)[j * 3]? = some (.string k.1) ∧ (zs.flatMap cells)[j * 3 + 1]? = some (.string k.2.1) ∧ (zs.flatMap cells)[j * 3 + 2]? = some (.string k.2.2) := by
  induction zs generalizing j with
  | nil => simp at h
  | cons a r ih => cases j with
    | zero => simp at h; subst h; exact ⟨rfl, rfl, rfl⟩
    | succ j =>
      obtain ⟨h1, h2, h3⟩ := ih j (by simpa using h)
      refine ⟨?_, ?_, ?_⟩
      · rw [show (j + 1) * 3 = j * 3 + 1 + 1 + 1 by omega]; simpa [cells] using h1
      · rw [show (j + 1) * 3 + 1 = j * 3 + 1 + 1 + 1 + 1 by omega]; simpa [cells] using h2
      · rw [show (j + 1) * 3 + 2 = j * 3 + 2 + 1 + 1 + 1 by omega]; simpa [cells] using h3
theorem row_at {B : Nat} {ao : Option Addr} {cap : Nat} {zs : List K3} {w : World} (h : w.ownsRow B 42 3 (.slice ao zs.length cap) zs.length (zs.flatMap cells)) {j : Nat} {k : K3} (hj : zs[j]? = some k) : ∃ g, ao = some ⟨g, 0, none⟩ ∧ (w.cell? ⟨g, j * 3, none⟩ = some (.string k.1) ∧ w.cell? ⟨g, j * 3 + 1, none⟩ = some (.string k.2.1) ∧ w.cell? ⟨g, j * 3 + 2, none⟩ = some (.string k.2.2)) ∧ zs.length ≤ cap ∧ B ≤ g ∧ g < w.heap.size := by
  rcases h.2 with ⟨hv, h0⟩ | ⟨g, cap', cur, hv, hb, hg, h1, h2, h3, h4⟩
  · exfalso
    have hl := (List.getElem?_eq_some_iff.1 hj).1
    omega
  · simp only [Value.slice.injEq] at hv
    obtain ⟨rfl, _, rfl⟩ := hv
    have hl := (List.getElem?_eq_some_iff.1 hj).1
    obtain ⟨e1, e2, e3⟩ := flat_at zs j hj
    refine ⟨g, rfl, ⟨?_, ?_, ?_⟩, by omega, hb, lt_of_heap hg⟩
    · rw [Lib.cell_of_heap hg]
      rw [← h4, List.getElem?_take_of_lt (by omega), Array.getElem?_toList] at e1
      exact e1
    · rw [Lib.cell_of_heap hg]
      rw [← h4, List.getElem?_take_of_lt (by omega), Array.getElem?_toList] at e2
      exact e2
    · rw [Lib.cell_of_heap hg]
      rw [← h4, List.getElem?_take_of_lt (by omega), Array.getElem?_toList] at e3
      exact e3
/-- a row of triples of one's own -/
def RowI (B : Nat) (ao : Option Addr) (cap : Nat) (zs : List K3) (w : World) : Prop := w.ownsRow B 42 3 (.slice ao zs.length cap) zs.length (zs.flatMap cells)
def At (ao : Option Addr) (j : Nat) : Prop := ∃ a, ao = some a ∧ j = a.block
theorem RowI.nil (B : Nat) (w : World) : RowI B none 0 [] w := World.ownsRow_nil _ _ _ _
theorem RowI.form {B : Nat} {ao : Option Addr} {cap : Nat} {zs : List K3} {w : World} (h : RowI B ao cap zs w) : (ao = none ∧ zs = [] ∧ cap = 0) ∨ ∃ g, ao = some ⟨g, 0, none⟩ ∧ B ≤ g ∧ g < w.heap.size ∧ zs.length ≤ cap := by
  rcases h.2 with ⟨hv, h0⟩ | ⟨g, cap', cur, hv, hb, hg, h1, h2, h3, h4⟩
  · simp only [Value.slice.injEq] at hv
    exact .inl ⟨hv.1, List.eq_nil_of_length_eq_zero hv.2.1, hv.2.2⟩
  · simp only [Value.slice.injEq] at hv
    obtain ⟨rfl, _, rfl⟩ := hv
    exact .inr ⟨g, rfl, hb, lt_of_heap hg, by omega⟩
theorem RowI.cap {B : Nat} {ao : Option Addr} {cap : Nat} {zs : List K3} {w : World} (h : RowI B ao cap zs w) : zs.length ≤ cap := by
  rcases h.form with ⟨_, rfl, rfl⟩ | ⟨g, _, _, _, h⟩
  · simp
  · exact h
theorem RowI.turn {S : Nat → Prop} {B : Nat} {ao : Option Addr} {cap : Nat} {zs : List K3} {w w' : World} (h : RowI B ao cap zs w) (t : Turn S w w') (hn : ∀ j, At ao j → ¬ S j) : RowI B ao cap zs w' :=
  t.row h (fun g hg => hn g (by cases ao with | none => cases hg | some a => exact ⟨a, rfl, by simpa [Value.ownBlock] using hg.symm⟩))
theorem RowI.below {B : Nat} {ao : Option Addr} {cap : Nat} {zs : List K3} {w w' : World} (h : RowI B ao cap zs w) (t : Below w.heap.size w w') : RowI B ao cap zs w' := h.turn (turn_below (S := fun _ => False) t) (fun _ _ q => q)
theorem RowI.ints {B : Nat} {ao : Option Addr} {cap : Nat} {zs : List K3} {w : World} (h : RowI B ao cap zs w) : Ints ao zs w := by
  rcases h.form with ⟨_, rfl, rfl⟩ | ⟨g, rfl, _, hl, hc⟩
  · exact .inl rfl
  · refine .inr ⟨g, 0, rfl, hl, fun i k q => ?_⟩
    obtain ⟨g', e, hcell, _⟩ := row_at h q
    cases e
    rw [Nat.zero_add]; exact hcell
theorem RowI.lt {B : Nat} {ao : Option Addr} {cap : Nat} {zs : List K3} {w : World} (h : RowI B ao cap zs w) : ∀ j, At ao j → B ≤ j ∧ j < w.heap.size := by
  rintro j ⟨a, rfl, rfl⟩
  rcases h.form with ⟨e, _⟩ | ⟨g, e, h1, h2, _⟩
  · cases e
  · cases e; exact ⟨h1, h2⟩
theorem RowI.mono {B C : Nat} {ao : Option Addr} {cap : Nat} {zs : List K3} {w : World} (h : RowI B ao cap zs w) (hB : C ≤ B) : RowI C ao cap zs w := by
  refine ⟨h.1, ?_⟩
  rcases h.2 with h2 | ⟨g, cap', cur, hv, hb, rest⟩
  · exact .inl h2
  · exact .inr ⟨g, cap', cur, hv, by omega, rest⟩
/-- what an append leaves -/
theorem RowI.grown {B : Nat} {ao : Option Addr} {cap : Nat} {zs : List K3} {k : K3} {w0 w1 : World} {ob : Obj} {g cap' : Nat} (h : RowI B ao cap zs w0) (hrow1 : w1.ownsRow B 42 3 (.slice (some ⟨g, 0, none⟩) (zs.length + 1) cap') (zs.length + 1) (zs.flatMap cells ++ [.string k.1, .string k.2.1, .string k.2.2])) (hgrow : (w0.alloc ob).grownBy w1 (Value.slice ao zs.length cap).ownBlock) (hat : (Value.slice ao zs.length cap).ownBlock = some g ∨ g = w0.heap.size + 1) :
    RowI B (some ⟨g, 0, none⟩) cap' (zs ++ [k]) w1 ∧ Turn (At ao) w0 w1 ∧ (ao = some ⟨g, 0, none⟩ ∨ w0.heap.size ≤ g) := by
  refine ⟨by unfold RowI; rw [List.length_append, List.flatMap_append]; simpa [cells] using hrow1, ((Turn.refl _ w0).alloc _).grown hgrow (fun j hj _ => by
    cases ao with
    | none => cases hj
    | some ad => exact ⟨ad, rfl, by simpa [Value.ownBlock] using hj.symm⟩), ?_⟩
  rcases hat with q | q
  · cases ao with
    | none => cases q
    | some ad =>
      left
      rcases h.form with ⟨e, _⟩ | ⟨g', e, _⟩
      · cases e
      · cases e; simp only [Value.ownBlock, Option.some.injEq] at q; rw [q]
  · right; omega
theorem wpList_app1 (w0 : World) {ops : Array Oper} {rest : List Oper} {o : Oper} {a : Act} {Q : Exit → Act → World → Prop} (hgd : o.guard = none) (s x : Operand)
    (ho : o.op = .call { callee := .builtin .append, args := #[s, x], argTypes := #[26, 26] }) (B : Nat) (ao : Option Addr) (cap : Nat) (zs : List K3) (k : K3) (t : TypeId) (c : Nat) (hs : a.eval s = .slice ao zs.length cap) (hrow : RowI B ao cap zs w0)
    (hx : a.eval x = .slice (some ⟨w0.heap.size, 0, none⟩) 1 c) (hb : Hid (zs.length < 1099511627776)) (hB : B ≤ w0.heap.size)
    (h : ∀ g cap' w', RowI B (some ⟨g, 0, none⟩) cap' (zs ++ [k]) w' → Turn (At ao) w0 w' → (ao = some ⟨g, 0, none⟩ ∨ w0.heap.size ≤ g) → g < w'.heap.size → wpList Try.prog ops Q rest (a.put o.dst (.slice (some ⟨g, 0, none⟩) (zs.length + 1) cap')) w') :
    wpList Try.prog ops Q (o :: rest) a (w0.alloc (.cells #[.string k.1, .string k.2.1, .string k.2.2] t)) := by
  obtain ⟨i0, hi, hz0, hz1, hz2⟩ := info_parts infoE
  refine wpList_append_lies _ hgd s x 26 ho B 42 i0 (.agg #[.string ByteArray.empty, .string ByteArray.empty, .string ByteArray.empty]) 3 48 Try.underlying26 hi hz0 hz1 hz2 rfl (by decide) _ _ _ hs (World.ownsRow.alloc hrow _) ⟨w0.heap.size, 0, none⟩ 1 c [.string k.1, .string k.2.1, .string k.2.2] hx rfl (three_new _ _ _ _ _) (by simp [Value.oneCell']) (by decide) (by have := hb.out; unfold maxLen; omega) (by have := hb.out; omega) (by simp; omega) (w0.heap.size + 1) (by simp) ?_
  intro g cap' w1 hrow1 hgrow hat hlt
  obtain ⟨r, t', hg⟩ := RowI.grown hrow hrow1 hgrow hat
  exact h g cap' w1 r t' hg hlt
theorem add_off (b off n : Nat) : (⟨b, off, none⟩ : Addr).add n = ⟨b, off + n, none⟩ := by unfold Addr.add; split <;> simp_all
theorem cells_one (zs : List K3) : ∀ u ∈ zs.flatMap cells, u.oneCell' = true := by
  intro u hu
  obtain ⟨k, _, h⟩ := List.mem_flatMap.1 hu
  simp only [cells, List.mem_cons, List.mem_nil_iff, or_false] at h
  rcases h with rfl | rfl | rfl <;> rfl
/-- append of a slice of triples onto nothing -/
theorem wpList_appS (w : World) {ops : Array Oper} {rest : List Oper} {o : Oper} {a : Act} {Q : Exit → Act → World → Prop} (hw : Region.wanted o (yielded ops a.tmps) = true) (s x : Operand)
    (ho : o.op = .call { callee := .builtin .append, args := #[s, x], argTypes := #[26, 26] }) (B : Nat) (ro : Option Addr) (rc : Nat) (row : List K3) (hs : a.eval s = .slice none 0 0) (hx : a.eval x = .slice ro row.length rc) (hI : Ints ro row w) (hn : ro = none → rc = 0) (hb : Hid (row.length < 1099511627776)) (hB : B ≤ w.heap.size)
    (h : ∀ o' c w', RowI B o' c row w' → Below w.heap.size w w' → wpList Try.prog ops Q rest (a.put o.dst (.slice o' row.length c)) w') :
    wpList Try.prog ops Q (o :: rest) a w := by
  obtain ⟨i0, hi, hz0, hz1, hz2⟩ := info_parts infoE
  have hrow : w.ownsRow B 42 3 (.slice none 0 0) 0 [] := World.ownsRow_nil _ _ _ _
  refine wpList_append_src hw s x 26 ho B 42 i0 (.agg #[.string ByteArray.empty, .string ByteArray.empty, .string ByteArray.empty]) 3 48 Try.underlying26 hi hz0 hz1 hz2 rfl (by decide) (.slice none 0 0) 0 [] hs hrow ro row.length rc (row.flatMap cells) hx (fun q => ?_) (by rw [flat_len]) (fun ad q j u hj => ?_) (cells_one row) (by have := hb.out; unfold maxLen; omega) (by have := hb.out; omega) hB ?_
  · refine ⟨?_, hn q⟩
    rcases hI with rfl | ⟨b, off, e, _⟩
    · rfl
    · rw [q] at e; cases e
  · have hjl := (List.getElem?_eq_some_iff.1 hj).1
    rw [flat_len] at hjl
    obtain ⟨k, hk⟩ : ∃ k, row[j / 3]? = some k := ⟨_, List.getElem?_eq_getElem (by omega)⟩
    obtain ⟨b, off, e, _, hc1, hc2, hc3⟩ := hI.at hk
    obtain ⟨f1, f2, f3⟩ := flat_at row (j / 3) hk
    rw [q] at e; cases e
    have hm : j % 3 = 0 ∨ j % 3 = 1 ∨ j % 3 = 2 := by omega
    rcases hm with hm | hm | hm
    · have hj2 : j = j / 3 * 3 := by omega
      rw [← hj2] at f1 hc1
      rw [add_off, hc1, ← f1]; exact hj
    · have hj2 : j = j / 3 * 3 + 1 := by omega
      rw [← hj2] at f2
      rw [Nat.add_assoc, ← hj2] at hc2
      rw [add_off, hc2, ← f2]; exact hj
    · have hj2 : j = j / 3 * 3 + 2 := by omega
      rw [← hj2] at f3
      rw [Nat.add_assoc, ← hj2] at hc3
      rw [add_off, hc3, ← f3]; exact hj
  · intro v' w' hr hg hat
    simp only [Nat.zero_add, List.nil_append] at hr
    have hbel : Below w.heap.size w w' := ⟨hg.os, hg.tape, hg.output, hg.size, fun k hk => hg.block k hk (by simp [Value.ownBlock])⟩
    have hf : ∃ o' c, v' = .slice o' row.length c := by
      rcases hr.2 with ⟨hv, h0⟩ | ⟨g, cap', cur, hv, _⟩
      · exact ⟨none, 0, by rw [h0]; exact hv⟩
      · exact ⟨_, _, hv⟩
    obtain ⟨o', c, rfl⟩ := hf
    exact h o' c w' hr hbel
end X
end Go.Proofs.Ytollaamlnddhcaa
