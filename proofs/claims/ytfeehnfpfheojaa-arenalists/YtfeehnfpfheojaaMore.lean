import Derived.Test.YtfeehnfpfheojaaFnP
set_option linter.unusedVariables false
set_option linter.unusedSimpArgs false
namespace Go.Proofs.Ytfeehnfpfheojaa
open Go.RowKit
namespace M
theorem wpList_more {t e m bytes : Nat} {z : Value} (ht : Try.prog.underlying t = some (.slice e)) (hinf : (Try.prog.info? e).map (fun i => (i.zero, i.size, i.bytes)) = some (some z, m, bytes)) (hz : z.cells.size = m) (hm : 0 < m) (hby : bytes ≤ 40) (w : World) {ops : Array Oper} {rest : List Oper} {o : Oper} {a : Act} {Q : Exit → Act → World → Prop} (hgd : o.guard = none) (s y : Operand)
    (ho : o.op = .call { callee := .builtin .append, args := #[s, y], argTypes := #[t, t] }) {B : Nat} {ro : Option Addr} {rc k : Nat} {xs : List Value} (hrow : w.ownsRow B e m (.slice ro k rc) k xs) (hl : k < 3000000000000) (hB : B ≤ w.heap.size) (cs : List Value) (hcl : cs.length = m) (h1 : ∀ u ∈ cs, u.oneCell' = true) (c : Nat) (hs : a.eval s = .slice ro k rc) (hx : a.eval y = .slice (some ⟨w.heap.size, 0, none⟩) 1 c)
    (hk : ∀ gg cap' w1, w1.ownsRow B e m (.slice (some ⟨gg, 0, none⟩) (k + 1) cap') (k + 1) (xs ++ cs) → Turn (At ro) w w1 → (At ro gg ∨ w.heap.size ≤ gg) → wpList Try.prog ops Q rest (a.put o.dst (.slice (some ⟨gg, 0, none⟩) (k + 1) cap')) w1) :
    wpList Try.prog ops Q (o :: rest) a (w.alloc (.cells cs.toArray e)) := by
  obtain ⟨i0, hi0, hz0, hz1, hz2⟩ := info_parts hinf
  refine wpList_append_lies _ hgd s y t ho B e i0 _ m bytes ht hi0 hz0 hz1 hz2 hz hm _ k xs hs (World.ownsRow.alloc hrow _) ⟨w.heap.size, 0, none⟩ 1 c cs hx (by omega) (fun j u hj => World.news_of_block (heap_alloc_new w (.cells cs.toArray e)) j u (by simpa using hj)) h1 (by omega) (by unfold maxLen; omega) (Nat.le_trans (Nat.mul_le_mul_left _ hby) (by omega)) (by simp; omega) (w.heap.size + 1) (by simp) ?_
  intro gg cap' w1 hown1 hgrow hat hlt
  have t0 : Turn (At ro) w w1 := ((Turn.refl _ w).alloc _).grown hgrow (fun k hk _ => own_at hk)
  refine hk gg cap' w1 hown1 t0 ?_
  rcases hat with q | q
  · exact .inl (own_at q)
  · exact .inr (by omega)
end M
namespace Fr
theorem info110 : (Try.prog.info? 110).map (fun i => (i.zero, i.size, i.bytes)) = some (some (.agg #[.int .i64 0, .int .i64 0, .bool false]), 3, 24) := by kernel_rfl
def tcb (p : Bk) : List Value := [.int .i64 p.addr, .int .i64 p.size, .bool p.free]
theorem tcb_len (p : Bk) : (tcb p).length = 3 := rfl
/-- a slice of pieces in a row of its own -/
def RowB (B : Nat) (so : Option Addr) (sc : Nat) (S : List Bk) (w : World) : Prop := w.ownsRow B 110 3 (.slice so S.length sc) S.length (S.flatMap tcb)
variable {B : Nat} {so : Option Addr} {sc : Nat} {S : List Bk} {w w' : World}
theorem RowB.nil (B : Nat) (w : World) : RowB B none 0 [] w := World.ownsRow_nil _ _ _ _
theorem RowB.kept {T : Nat → Prop} (h : RowB B so sc S w) (t : Turn T w w') (hn : ∀ j, M.At so j → ¬ T j) : RowB B so sc S w' := t.row h (fun j hj => hn j (M.own_at hj))
theorem RowB.lt (h : RowB B so sc S w) {j : Nat} (hj : M.At so j) : B ≤ j ∧ j < w.heap.size ∧ ∃ c, w.heap[j]? = some (.cells c 110 (0, 0)) := by
  obtain ⟨a, rfl, rfl⟩ := hj
  rcases h.2 with ⟨hv, _⟩ | ⟨g', cap', cur, hv, hb, hg', _⟩
  · cases hv
  · simp only [Value.slice.injEq, Option.some.injEq] at hv
    obtain ⟨rfl, _, _⟩ := hv
    exact ⟨hb, lt_of_heap hg', _, hg'⟩
theorem RowB.item (h : RowB B so sc S w) {i : Nat} {p : Bk} (hp : S[i]? = some p) : ∃ g, so = some ⟨g, 0, none⟩ ∧ S.length ≤ sc ∧ w.cell? ⟨g, i * 3, none⟩ = some (.int .i64 p.addr) ∧ w.cell? ⟨g, i * 3 + 1, none⟩ = some (.int .i64 p.size) ∧ w.cell? ⟨g, i * 3 + 2, none⟩ = some (.bool p.free) := by
  have hi : i < S.length := (List.getElem?_eq_some_iff.1 hp).1
  obtain ⟨g, cap', hv, h2, h3⟩ := World.ownsRow.form h (by omega)
  simp only [Value.slice.injEq] at hv
  obtain ⟨rfl, _, rfl⟩ := hv
  have e : ∀ r, r < 3 → w.cell? ⟨g, i * 3 + r, none⟩ = (tcb p)[r]? := fun r hr => by
    rw [World.ownsRow.cellAt h (i * 3 + r) (by omega)]
    exact Hp.flat_at tcb_len S i p r hp hr
  refine ⟨g, rfl, ?_, e 0 (by omega), e 1 (by omega), e 2 (by omega)⟩
  rcases h.2 with ⟨hv, _⟩ | ⟨g', cap', cur, hv, hb, hg', hc, _⟩
  · cases hv
  · simp only [Value.slice.injEq] at hv
    obtain ⟨_, _, rfl⟩ := hv
    exact hc
/-- a piece more -/
theorem wpList_moreB (w : World) {ops : Array Oper} {rest : List Oper} {o : Oper} {a : Act} {Q : Exit → Act → World → Prop} (hgd : o.guard = none) (s y : Operand)
    (ho : o.op = .call { callee := .builtin .append, args := #[s, y], argTypes := #[88, 88] }) (hrow : RowB B so sc S w) (hl : Hid (S.length < 3000000000000)) (hB : B ≤ w.heap.size) (p : Bk) (c : Nat) (hs : a.eval s = .slice so S.length sc) (hx : a.eval y = .slice (some ⟨w.heap.size, 0, none⟩) 1 c)
    (hk : ∀ gg cap' w1, RowB B (some ⟨gg, 0, none⟩) cap' (S ++ [p]) w1 → Turn (M.At so) w w1 → (M.At so gg ∨ w.heap.size ≤ gg) → wpList Try.prog ops Q rest (a.put o.dst (.slice (some ⟨gg, 0, none⟩) (S.length + 1) cap')) w1) :
    wpList Try.prog ops Q (o :: rest) a (w.alloc (.cells #[.int .i64 p.addr, .int .i64 p.size, .bool p.free] 110)) := by
  refine M.wpList_more (e := 110) (m := 3) Try.underlying88 info110 rfl (by omega) (by omega) w hgd s y ho hrow hl.out hB (tcb p) rfl (by simp [tcb, Value.oneCell']) c hs hx ?_
  intro gg cap' w1 h1 t1 hg
  refine hk gg cap' w1 ?_ t1 hg
  unfold RowB
  rw [List.length_append, List.flatMap_append]
  simpa using h1
end Fr
end Go.Proofs.Ytfeehnfpfheojaa
