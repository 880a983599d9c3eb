import Derived.Test.YtjhnlmedmpcgoaaTurn
import Derived.Test.YtjhnlmedmpcgoaaRows
import Derived.WalkKit
import Derived.WalkLawsBesides
import Derived.WalkSpells
import Derived.Outline
import Derived.BigQuiet
import Derived.Deep.QuietTactic
import Derived.OwnWalk
import Derived.Deep.RegionHeld3
import Derived.Deep.AppendLies
import Derived.Deep.RegionLaw
import Derived.LoopTactic
set_option linter.unusedVariables false
set_option linter.unusedSimpArgs false
namespace Go.Proofs.Ytjhnlmedmpcgoaa
open Go.RowKit
theorem hide' {p : Prop} (h : p) : Hid p := h
theorem lt_of_heap {w : World} {b : Nat} {o : Obj} (h : w.heap[b]? = some o) : b < w.heap.size := (Array.getElem?_eq_some_iff.1 h).1
theorem heap_alloc_new (w : World) (o : Obj) : (w.alloc o).heap[w.heap.size]? = some o := by show (w.heap.push o)[w.heap.size]? = some o; simp
theorem turn_below {S : Nat → Prop} {w w' : World} (b : Below w.heap.size w w') : Turn S w w' := ⟨b.os, b.tape, b.output, b.size, fun k hk _ => b.block k hk⟩
theorem cells_ne {w : World} {i j : Nat} {c c' : Array Value} {t t' : Nat} {r r' : Nat × Nat} (h : w.heap[i]? = some (.cells c t r)) (h' : w.heap[j]? = some (.cells c' t' r')) (n : t ≠ t') : i ≠ j := by
  intro e
  subst e
  rw [h] at h'
  cases h'
  exact n rfl
theorem info_parts {P : Program} {e : TypeId} {z : Option Value} {m bytes : Nat} (h : (P.info? e).map (fun i => (i.zero, i.size, i.bytes)) = some (z, m, bytes)) : ∃ i, P.info? e = some i ∧ i.zero = z ∧ i.size = m ∧ i.bytes = bytes := by
  cases hi : P.info? e with
  | none => rw [hi] at h; cases h
  | some i =>
    rw [hi] at h
    simp only [Option.map_some, Option.some.injEq, Prod.mk.injEq] at h
    exact ⟨i, rfl, h.1, h.2.1, h.2.2⟩
theorem set_block {w : World} {b off : Nat} {cs : Array Value} {t : TypeId} {r : Nat × Nat} {v : Value} (h : w.heap[b]? = some (.cells cs t r)) : (w.setCell ⟨b, off, none⟩ v).heap[b]? = some (.cells (cs.setIfInBounds off v) t r) := by
  simp [World.setCell, Array.getElem?_modify, h]
theorem msr' {k n : Nat} (h : k < n) (i : Int) (e : i = (k : Int) + 1) : n - (intOf (.int .i64 i)).toNat < n - (intOf (.int .i64 (k : Int))).toNat := by
  rw [e]
  show n - ((k : Int) + 1).toNat < n - (k : Int).toNat
  omega
theorem wrap_in {i : Int} (h0 : -9223372036854775808 ≤ i) (h1 : i ≤ 9223372036854775807) : wrap64 i = i := by unfold wrap64; omega
def At (ao : Option Addr) (j : Nat) : Prop := ∃ a, ao = some a ∧ j = a.block
theorem own_at {ao : Option Addr} {n cap j : Nat} (h : (Value.slice ao n cap).ownBlock = some j) : At ao j := by
  cases ao with
  | none => cases h
  | some a => exact ⟨a, rfl, by simpa [Value.ownBlock] using h.symm⟩
theorem at_own {ao : Option Addr} {n cap j : Nat} (h : At ao j) : (Value.slice ao n cap).ownBlock = some j := by
  obtain ⟨a, rfl, rfl⟩ := h
  rfl
theorem info3 : (Try.prog.info? 3).map (fun i => (i.zero, i.size, i.bytes)) = some (some (.int .i64 0), 1, 8) := by kernel_rfl
def ivs (zs : List Int) : List Value := zs.map fun v => Value.int .i64 v
theorem ivs_len (zs : List Int) : (ivs zs).length = zs.length := by simp [ivs]
/-- append of one thing to a row: what turns is the row's block -/
theorem wpList_more {t e m bytes : Nat} {z : Value} (ht : Try.prog.underlying t = some (.slice e)) (hinf : (Try.prog.info? e).map (fun i => (i.zero, i.size, i.bytes)) = some (some z, m, bytes)) (hz : z.cells.size = m) (hm : 0 < m) (w : World) {ops : Array Oper} {rest : List Oper} {o : Oper} {a : Act} {Q : Exit → Act → World → Prop} (hgd : o.guard = none) (s y : Operand)
    (ho : o.op = .call { callee := .builtin .append, args := #[s, y], argTypes := #[t, t] }) {B : Nat} {ro : Option Addr} {rc k : Nat} {xs : List Value} (hrow : w.ownsRow B e m (.slice ro k rc) k xs) (hl : Hid (k < 17592186044000)) (hby : bytes ≤ 8 ∨ (bytes ≤ 40 ∧ k < 3000000000000)) (hB : B ≤ w.heap.size) (cs : List Value) (hcl : cs.length = m) (h1 : ∀ u ∈ cs, u.oneCell' = true) (c : Nat) (hs : a.eval s = .slice ro k rc) (hx : a.eval y = .slice (some ⟨w.heap.size, 0, none⟩) 1 c)
    (hk : ∀ gg cap' w1, w1.ownsRow B e m (.slice (some ⟨gg, 0, none⟩) (k + 1) cap') (k + 1) (xs ++ cs) → Turn (At ro) w w1 → (At ro gg ∨ w.heap.size ≤ gg) → wpList Try.prog ops Q rest (a.put o.dst (.slice (some ⟨gg, 0, none⟩) (k + 1) cap')) w1) :
    wpList Try.prog ops Q (o :: rest) a (w.alloc (.cells cs.toArray e)) := by
  obtain ⟨i0, hi0, hz0, hz1, hz2⟩ := info_parts hinf
  have hbig : (k + 1) * bytes ≤ 140737488355328 := by
    have := hl.out
    rcases hby with h | ⟨h, h'⟩
    · exact Nat.le_trans (Nat.mul_le_mul_left _ h) (by omega)
    · exact Nat.le_trans (Nat.mul_le_mul_left _ h) (by omega)
  refine wpList_append_lies _ hgd s y t ho B e i0 _ m bytes ht hi0 hz0 hz1 hz2 hz hm _ k xs hs (World.ownsRow.alloc hrow _) ⟨w.heap.size, 0, none⟩ 1 c cs hx (by omega) (fun j u hj => World.news_of_block (heap_alloc_new w (.cells cs.toArray e)) j u (by simpa using hj)) h1 (by omega) (by have := hl.out; unfold maxLen; omega) hbig (by simp; omega) (w.heap.size + 1) (by simp) ?_
  intro gg cap' w1 hown1 hgrow hat hlt
  have t0 : Turn (At ro) w w1 := ((Turn.refl _ w).alloc _).grown hgrow (fun k hk _ => own_at hk)
  refine hk gg cap' w1 hown1 t0 ?_
  rcases hat with q | q
  · exact .inl (own_at q)
  · exact .inr (by omega)
/-- append of a number to a row of numbers -/
theorem wpList_num (w : World) {ops : Array Oper} {rest : List Oper} {o : Oper} {a : Act} {Q : Exit → Act → World → Prop} (hgd : o.guard = none) (s y : Operand)
    (ho : o.op = .call { callee := .builtin .append, args := #[s, y], argTypes := #[23, 23] }) {B : Nat} {ro : Option Addr} {rc : Nat} {zs : List Int} (hrow : w.ownsRow B 3 1 (.slice ro zs.length rc) zs.length (ivs zs)) (hl : Hid (zs.length < 17592186044000)) (hB : B ≤ w.heap.size) (v : Int) (c : Nat) (hs : a.eval s = .slice ro zs.length rc) (hx : a.eval y = .slice (some ⟨w.heap.size, 0, none⟩) 1 c)
    (hk : ∀ gg cap' w1, w1.ownsRow B 3 1 (.slice (some ⟨gg, 0, none⟩) (zs ++ [v]).length cap') (zs ++ [v]).length (ivs (zs ++ [v])) → Turn (At ro) w w1 → (At ro gg ∨ w.heap.size ≤ gg) → wpList Try.prog ops Q rest (a.put o.dst (.slice (some ⟨gg, 0, none⟩) (zs.length + 1) cap')) w1) :
    wpList Try.prog ops Q (o :: rest) a (w.alloc (.cells #[.int .i64 v] 3)) := by
  refine wpList_more (e := 3) (m := 1) Try.underlying23 info3 rfl (by omega) w hgd s y ho hrow hl (.inl (by omega)) hB [.int .i64 v] rfl (by simp [Value.oneCell']) c hs hx ?_
  intro gg cap' w1 h1 t1 hg
  refine hk gg cap' w1 ?_ t1 hg
  rw [List.length_append, ivs, List.map_append]
  simpa [ivs] using h1
theorem bel_drewN {B : Nat} {w w' : World} (h : Below B w w') (n : Nat) : Below B w (w'.drewN n) := h.trans ⟨rfl, rfl, rfl, Nat.le_refl _, fun _ _ => rfl⟩
/-- a row's cells -/
theorem row_cell {w : World} {B e size n cap g : Nat} {xs : List Value} (h : w.ownsRow B e size (.slice (some ⟨g, 0, none⟩) n cap) n xs) : ∀ j u, xs[j]? = some u → w.cell? ((⟨g, 0, none⟩ : Addr).add j) = some u := by
  intro j u hj
  have hlt := (List.getElem?_eq_some_iff.1 hj).1
  rw [h.1] at hlt
  have : (⟨g, 0, none⟩ : Addr).add j = ⟨g, j, none⟩ := by unfold Addr.add; split <;> simp_all
  rw [this, h.cellAt j hlt]
  exact hj
/-- a slice of numbers, wherever it lies -/
def Ints (w : World) (a : Option Addr) (zs : List Int) : Prop := zs = [] ∨ ∃ b off, a = some ⟨b, off, none⟩ ∧ b < w.heap.size ∧ ∀ j, j < zs.length → w.cell? ⟨b, off + j, none⟩ = some (.int .i64 (zs.getD j 0))
theorem Ints.of_row {w : World} {B : Nat} {ao : Option Addr} {cap : Nat} {zs : List Int} (h : w.ownsRow B 3 1 (.slice ao zs.length cap) zs.length (ivs zs)) : Ints w ao zs := by
  rcases h.2 with ⟨hv, h0⟩ | ⟨g, cap', cur, hv, hb, hg, rest⟩
  · exact .inl (List.length_eq_zero_iff.1 h0)
  · simp only [Value.slice.injEq] at hv
    obtain ⟨rfl, _, _⟩ := hv
    refine .inr ⟨g, 0, rfl, lt_of_heap hg, fun j hj => ?_⟩
    have := row_cell h j (.int .i64 (zs.getD j 0)) (by simp [ivs, List.getD, hj])
    have e : (⟨g, 0, none⟩ : Addr).add j = ⟨g, j, none⟩ := by unfold Addr.add; split <;> simp_all
    rw [e] at this
    rw [Nat.zero_add]
    exact this
theorem Ints.below {w w' : World} {a : Option Addr} {zs : List Int} (h : Ints w a zs) (b : Below w.heap.size w w') : Ints w' a zs := by
  rcases h with h | ⟨g, off, ha, hg, hc⟩
  · exact .inl h
  · exact .inr ⟨g, off, ha, Nat.lt_of_lt_of_le hg b.size, fun j hj => (b.cell (p := ⟨g, off + j, none⟩) hg).trans (hc j hj)⟩
theorem Ints.turn {S : Nat → Prop} {w w' : World} {a : Option Addr} {zs : List Int} (h : Ints w a zs) (t : Turn S w w') (hn : zs ≠ [] → ∀ j, At a j → ¬ S j) : Ints w' a zs := by
  rcases h with h | ⟨g, off, ha, hg, hc⟩
  · exact .inl h
  · by_cases h0 : zs = []
    · exact .inl h0
    · exact .inr ⟨g, off, ha, Nat.lt_of_lt_of_le hg t.size, fun j hj => (t.cell (p := ⟨g, off + j, none⟩) hg (hn h0 g ⟨_, ha, rfl⟩)).trans (hc j hj)⟩
end Go.Proofs.Ytjhnlmedmpcgoaa
