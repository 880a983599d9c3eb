import Derived.Test.YtmcdifmbblbhgaaBof
import Derived.Deep.WholeRow
import Derived.Deep.MidRow
import Derived.Laws.Tables
set_option linter.unusedVariables false
set_option linter.unusedSimpArgs false
namespace Go.Proofs.Ytmcdifmbblbhgaa
open Go.RowKit Go.Maps
namespace V
open U D
theorem stay_load {P : Program} {ops : Array Oper} {rest : List Oper} {o : Oper} {a : Act} {Q : Exit → Act → World → Prop} {w : World} (t : TypeId) (x : Operand) (ho : o.op = .load t x) (h : Stay (wpList P ops Q (o :: rest) a w)) : wpList P ops Q (o :: rest) a w := h
theorem stay_store {P : Program} {ops : Array Oper} {rest : List Oper} {o : Oper} {a : Act} {Q : Exit → Act → World → Prop} {w : World} (t : TypeId) (x y : Operand) (ho : o.op = .store t x y) (h : Stay (wpList P ops Q (o :: rest) a w)) : wpList P ops Q (o :: rest) a w := h
theorem stay_alloc {P : Program} {ops : Array Oper} {rest : List Oper} {o : Oper} {a : Act} {Q : Exit → Act → World → Prop} {w : World} (t : TypeId) (ho : o.op = .alloc t) (h : Stay (wpList P ops Q (o :: rest) a w)) : wpList P ops Q (o :: rest) a w := h
theorem stay_index {P : Program} {ops : Array Oper} {rest : List Oper} {o : Oper} {a : Act} {Q : Exit → Act → World → Prop} {w : World} (t : TypeId) (x y : Operand) (ho : o.op = .index t x y) (h : Stay (wpList P ops Q (o :: rest) a w)) : wpList P ops Q (o :: rest) a w := h
/-- a load of a whole block, at a guarded operation too -/
theorem wpList_load_w {P : Program} {ops : Array Oper} {rest : List Oper} {o : Oper} {a : Act} {w : World} {Q : Exit → Act → World → Prop} (hw : Region.wanted o (yielded ops a.tmps) = true) (ty : TypeId) (x : Operand) (ho : o.op = .load ty x)
    (g : Nat) (hx : a.eval x = .pointer (some ⟨g, 0, none⟩)) (t : TypeId) (cs : Array Value) (fr : Nat × Nat) (d : TypeDesc) (hg : w.heap[g]? = some (.cells cs t fr))
    (hu : P.underlying ty = some d) (hd : (match d with | .struct _ | .array _ _ => true | _ => false) = true) (hi : (P.info? ty).map (·.size) = some cs.size)
    (h : wpList P ops Q rest (a.put o.dst (.agg cs)) w) : wpList P ops Q (o :: rest) a w :=
  wpList_step fun K hK => by rw [if_pos hw]; exact wp_load_row ty x ho g hx t cs fr d hg hu hd hi (hK _ _ h)
/-- a new variable of an array's type -/
theorem wpList_alloc_row {P : Program} {ops : Array Oper} {rest : List Oper} {o : Oper} {a : Act} {w : World} {Q : Exit → Act → World → Prop} (hw : Region.wanted o (yielded ops a.tmps) = true) (t : TypeId) (ho : o.op = .alloc t) (Z : Array Value) (hz : (zeroValue t).run P w = .ok (.agg Z) w)
    (h : wpList P ops Q rest (a.put o.dst (.pointer (some ⟨w.heap.size, 0, none⟩))) (w.alloc (.cells Z t))) : wpList P ops Q (o :: rest) a w :=
  wpList_step fun K hK => by
    rw [if_pos hw]
    have e : (execOp a.eval o).run P w = .ok (.value (.pointer (some ⟨w.heap.size, 0, none⟩))) (w.alloc (.cells Z t)) := by
      unfold execOp
      simp only [ho, Instr.alloc, Sem.run_bind, hz, Result.andThen_ok]
      rfl
    unfold Oper.wp
    rw [e]
    exact hK _ _ h
/-- a part of an array's value -/
theorem wpList_index_any {P : Program} {ops : Array Oper} {rest : List Oper} {o : Oper} {a : Act} {w : World} {Q : Exit → Act → World → Prop} (hw : Region.wanted o (yielded ops a.tmps) = true) (t : TypeId) (x y : Operand) (ho : o.op = .index t x y) (vx vy v : Value) (hx : a.eval x = vx) (hy : a.eval y = vy)
    (hr : (Instr.index t vx vy).run P w = .ok v w) (h : wpList P ops Q rest (a.put o.dst v) w) : wpList P ops Q (o :: rest) a w :=
  wpList_step fun K hK => by
    rw [if_pos hw]
    have e : (execOp a.eval o).run P w = .ok (.value v) w := by
      unfold execOp
      simp only [ho, hx, hy, Sem.run_bind, hr, Result.andThen_ok]
      rfl
    unfold Oper.wp
    rw [e]
    exact hK _ _ h
theorem size75 (w : World) : (sizeOf 75).run Try.prog w = .ok 64 w := by kernel_rfl
theorem size24 (w : World) : (sizeOf 24).run Try.prog w = .ok 1 w := by kernel_rfl
theorem agg75 (w : World) : (isAgg 75).run Try.prog w = .ok true w := by kernel_rfl
theorem agg24 (w : World) : (isAgg 24).run Try.prog w = .ok false w := by kernel_rfl
theorem index77 (w : World) (cs : Array Value) (i : Nat) (hlt : i < 64) : (Instr.index 77 (.agg cs) (.int .i64 (i : Int))).run Try.prog w = .ok (.agg (cs.extract (i * 64) (i * 64 + 64))) w := by
  have h1 : (0 : Int) ≤ (i : Int) ∧ (i : Int) < 64 := by omega
  simp [Instr.index, asIntOf, run_underlying Try.underlying77, h1, hlt, part, size75, agg75, Result.andThen]
theorem index75 (w : World) (cs : Array Value) (i : Nat) (hlt : i < 64) (v : Value) (hv : cs[i]? = some v) : (Instr.index 75 (.agg cs) (.int .i64 (i : Int))).run Try.prog w = .ok v w := by
  have h1 : (0 : Int) ≤ (i : Int) ∧ (i : Int) < 64 := by omega
  simp [Instr.index, asIntOf, run_underlying Try.underlying75, h1, hlt, part, size24, agg24, hv, Result.andThen]
/-- the cells of a table -/
def tab (n : Nat) (g : Nat → Nat) : Array Value := Array.ofFn (n := n) fun i => Value.int .u16 (g i.1 : Int)
theorem tab_size (n : Nat) (g : Nat → Nat) : (tab n g).size = n := Array.size_ofFn
theorem tab_at (n : Nat) (g : Nat → Nat) (i : Nat) (h : i < n) : (tab n g)[i]? = some (.int .u16 (g i : Int)) := by
  unfold tab
  rw [Array.getElem?_ofFn, dif_pos h]
theorem tab_congr {n : Nat} {g h : Nat → Nat} (e : ∀ i, i < n → g i = h i) : tab n g = tab n h := by
  unfold tab
  apply Array.ext
  · simp
  · intro i h1 h2
    simp
    rw [e i (by simpa using h1)]
theorem tab_zero (n : Nat) : tab n (fun _ => 0) = Array.replicate n (.int .u16 0) := by
  apply Array.ext
  · simp [tab]
  · intro i h1 h2; simp [tab]
theorem tab_one (n : Nat) (g : Nat → Nat) : (tab n g).all (·.oneCell') = true := by
  rw [Array.all_eq_true]
  intro i h
  simp [tab, Value.oneCell']
theorem tab_set (n : Nat) (g : Nat → Nat) (p x : Nat) : (tab n g).setIfInBounds p (.int .u16 (x : Int)) = tab n (fun k => if k = p then x else g k) := by
  apply Array.ext_getElem?
  intro i
  rw [Array.getElem?_setIfInBounds, tab_size]
  by_cases hin : i < n
  · rw [tab_at n (fun k => if k = p then x else g k) i hin]
    by_cases e : p = i
    · subst e; simp [hin]
    · rw [if_neg e, tab_at n _ i hin, if_neg (Ne.symm e)]
  · have q : ∀ g, (tab n g)[i]? = none := fun g => Array.getElem?_eq_none (by rw [tab_size]; omega)
    rw [q, q]
    by_cases e : p = i
    · subst e; simp [hin]
    · rw [if_neg e]
theorem tab_row (g : Nat → Nat) (i : Nat) (hi : i < 64) : (tab 4096 g).extract (i * 64) (i * 64 + 64) = tab 64 (fun j => g (i * 64 + j)) := by
  apply Array.ext
  · simp [tab]; omega
  · intro j h1 h2
    simp [tab]
set_option maxRecDepth 1000000 in
theorem zero77r (w : World) : (zeroValue 77).run Try.prog w = .ok (.agg (Array.replicate 4096 (.int .u16 0))) w := by kernel_rfl
theorem zero77 (w : World) : (zeroValue 77).run Try.prog w = .ok (.agg (tab 4096 fun _ => 0)) w := by rw [tab_zero]; exact zero77r w
set_option maxRecDepth 1000000 in
theorem zero75r (w : World) : (zeroValue 75).run Try.prog w = .ok (.agg (Array.replicate 64 (.int .u16 0))) w := by kernel_rfl
theorem zero75 (w : World) : (zeroValue 75).run Try.prog w = .ok (.agg (tab 64 fun _ => 0)) w := by rw [tab_zero]; exact zero75r w
theorem isz77 (g : Nat → Nat) : (Try.prog.info? 77).map (·.size) = some (tab 4096 g).size := by rw [tab_size]; kernel_rfl
theorem isz75 (g : Nat → Nat) : (Try.prog.info? 75).map (·.size) = some (tab 64 g).size := by rw [tab_size]; kernel_rfl
end V
end Go.Proofs.Ytmcdifmbblbhgaa
