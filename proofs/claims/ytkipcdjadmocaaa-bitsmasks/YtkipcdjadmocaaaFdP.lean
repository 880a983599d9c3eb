import Derived.Test.YtkipcdjadmocaaaFoldP
import Derived.Deep.WholeRow
import Derived.Deep.MidRow
import Derived.Laws.Tables
set_option linter.unusedVariables false
set_option linter.unusedSimpArgs false
namespace Go.Proofs.Ytkipcdjadmocaaa
open Go.RowKit
namespace Fd
def Stay (p : Prop) : Prop := p
theorem stay_load {P : Program} {ops : Array Oper} {rest : List Oper} {o : Oper} {a : Act} {Q : Exit → Act → World → Prop} {w : World} (t : TypeId) (x : Operand) (ho : o.op = .load t x) (h : Stay (wpList P ops Q (o :: rest) a w)) : wpList P ops Q (o :: rest) a w := h
theorem stay_store {P : Program} {ops : Array Oper} {rest : List Oper} {o : Oper} {a : Act} {Q : Exit → Act → World → Prop} {w : World} (t : TypeId) (x y : Operand) (ho : o.op = .store t x y) (h : Stay (wpList P ops Q (o :: rest) a w)) : wpList P ops Q (o :: rest) a w := h
theorem stay_alloc {P : Program} {ops : Array Oper} {rest : List Oper} {o : Oper} {a : Act} {Q : Exit → Act → World → Prop} {w : World} (t : TypeId) (ho : o.op = .alloc t) (h : Stay (wpList P ops Q (o :: rest) a w)) : wpList P ops Q (o :: rest) a w := h
/-- a load of a whole block, at a guarded operation too -/
theorem wpList_load_w {P : Program} {ops : Array Oper} {rest : List Oper} {o : Oper} {a : Act} {w : World} {Q : Exit → Act → World → Prop} (hw : Region.wanted o (yielded ops a.tmps) = true) (ty : TypeId) (x : Operand) (ho : o.op = .load ty x)
    (g : Nat) (hx : a.eval x = .pointer (some ⟨g, 0, none⟩)) (t : TypeId) (cs : Array Value) (fr : Nat × Nat) (d : TypeDesc) (hg : w.heap[g]? = some (.cells cs t fr))
    (hu : P.underlying ty = some d) (hd : (match d with | .struct _ | .array _ _ => true | _ => false) = true) (hi : (P.info? ty).map (·.size) = some cs.size)
    (h : wpList P ops Q rest (a.put o.dst (.agg cs)) w) : wpList P ops Q (o :: rest) a w :=
  wpList_step fun K hK => by rw [if_pos hw]; exact wp_load_row ty x ho g hx t cs fr d hg hu hd hi (hK _ _ h)
/-- a new variable of an array's type -/
theorem wpList_alloc_row {P : Program} {ops : Array Oper} {rest : List Oper} {o : Oper} {a : Act} {w : World} {Q : Exit → Act → World → Prop} (hw : Region.wanted o (yielded ops a.tmps) = true) (t : TypeId) (ho : o.op = .alloc t) (Z : Array Value) (hz : (zeroValue t).run P w = .ok (.agg Z) w)
    (h : wpList P ops Q rest (a.put o.dst (.pointer (some ⟨w.heap.size, 0, none⟩))) (w.alloc (.cells Z t))) : wpList P ops Q (o :: rest) a w :=
  wpList_step fun K hK => by
    rw [if_pos hw]
    have e : (execOp a.eval o).run P w = .ok (.value (.pointer (some ⟨w.heap.size, 0, none⟩))) (w.alloc (.cells Z t)) := by
      unfold execOp
      simp only [ho, Instr.alloc, Sem.run_bind, hz, Result.andThen_ok]
      rfl
    unfold Oper.wp
    rw [e]
    exact hK _ _ h
theorem agg_size (a : Nat → Int) : (agg16 a).size = 16 := rfl
theorem zero41 (w : World) : (zeroValue 41).run Try.prog w = .ok (.agg (agg16 (fun _ => 0))) w := by kernel_rfl
theorem agg_at (a : Nat → Int) {j : Nat} (h : j < 16) : (agg16 a)[j]? = some (.int .i8 (a j)) := by
  rcases (by omega : j = 0 ∨ j = 1 ∨ j = 2 ∨ j = 3 ∨ j = 4 ∨ j = 5 ∨ j = 6 ∨ j = 7 ∨ j = 8 ∨ j = 9 ∨ j = 10 ∨ j = 11 ∨ j = 12 ∨ j = 13 ∨ j = 14 ∨ j = 15) with rfl | rfl | rfl | rfl | rfl | rfl | rfl | rfl | rfl | rfl | rfl | rfl | rfl | rfl | rfl | rfl <;> rfl
def upd (a : Nat → Int) (k : Nat) (v : Int) : Nat → Int := fun j => if j = k then v else a j
theorem agg_set (a : Nat → Int) {k : Nat} (h : k < 16) (v : Int) : (agg16 a).setIfInBounds k (.int .i8 v) = agg16 (upd a k v) := by
  apply Array.ext_getElem?
  intro j
  rw [Array.getElem?_setIfInBounds]
  by_cases hj : j < 16
  · rw [agg_at _ hj, agg_at _ hj]
    unfold upd
    by_cases e : k = j
    · subst e
      simp [agg_size, h]
    · rw [if_neg e, if_neg (fun q => e q.symm)]
  · have h1 : (agg16 a)[j]? = none := Array.getElem?_eq_none (by rw [agg_size]; omega)
    have h2 : (agg16 (upd a k v))[j]? = none := Array.getElem?_eq_none (by rw [agg_size]; omega)
    rw [h1, h2, if_neg (by omega)]
theorem agg_one (a : Nat → Int) : (agg16 a).all (·.oneCell') = true := by simp [agg16, Value.oneCell']
theorem eq16 (a : Nat → Int) (w : World) : (Op.equalIn 10000 41 (.agg (agg16 a)) (.agg (agg16 a))).run Try.prog w = .ok true w := eq_sixteen a w
theorem rfold (a : Nat → Int) (w : World) : Calls Try.prog 51 #[.agg (agg16 a)] w fun e w' => e = .returned (.int .u16 (mb (fun i => !decide (a i = 0)) : Nat)) ∧ Below w.heap.size w w' := rfold_any a w
/-- an array of sixteen in a block -/
def Bk (w : World) (b : Nat) (a : Nat → Int) : Prop := w.heap[b]? = some (.cells (agg16 a) 41 (0, 0))
theorem Bk.cell {w : World} {b : Nat} {a : Nat → Int} (h : Bk w b a) {j : Nat} (hj : j < 16) : w.cell? ⟨b, j, none⟩ = some (.int .i8 (a j)) := by rw [Lib.cell_of_heap h]; exact agg_at a hj
theorem Bk.lt {w : World} {b : Nat} {a : Nat → Int} (h : Bk w b a) : b < w.heap.size := (Array.getElem?_eq_some_iff.1 h).1
theorem Bk.below {w w' : World} {b : Nat} {a : Nat → Int} (h : Bk w b a) (t : Below w.heap.size w w') : Bk w' b a := (t.block b h.lt).trans h
theorem Bk.put {w : World} {b : Nat} {a : Nat → Int} (h : Bk w b a) {k : Nat} (hk : k < 16) (v : Int) : Bk (w.setCell ⟨b, k, none⟩ (.int .i8 v)) b (upd a k v) := by
  unfold Bk at *
  simp [World.setCell, Array.getElem?_modify, h, agg_set a hk v]
theorem fold {w : World} {b : Nat} {a : Nat → Int} (h : Bk w b a) : Calls Try.prog 35 #[.pointer (some ⟨b, 0, none⟩)] w fun e w' => e = .returned (.int .u16 (mb (fun i => !decide (a i = 0)) : Nat)) ∧ ∃ n, w' = w.drewN n := fold_any b a w (fun j hj => h.cell hj)
/-- written over -/
def ov (a : Nat → Int) : Nat → Int := fun i => if a i = 0 then (i : Int) - 20 else 0
end Fd
end Go.Proofs.Ytkipcdjadmocaaa
