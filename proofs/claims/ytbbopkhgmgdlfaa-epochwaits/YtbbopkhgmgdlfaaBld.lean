import Derived.Test.YtbbopkhgmgdlfaaAlP
import Derived.Laws.Tables
set_option linter.unusedVariables false
set_option linter.unusedSimpArgs false
namespace Go.Proofs.Ytbbopkhgmgdlfaa
open Go.RowKit
namespace A
theorem b75a (k a v : Int) (w : World) : (Instr.build 75 #[(0, .int .i8 k), (1, .int .i64 a), (2, .int .i64 v), (4, .bool true)]).run Try.prog w = .ok (.agg #[.int .i8 k, .int .i64 a, .int .i64 v, .int .i64 0, .bool true]) w := run_build w 75 _ _ (by kernel_rfl)
theorem b75b (k a v o : Int) (w : World) : (Instr.build 75 #[(0, .int .i8 k), (1, .int .i64 a), (2, .int .i64 v), (3, .int .i64 o), (4, .bool true)]).run Try.prog w = .ok (.agg #[.int .i8 k, .int .i64 a, .int .i64 v, .int .i64 o, .bool true]) w := run_build w 75 _ _ (by kernel_rfl)
theorem s54a (k a v o : Int) (w : World) : (Instr.buildSlice 54 1 #[(0, .agg #[.int .i8 k, .int .i64 a, .int .i64 v, .int .i64 o, .bool true])]).run Try.prog w = .ok (.slice (some ⟨w.heap.size, 0, none⟩) 1 1) (w.alloc (.cells #[.int .i8 k, .int .i64 a, .int .i64 v, .int .i64 o, .bool true] 75)) := by
  simp [Instr.buildSlice, go_sem, Try.underlying54]
theorem s54b (k a v o k2 a2 v2 o2 : Int) (w : World) : (Instr.buildSlice 54 2 #[(0, .agg #[.int .i8 k, .int .i64 a, .int .i64 v, .int .i64 o, .bool true]), (1, .agg #[.int .i8 k2, .int .i64 a2, .int .i64 v2, .int .i64 o2, .bool true])]).run Try.prog w = .ok (.slice (some ⟨w.heap.size, 0, none⟩) 2 2) (w.alloc (.cells #[.int .i8 k, .int .i64 a, .int .i64 v, .int .i64 o, .bool true, .int .i8 k2, .int .i64 a2, .int .i64 v2, .int .i64 o2, .bool true] 75)) := by
  simp [Instr.buildSlice, go_sem, Try.underlying54]
theorem wp_bs2 {o : Oper} {a : Act} {w : World} {K : Act → World → Prop} {Q : Exit → Act → World → Prop} (s1 s2 : Operand) (ho : o.op = .buildSlice 54 2 #[(0, s1), (1, s2)]) (k a1 v o1 k2 a2 v2 o2 : Int)
    (h1 : a.eval s1 = .agg #[.int .i8 k, .int .i64 a1, .int .i64 v, .int .i64 o1, .bool true]) (h2 : a.eval s2 = .agg #[.int .i8 k2, .int .i64 a2, .int .i64 v2, .int .i64 o2, .bool true])
    (h : K (a.put o.dst (.slice (some ⟨w.heap.size, 0, none⟩) 2 2)) (w.alloc (.cells #[.int .i8 k, .int .i64 a1, .int .i64 v, .int .i64 o1, .bool true, .int .i8 k2, .int .i64 a2, .int .i64 v2, .int .i64 o2, .bool true] 75))) : o.wp Try.prog a w K Q := by
  unfold Oper.wp execOp
  simp only [ho]
  have e : (#[(0, s1), (1, s2)] : Array (Nat × Operand)).map (fun (i, x) => (i, a.eval x)) = #[(0, a.eval s1), (1, a.eval s2)] := by simp
  simp only [e, h1, h2, s54b, Sem.run_bind, Sem.run_pure, Result.andThen_ok]
  exact h
theorem wp_bs1 {o : Oper} {a : Act} {w : World} {K : Act → World → Prop} {Q : Exit → Act → World → Prop} (s1 : Operand) (ho : o.op = .buildSlice 54 1 #[(0, s1)]) (k a1 v o1 : Int)
    (h1 : a.eval s1 = .agg #[.int .i8 k, .int .i64 a1, .int .i64 v, .int .i64 o1, .bool true])
    (h : K (a.put o.dst (.slice (some ⟨w.heap.size, 0, none⟩) 1 1)) (w.alloc (.cells #[.int .i8 k, .int .i64 a1, .int .i64 v, .int .i64 o1, .bool true] 75))) : o.wp Try.prog a w K Q := by
  unfold Oper.wp execOp
  simp only [ho]
  have e : (#[(0, s1)] : Array (Nat × Operand)).map (fun (i, x) => (i, a.eval x)) = #[(0, a.eval s1)] := by simp
  simp only [e, h1, s54a, Sem.run_bind, Sem.run_pure, Result.andThen_ok]
  exact h
end A
end Go.Proofs.Ytbbopkhgmgdlfaa
