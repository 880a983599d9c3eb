import Derived.Test.YtbgjggblaeadlaaWhU
import Derived.Deep.RegionHeld3
import Derived.Deep.CutBlock
import Derived.Deep.DeepCutAuto
import Derived.Stop.RegionWithIn
set_option linter.unusedVariables false
set_option linter.unusedSimpArgs false
namespace Go.Proofs.Ytbgjggblaeadlaa
open Go.RowKit
attribute [local go_sem] Oper.semAt_some
namespace X
open C F A
set_option maxRecDepth 100000 in
set_option maxHeartbeats 4000000 in
theorem reg33a {sa ra : Option Addr} {k sc M gc L rp x9 g : Nat} {D} {t1 t2 t3 t4 t5 t6 t7 t8 t10 t11 t12 t13 t15 t16 t17 t18 t19 t20 t21 t22 t23 t24 t25 t26 t27 t28 t29 t30 t31 t32 t33 t34 t35 t36 t37 t38 t39 t40 t41 t42 t43 t44 t45 t46 t47 t48 t49 t50 t51 t52 t53 t54 t55 t56 t57 t58 t59 t60 t61 t62 t63 t64 t65 t66 t67 t68 t69 t70 t71 t72 t73 t74 t75 t76 t77 t78 t79 t80 t81 t82 t83 t84 t85 t86 t87 t88 t89 t90 t91 t92 t93 t94 t95 t96 t97 t98 t99 t100 t101 t102 t103 t104 t105 t106 t107 t108 t109 t110 t111 t112 t113 t114 t115 t116 t117 t118 t119 t120 t121 t122 t123 t124 t125 t126 t127 : Value} {Q : Exit → Act → World → Prop} {w : World} (h0 : (0 : Int) < (M : Int)) (l9 : x9 < w.heap.size) (lg : g < w.heap.size) (c9 : w.cell? ⟨x9, 0, none⟩ = some (.slice (some ⟨g, 0, none⟩) M gc)) (cq : w.cell? ⟨g, 0, none⟩ = some (.slice ra L rp))
    (CE : ∀ W, Below w.heap.size w W → Calls Try.prog 38 #[.slice sa k sc, .slice ra L rp] W fun e w' => e = .returned (.bool true) ∧ Below W.heap.size W w')
    (hQ : ∀ w8, Below w.heap.size w w8 → Q .normal { tmps := #[.slice sa k sc, t1, t2, t3, t4, t5, t6, t7, t8, .pointer (some ⟨x9, 0, none⟩), t10, t11, t12, t13, .int .i64 0, t15, t16, t17, t18, t19, t20, t21, t22, t23, t24, t25, t26, t27, t28, t29, t30, t31, t32, t33, t34, t35, t36, t37, t38, t39, t40, t41, t42, t43, t44, t45, t46, t47, t48, t49, t50, t51, t52, t53, t54, t55, t56, t57, t58, t59, t60, t61, t62, t63, t64, t65, t66, t67, t68, t69, t70, t71, t72, t73, t74, t75, t76, t77, t78, t79, t80, t81, t82, t83, t84, t85, t86, t87, t88, t89, t90, t91, t92, t93, t94, t95, t96, t97, t98, t99, t100, t101, t102, t103, .int .i64 0, .bool false, .bool false, undef, undef, undef, undef, undef, undef, undef, undef, undef, undef, undef, .bool false, .bool false, .slice sa k sc, .slice (some ⟨g, 0, none⟩) M gc, .int .i64 0, .pointer (some ⟨g, 0, none⟩), .slice ra L rp, .bool true, .bool false, .bool false], defers := D } w8) :
    (Code.region 33 #[{ dst := some 104, op := Op.move (Operand.tmp 14), type := 3, pos := "outright.go:199", after := #[], guard := none },
    { dst := some 105, op := Op.binOp BinOp.gtr 3 (Operand.tmp 104) (Operand.const (Value.int IntKind.i64 0)) 3, type := 4, pos := "outright.go:199", after := #[{ on := 0, ground := Ground.data }], guard := none },
    { dst := some 106, op := Op.move (Operand.tmp 105), type := 4, pos := "outright.go:199", after := #[{ on := 1, ground := Ground.data }], guard := none },
    { dst := some 107, op := Op.load 31 (Operand.tmp 9), type := 31, pos := "outright.go:199", after := #[{ on := 2, ground := Ground.guard }], guard := some (2, true) },
    { dst := some 108, op := Op.move (Operand.tmp 14), type := 3, pos := "outright.go:199", after := #[{ on := 2, ground := Ground.guard }], guard := some (2, true) },
    { dst := some 109, op := Op.binOp BinOp.sub 3 (Operand.tmp 108) (Operand.const (Value.int IntKind.i64 1)) 3, type := 3, pos := "outright.go:199", after := #[{ on := 4, ground := Ground.data }, { on := 2, ground := Ground.guard }], guard := some (2, true) },
    { dst := some 110, op := Op.indexAddr 31 (Operand.tmp 107) (Operand.tmp 109), type := 0, pos := "outright.go:199", after := #[{ on := 3, ground := Ground.data }, { on := 5, ground := Ground.data }, { on := 2, ground := Ground.guard }], guard := some (2, true) },
    { dst := some 111, op := Op.load 23 (Operand.tmp 110), type := 23, pos := "outright.go:199", after := #[{ on := 6, ground := Ground.data }, { on := 2, ground := Ground.guard }], guard := some (2, true) },
    { dst := some 112, op := Op.load 31 (Operand.tmp 9), type := 31, pos := "outright.go:199", after := #[{ on := 2, ground := Ground.guard }], guard := some (2, true) },
    { dst := some 113, op := Op.move (Operand.tmp 14), type := 3, pos := "outright.go:199", after := #[{ on := 2, ground := Ground.guard }], guard := some (2, true) },
    { dst := some 114, op := Op.indexAddr 31 (Operand.tmp 112) (Operand.tmp 113), type := 0, pos := "outright.go:199", after := #[{ on := 8, ground := Ground.data }, { on := 9, ground := Ground.data }, { on := 2, ground := Ground.guard }], guard := some (2, true) },
    { dst := some 115, op := Op.load 23 (Operand.tmp 114), type := 23, pos := "outright.go:199", after := #[{ on := 10, ground := Ground.data }, { on := 2, ground := Ground.guard }], guard := some (2, true) },
    { dst := some 116, op := Op.call { callee := Callee.value (Operand.func 39), args := #[Operand.tmp 111, Operand.tmp 115], argTypes := #[23, 23] }, type := 4, pos := "outright.go:199", after := #[{ on := 7, ground := Ground.data }, { on := 11, ground := Ground.data }, { on := 2, ground := Ground.chain }, { on := 2, ground := Ground.guard }], guard := some (2, true) },
    { dst := some 117, op := Op.unOp UnOp.not 4 (Operand.tmp 116), type := 4, pos := "outright.go:199", after := #[{ on := 12, ground := Ground.data }, { on := 2, ground := Ground.guard }], guard := some (2, true) },
    { dst := some 118, op := Op.pick (Operand.tmp 106) (Operand.tmp 117) (Operand.const (Value.bool false)), type := 4, pos := "outright.go:199", after := #[{ on := 2, ground := Ground.data }, { on := 13, ground := Ground.data }], guard := none },
    { dst := some 119, op := Op.move (Operand.tmp 118), type := 4, pos := "outright.go:199", after := #[{ on := 14, ground := Ground.data }, { on := 12, ground := Ground.chain }], guard := none },
    { dst := some 120, op := Op.move (Operand.tmp 0), type := 23, pos := "outright.go:199", after := #[{ on := 15, ground := Ground.guard }], guard := some (15, false) },
    { dst := some 121, op := Op.load 31 (Operand.tmp 9), type := 31, pos := "outright.go:199", after := #[{ on := 15, ground := Ground.guard }], guard := some (15, false) },
    { dst := some 122, op := Op.move (Operand.tmp 14), type := 3, pos := "outright.go:199", after := #[{ on := 15, ground := Ground.guard }], guard := some (15, false) },
    { dst := some 123, op := Op.indexAddr 31 (Operand.tmp 121) (Operand.tmp 122), type := 0, pos := "outright.go:199", after := #[{ on := 17, ground := Ground.data }, { on := 18, ground := Ground.data }, { on := 15, ground := Ground.guard }], guard := some (15, false) },
    { dst := some 124, op := Op.load 23 (Operand.tmp 123), type := 23, pos := "outright.go:199", after := #[{ on := 19, ground := Ground.data }, { on := 15, ground := Ground.guard }], guard := some (15, false) },
    { dst := some 125, op := Op.call { callee := Callee.value (Operand.func 38), args := #[Operand.tmp 120, Operand.tmp 124], argTypes := #[23, 23] }, type := 4, pos := "outright.go:199", after := #[{ on := 16, ground := Ground.data }, { on := 20, ground := Ground.data }, { on := 15, ground := Ground.chain }, { on := 15, ground := Ground.guard }], guard := some (15, false) },
    { dst := some 126, op := Op.unOp UnOp.not 4 (Operand.tmp 125), type := 4, pos := "outright.go:199", after := #[{ on := 21, ground := Ground.data }, { on := 15, ground := Ground.guard }], guard := some (15, false) },
    { dst := some 127, op := Op.pick (Operand.tmp 119) (Operand.const (Value.bool true)) (Operand.tmp 126), type := 4, pos := "outright.go:199", after := #[{ on := 15, ground := Ground.data }, { on := 22, ground := Ground.data }], guard := none }] true).wp Try.prog Q { tmps := #[.slice sa k sc, t1, t2, t3, t4, t5, t6, t7, t8, .pointer (some ⟨x9, 0, none⟩), t10, t11, t12, t13, .int .i64 0, t15, t16, t17, t18, t19, t20, t21, t22, t23, t24, t25, t26, t27, t28, t29, t30, t31, t32, t33, t34, t35, t36, t37, t38, t39, t40, t41, t42, t43, t44, t45, t46, t47, t48, t49, t50, t51, t52, t53, t54, t55, t56, t57, t58, t59, t60, t61, t62, t63, t64, t65, t66, t67, t68, t69, t70, t71, t72, t73, t74, t75, t76, t77, t78, t79, t80, t81, t82, t83, t84, t85, t86, t87, t88, t89, t90, t91, t92, t93, t94, t95, t96, t97, t98, t99, t100, t101, t102, t103, t104, t105, t106, t107, t108, t109, t110, t111, t112, t113, t114, t115, t116, t117, t118, t119, t120, t121, t122, t123, t124, t125, t126, t127], defers := D } w := by
  refine wp_region_noPanic ?_
  refine wp_region_held_drew (S := fun w' => w'.cell? ⟨x9, 0, none⟩ = some (.slice (some ⟨g, 0, none⟩) M gc) ∧ w'.cell? ⟨g, 0, none⟩ = some (.slice ra L rp)) (by kernel_rfl) ⟨c9, cq⟩ (fun hHeld => ?_)
  refine wpAnyH_take (i := 0) (oi := { dst := some 104, op := Op.move (Operand.tmp 14), type := 3, pos := "outright.go:199", after := #[], guard := none }) (v := .int .i64 0) rfl (by kernel_rfl) (by kernel_rfl) (by kernel_rfl) (fun _ _ _ h => h) (Or.inl ⟨by kernel_rfl, fun w hSw => ?_⟩) (by assumption) ?_
  · dsimp only at hSw; go_simp
  (try simp only [Act.put, List.setIfInBounds_toArray, List.set_cons_zero, List.set_cons_succ])
  refine wpAnyH_take (i := 1) (oi := { dst := some 105, op := Op.binOp BinOp.gtr 3 (Operand.tmp 104) (Operand.const (Value.int IntKind.i64 0)) 3, type := 4, pos := "outright.go:199", after := #[{ on := 0, ground := Ground.data }], guard := none }) (v := .bool false) rfl (by kernel_rfl) (by kernel_rfl) (by kernel_rfl) (fun _ _ _ h => h) (Or.inl ⟨by kernel_rfl, fun w hSw => ?_⟩) (by assumption) ?_
  · dsimp only at hSw; go_simp
  (try simp only [Act.put, List.setIfInBounds_toArray, List.set_cons_zero, List.set_cons_succ])
  refine wpAnyH_take (i := 2) (oi := { dst := some 106, op := Op.move (Operand.tmp 105), type := 4, pos := "outright.go:199", after := #[{ on := 1, ground := Ground.data }], guard := none }) (v := .bool false) rfl (by kernel_rfl) (by kernel_rfl) (by kernel_rfl) (fun _ _ _ h => h) (Or.inl ⟨by kernel_rfl, fun w hSw => ?_⟩) (by assumption) ?_
  · dsimp only at hSw; go_simp
  (try simp only [Act.put, List.setIfInBounds_toArray, List.set_cons_zero, List.set_cons_succ])
  refine wpAnyH_take (i := 3) (oi := { dst := some 107, op := Op.load 31 (Operand.tmp 9), type := 31, pos := "outright.go:199", after := #[{ on := 2, ground := Ground.guard }], guard := some (2, true) }) (v := undef) rfl (by kernel_rfl) (by kernel_rfl) (by kernel_rfl) (fun _ _ _ h => h) (Or.inr ⟨by kernel_rfl, rfl⟩) (by assumption) ?_
  (try simp only [Act.put, List.setIfInBounds_toArray, List.set_cons_zero, List.set_cons_succ])
  refine wpAnyH_take (i := 4) (oi := { dst := some 108, op := Op.move (Operand.tmp 14), type := 3, pos := "outright.go:199", after := #[{ on := 2, ground := Ground.guard }], guard := some (2, true) }) (v := undef) rfl (by kernel_rfl) (by kernel_rfl) (by kernel_rfl) (fun _ _ _ h => h) (Or.inr ⟨by kernel_rfl, rfl⟩) (by assumption) ?_
  (try simp only [Act.put, List.setIfInBounds_toArray, List.set_cons_zero, List.set_cons_succ])
  refine wpAnyH_take (i := 5) (oi := { dst := some 109, op := Op.binOp BinOp.sub 3 (Operand.tmp 108) (Operand.const (Value.int IntKind.i64 1)) 3, type := 3, pos := "outright.go:199", after := #[{ on := 4, ground := Ground.data }, { on := 2, ground := Ground.guard }], guard := some (2, true) }) (v := undef) rfl (by kernel_rfl) (by kernel_rfl) (by kernel_rfl) (fun _ _ _ h => h) (Or.inr ⟨by kernel_rfl, rfl⟩) (by assumption) ?_
  (try simp only [Act.put, List.setIfInBounds_toArray, List.set_cons_zero, List.set_cons_succ])
  refine wpAnyH_take (i := 6) (oi := { dst := some 110, op := Op.indexAddr 31 (Operand.tmp 107) (Operand.tmp 109), type := 0, pos := "outright.go:199", after := #[{ on := 3, ground := Ground.data }, { on := 5, ground := Ground.data }, { on := 2, ground := Ground.guard }], guard := some (2, true) }) (v := undef) rfl (by kernel_rfl) (by kernel_rfl) (by kernel_rfl) (fun _ _ _ h => h) (Or.inr ⟨by kernel_rfl, rfl⟩) (by assumption) ?_
  (try simp only [Act.put, List.setIfInBounds_toArray, List.set_cons_zero, List.set_cons_succ])
  refine wpAnyH_take (i := 7) (oi := { dst := some 111, op := Op.load 23 (Operand.tmp 110), type := 23, pos := "outright.go:199", after := #[{ on := 6, ground := Ground.data }, { on := 2, ground := Ground.guard }], guard := some (2, true) }) (v := undef) rfl (by kernel_rfl) (by kernel_rfl) (by kernel_rfl) (fun _ _ _ h => h) (Or.inr ⟨by kernel_rfl, rfl⟩) (by assumption) ?_
  (try simp only [Act.put, List.setIfInBounds_toArray, List.set_cons_zero, List.set_cons_succ])
  refine wpAnyH_take (i := 8) (oi := { dst := some 112, op := Op.load 31 (Operand.tmp 9), type := 31, pos := "outright.go:199", after := #[{ on := 2, ground := Ground.guard }], guard := some (2, true) }) (v := undef) rfl (by kernel_rfl) (by kernel_rfl) (by kernel_rfl) (fun _ _ _ h => h) (Or.inr ⟨by kernel_rfl, rfl⟩) (by assumption) ?_
  (try simp only [Act.put, List.setIfInBounds_toArray, List.set_cons_zero, List.set_cons_succ])
  refine wpAnyH_take (i := 9) (oi := { dst := some 113, op := Op.move (Operand.tmp 14), type := 3, pos := "outright.go:199", after := #[{ on := 2, ground := Ground.guard }], guard := some (2, true) }) (v := undef) rfl (by kernel_rfl) (by kernel_rfl) (by kernel_rfl) (fun _ _ _ h => h) (Or.inr ⟨by kernel_rfl, rfl⟩) (by assumption) ?_
  (try simp only [Act.put, List.setIfInBounds_toArray, List.set_cons_zero, List.set_cons_succ])
  refine wpAnyH_take (i := 10) (oi := { dst := some 114, op := Op.indexAddr 31 (Operand.tmp 112) (Operand.tmp 113), type := 0, pos := "outright.go:199", after := #[{ on := 8, ground := Ground.data }, { on := 9, ground := Ground.data }, { on := 2, ground := Ground.guard }], guard := some (2, true) }) (v := undef) rfl (by kernel_rfl) (by kernel_rfl) (by kernel_rfl) (fun _ _ _ h => h) (Or.inr ⟨by kernel_rfl, rfl⟩) (by assumption) ?_
  (try simp only [Act.put, List.setIfInBounds_toArray, List.set_cons_zero, List.set_cons_succ])
  refine wpAnyH_take (i := 11) (oi := { dst := some 115, op := Op.load 23 (Operand.tmp 114), type := 23, pos := "outright.go:199", after := #[{ on := 10, ground := Ground.data }, { on := 2, ground := Ground.guard }], guard := some (2, true) }) (v := undef) rfl (by kernel_rfl) (by kernel_rfl) (by kernel_rfl) (fun _ _ _ h => h) (Or.inr ⟨by kernel_rfl, rfl⟩) (by assumption) ?_
  (try simp only [Act.put, List.setIfInBounds_toArray, List.set_cons_zero, List.set_cons_succ])
  refine wpAnyH_take (i := 12) (oi := { dst := some 116, op := Op.call { callee := Callee.value (Operand.func 39), args := #[Operand.tmp 111, Operand.tmp 115], argTypes := #[23, 23] }, type := 4, pos := "outright.go:199", after := #[{ on := 7, ground := Ground.data }, { on := 11, ground := Ground.data }, { on := 2, ground := Ground.chain }, { on := 2, ground := Ground.guard }], guard := some (2, true) }) (v := undef) rfl (by kernel_rfl) (by kernel_rfl) (by kernel_rfl) (fun _ _ _ h => h) (Or.inr ⟨by kernel_rfl, rfl⟩) (by assumption) ?_
  (try simp only [Act.put, List.setIfInBounds_toArray, List.set_cons_zero, List.set_cons_succ])
  refine wpAnyH_take (i := 13) (oi := { dst := some 117, op := Op.unOp UnOp.not 4 (Operand.tmp 116), type := 4, pos := "outright.go:199", after := #[{ on := 12, ground := Ground.data }, { on := 2, ground := Ground.guard }], guard := some (2, true) }) (v := undef) rfl (by kernel_rfl) (by kernel_rfl) (by kernel_rfl) (fun _ _ _ h => h) (Or.inr ⟨by kernel_rfl, rfl⟩) (by assumption) ?_
  (try simp only [Act.put, List.setIfInBounds_toArray, List.set_cons_zero, List.set_cons_succ])
  refine wpAnyH_take (i := 14) (oi := { dst := some 118, op := Op.pick (Operand.tmp 106) (Operand.tmp 117) (Operand.const (Value.bool false)), type := 4, pos := "outright.go:199", after := #[{ on := 2, ground := Ground.data }, { on := 13, ground := Ground.data }], guard := none }) (v := .bool false) rfl (by kernel_rfl) (by kernel_rfl) (by kernel_rfl) (fun _ _ _ h => h) (Or.inl ⟨by kernel_rfl, fun w hSw => ?_⟩) (by assumption) ?_
  · dsimp only at hSw; go_simp
  (try simp only [Act.put, List.setIfInBounds_toArray, List.set_cons_zero, List.set_cons_succ])
  refine wpAnyH_take (i := 15) (oi := { dst := some 119, op := Op.move (Operand.tmp 118), type := 4, pos := "outright.go:199", after := #[{ on := 14, ground := Ground.data }, { on := 12, ground := Ground.chain }], guard := none }) (v := .bool false) rfl (by kernel_rfl) (by kernel_rfl) (by kernel_rfl) (fun _ _ _ h => h) (Or.inl ⟨by kernel_rfl, fun w hSw => ?_⟩) (by assumption) ?_
  · dsimp only at hSw; go_simp
  (try simp only [Act.put, List.setIfInBounds_toArray, List.set_cons_zero, List.set_cons_succ])
  refine wpAnyH_take (i := 16) (oi := { dst := some 120, op := Op.move (Operand.tmp 0), type := 23, pos := "outright.go:199", after := #[{ on := 15, ground := Ground.guard }], guard := some (15, false) }) (v := .slice sa k sc) rfl (by kernel_rfl) (by kernel_rfl) (by kernel_rfl) (fun _ _ _ h => h) (Or.inl ⟨by kernel_rfl, fun w hSw => ?_⟩) (by assumption) ?_
  · dsimp only at hSw; go_simp
  (try simp only [Act.put, List.setIfInBounds_toArray, List.set_cons_zero, List.set_cons_succ])
  refine wpAnyH_take (i := 17) (oi := { dst := some 121, op := Op.load 31 (Operand.tmp 9), type := 31, pos := "outright.go:199", after := #[{ on := 15, ground := Ground.guard }], guard := some (15, false) }) (v := .slice (some ⟨g, 0, none⟩) M gc) rfl (by kernel_rfl) (by kernel_rfl) (by kernel_rfl) (fun _ _ _ h => h) (Or.inl ⟨by kernel_rfl, fun w hSw => ?_⟩) (by assumption) ?_
  · dsimp only at hSw; go_simp
  (try simp only [Act.put, List.setIfInBounds_toArray, List.set_cons_zero, List.set_cons_succ])
  refine wpAnyH_take (i := 18) (oi := { dst := some 122, op := Op.move (Operand.tmp 14), type := 3, pos := "outright.go:199", after := #[{ on := 15, ground := Ground.guard }], guard := some (15, false) }) (v := .int .i64 0) rfl (by kernel_rfl) (by kernel_rfl) (by kernel_rfl) (fun _ _ _ h => h) (Or.inl ⟨by kernel_rfl, fun w hSw => ?_⟩) (by assumption) ?_
  · dsimp only at hSw; go_simp
  (try simp only [Act.put, List.setIfInBounds_toArray, List.set_cons_zero, List.set_cons_succ])
  refine wpAnyH_take (i := 19) (oi := { dst := some 123, op := Op.indexAddr 31 (Operand.tmp 121) (Operand.tmp 122), type := 0, pos := "outright.go:199", after := #[{ on := 17, ground := Ground.data }, { on := 18, ground := Ground.data }, { on := 15, ground := Ground.guard }], guard := some (15, false) }) (v := .pointer (some ⟨g, 0, none⟩)) rfl (by kernel_rfl) (by kernel_rfl) (by kernel_rfl) (fun _ _ _ h => h) (Or.inl ⟨by kernel_rfl, fun w hSw => ?_⟩) (by assumption) ?_
  · dsimp only at hSw; go_simp; all_goals (first | exact fun e => absurd e (by omega) | omega)
  (try simp only [Act.put, List.setIfInBounds_toArray, List.set_cons_zero, List.set_cons_succ])
  refine wpAnyH_take (i := 20) (oi := { dst := some 124, op := Op.load 23 (Operand.tmp 123), type := 23, pos := "outright.go:199", after := #[{ on := 19, ground := Ground.data }, { on := 15, ground := Ground.guard }], guard := some (15, false) }) (v := .slice ra L rp) rfl (by kernel_rfl) (by kernel_rfl) (by kernel_rfl) (fun _ _ _ h => h) (Or.inl ⟨by kernel_rfl, fun w hSw => ?_⟩) (by assumption) ?_
  · dsimp only at hSw; go_simp
  (try simp only [Act.put, List.setIfInBounds_toArray, List.set_cons_zero, List.set_cons_succ])
  refine wpAnyH_ready (rs := [21]) (by kernel_rfl) (by simp) ?_
  refine AllReadyH.cons (o := { dst := some 125, op := Op.call { callee := Callee.value (Operand.func 38), args := #[Operand.tmp 120, Operand.tmp 124], argTypes := #[23, 23] }, type := 4, pos := "outright.go:199", after := #[{ on := 16, ground := Ground.data }, { on := 20, ground := Ground.data }, { on := 15, ground := Ground.chain }, { on := 15, ground := Ground.guard }], guard := some (15, false) }) rfl (fun K hK => ?_) AllReadyH.nil
  rw [if_pos (by kernel_rfl)]
  go_wp2_with fail
  refine (CE _ (Below.refl _ _).drew).mono ?_
  rintro e w8 ⟨rfl, b8⟩
  have kB : Below w.heap.size w w8 := (Below.refl _ _).drew.trans b8
  have k9 := (kB.cell (p := ⟨x9, 0, none⟩) l9).trans c9
  have kq := (kB.cell (p := ⟨g, 0, none⟩) lg).trans cq
  go_wp2_with fail
  refine hK.out _ _ (⟨k9, kq⟩) (fun hHeld => ?_)
  clear hK K
  (try simp only [Act.put, List.setIfInBounds_toArray, List.set_cons_zero, List.set_cons_succ])
  refine wpAnyH_take (i := 22) (oi := { dst := some 126, op := Op.unOp UnOp.not 4 (Operand.tmp 125), type := 4, pos := "outright.go:199", after := #[{ on := 21, ground := Ground.data }, { on := 15, ground := Ground.guard }], guard := some (15, false) }) (v := .bool false) rfl (by kernel_rfl) (by kernel_rfl) (by kernel_rfl) (fun _ _ _ h => h) (Or.inl ⟨by kernel_rfl, fun w hSw => ?_⟩) (by assumption) ?_
  · dsimp only at hSw; go_simp
  (try simp only [Act.put, List.setIfInBounds_toArray, List.set_cons_zero, List.set_cons_succ])
  refine wpAnyH_take (i := 23) (oi := { dst := some 127, op := Op.pick (Operand.tmp 119) (Operand.const (Value.bool true)) (Operand.tmp 126), type := 4, pos := "outright.go:199", after := #[{ on := 15, ground := Ground.data }, { on := 22, ground := Ground.data }], guard := none }) (v := .bool false) rfl (by kernel_rfl) (by kernel_rfl) (by kernel_rfl) (fun _ _ _ h => h) (Or.inl ⟨by kernel_rfl, fun w hSw => ?_⟩) (by assumption) ?_
  · dsimp only at hSw; go_simp
  (try simp only [Act.put, List.setIfInBounds_toArray, List.set_cons_zero, List.set_cons_succ])
  refine wpAnyH_done (by kernel_rfl) ?_ _
  exact NoPanic.normal (hQ w8 kB)
set_option maxRecDepth 100000 in
set_option maxHeartbeats 4000000 in
theorem reg33b {sa ra ra' : Option Addr} {k sc M gc L rp L' rp' x9 g p q : Nat} {D} {t1 t2 t3 t4 t5 t6 t7 t8 t10 t11 t12 t13 t15 t16 t17 t18 t19 t20 t21 t22 t23 t24 t25 t26 t27 t28 t29 t30 t31 t32 t33 t34 t35 t36 t37 t38 t39 t40 t41 t42 t43 t44 t45 t46 t47 t48 t49 t50 t51 t52 t53 t54 t55 t56 t57 t58 t59 t60 t61 t62 t63 t64 t65 t66 t67 t68 t69 t70 t71 t72 t73 t74 t75 t76 t77 t78 t79 t80 t81 t82 t83 t84 t85 t86 t87 t88 t89 t90 t91 t92 t93 t94 t95 t96 t97 t98 t99 t100 t101 t102 t103 t104 t105 t106 t107 t108 t109 t110 t111 t112 t113 t114 t115 t116 t117 t118 t119 t120 t121 t122 t123 t124 t125 t126 t127 : Value} {Q : Exit → Act → World → Prop} {w : World} (hlt : (q : Int) < (M : Int)) (hq1 : (0 : Int) < (q : Int)) (e5 : (q : Int) - 1 = (p : Int)) (e6 : (0 : Int) ≤ (p : Int)) (e7 : wrap64 (p : Int) = (p : Int)) (e8 : IntKind.wrap .i64 (p : Int) = (p : Int)) (e9 : (p : Int) < (M : Int)) (hqM : q < M) (hpM : p < M) (hq0 : 0 < q) (l9 : x9 < w.heap.size) (lg : g < w.heap.size) (c9 : w.cell? ⟨x9, 0, none⟩ = some (.slice (some ⟨g, 0, none⟩) M gc)) (cp : w.cell? ⟨g, p, none⟩ = some (.slice ra' L' rp')) (cq : w.cell? ⟨g, q, none⟩ = some (.slice ra L rp))
    (CB : ∀ W, Below w.heap.size w W → Calls Try.prog 39 #[.slice ra' L' rp', .slice ra L rp] W fun e w' => e = .returned (.bool true) ∧ Below W.heap.size W w')
    (CE : ∀ W, Below w.heap.size w W → Calls Try.prog 38 #[.slice sa k sc, .slice ra L rp] W fun e w' => e = .returned (.bool true) ∧ Below W.heap.size W w')
    (hQ : ∀ w8, Below w.heap.size w w8 → Q .normal { tmps := #[.slice sa k sc, t1, t2, t3, t4, t5, t6, t7, t8, .pointer (some ⟨x9, 0, none⟩), t10, t11, t12, t13, .int .i64 (q : Int), t15, t16, t17, t18, t19, t20, t21, t22, t23, t24, t25, t26, t27, t28, t29, t30, t31, t32, t33, t34, t35, t36, t37, t38, t39, t40, t41, t42, t43, t44, t45, t46, t47, t48, t49, t50, t51, t52, t53, t54, t55, t56, t57, t58, t59, t60, t61, t62, t63, t64, t65, t66, t67, t68, t69, t70, t71, t72, t73, t74, t75, t76, t77, t78, t79, t80, t81, t82, t83, t84, t85, t86, t87, t88, t89, t90, t91, t92, t93, t94, t95, t96, t97, t98, t99, t100, t101, t102, t103, .int .i64 (q : Int), .bool true, .bool true, .slice (some ⟨g, 0, none⟩) M gc, .int .i64 (q : Int), .int .i64 (p : Int), .pointer (some ⟨g, p, none⟩), .slice ra' L' rp', .slice (some ⟨g, 0, none⟩) M gc, .int .i64 (q : Int), .pointer (some ⟨g, q, none⟩), .slice ra L rp, .bool true, .bool false, .bool false, .bool false, .slice sa k sc, .slice (some ⟨g, 0, none⟩) M gc, .int .i64 (q : Int), .pointer (some ⟨g, q, none⟩), .slice ra L rp, .bool true, .bool false, .bool false], defers := D } w8) :
    (Code.region 33 #[{ dst := some 104, op := Op.move (Operand.tmp 14), type := 3, pos := "outright.go:199", after := #[], guard := none },
    { dst := some 105, op := Op.binOp BinOp.gtr 3 (Operand.tmp 104) (Operand.const (Value.int IntKind.i64 0)) 3, type := 4, pos := "outright.go:199", after := #[{ on := 0, ground := Ground.data }], guard := none },
    { dst := some 106, op := Op.move (Operand.tmp 105), type := 4, pos := "outright.go:199", after := #[{ on := 1, ground := Ground.data }], guard := none },
    { dst := some 107, op := Op.load 31 (Operand.tmp 9), type := 31, pos := "outright.go:199", after := #[{ on := 2, ground := Ground.guard }], guard := some (2, true) },
    { dst := some 108, op := Op.move (Operand.tmp 14), type := 3, pos := "outright.go:199", after := #[{ on := 2, ground := Ground.guard }], guard := some (2, true) },
    { dst := some 109, op := Op.binOp BinOp.sub 3 (Operand.tmp 108) (Operand.const (Value.int IntKind.i64 1)) 3, type := 3, pos := "outright.go:199", after := #[{ on := 4, ground := Ground.data }, { on := 2, ground := Ground.guard }], guard := some (2, true) },
    { dst := some 110, op := Op.indexAddr 31 (Operand.tmp 107) (Operand.tmp 109), type := 0, pos := "outright.go:199", after := #[{ on := 3, ground := Ground.data }, { on := 5, ground := Ground.data }, { on := 2, ground := Ground.guard }], guard := some (2, true) },
    { dst := some 111, op := Op.load 23 (Operand.tmp 110), type := 23, pos := "outright.go:199", after := #[{ on := 6, ground := Ground.data }, { on := 2, ground := Ground.guard }], guard := some (2, true) },
    { dst := some 112, op := Op.load 31 (Operand.tmp 9), type := 31, pos := "outright.go:199", after := #[{ on := 2, ground := Ground.guard }], guard := some (2, true) },
    { dst := some 113, op := Op.move (Operand.tmp 14), type := 3, pos := "outright.go:199", after := #[{ on := 2, ground := Ground.guard }], guard := some (2, true) },
    { dst := some 114, op := Op.indexAddr 31 (Operand.tmp 112) (Operand.tmp 113), type := 0, pos := "outright.go:199", after := #[{ on := 8, ground := Ground.data }, { on := 9, ground := Ground.data }, { on := 2, ground := Ground.guard }], guard := some (2, true) },
    { dst := some 115, op := Op.load 23 (Operand.tmp 114), type := 23, pos := "outright.go:199", after := #[{ on := 10, ground := Ground.data }, { on := 2, ground := Ground.guard }], guard := some (2, true) },
    { dst := some 116, op := Op.call { callee := Callee.value (Operand.func 39), args := #[Operand.tmp 111, Operand.tmp 115], argTypes := #[23, 23] }, type := 4, pos := "outright.go:199", after := #[{ on := 7, ground := Ground.data }, { on := 11, ground := Ground.data }, { on := 2, ground := Ground.chain }, { on := 2, ground := Ground.guard }], guard := some (2, true) },
    { dst := some 117, op := Op.unOp UnOp.not 4 (Operand.tmp 116), type := 4, pos := "outright.go:199", after := #[{ on := 12, ground := Ground.data }, { on := 2, ground := Ground.guard }], guard := some (2, true) },
    { dst := some 118, op := Op.pick (Operand.tmp 106) (Operand.tmp 117) (Operand.const (Value.bool false)), type := 4, pos := "outright.go:199", after := #[{ on := 2, ground := Ground.data }, { on := 13, ground := Ground.data }], guard := none },
    { dst := some 119, op := Op.move (Operand.tmp 118), type := 4, pos := "outright.go:199", after := #[{ on := 14, ground := Ground.data }, { on := 12, ground := Ground.chain }], guard := none },
    { dst := some 120, op := Op.move (Operand.tmp 0), type := 23, pos := "outright.go:199", after := #[{ on := 15, ground := Ground.guard }], guard := some (15, false) },
    { dst := some 121, op := Op.load 31 (Operand.tmp 9), type := 31, pos := "outright.go:199", after := #[{ on := 15, ground := Ground.guard }], guard := some (15, false) },
    { dst := some 122, op := Op.move (Operand.tmp 14), type := 3, pos := "outright.go:199", after := #[{ on := 15, ground := Ground.guard }], guard := some (15, false) },
    { dst := some 123, op := Op.indexAddr 31 (Operand.tmp 121) (Operand.tmp 122), type := 0, pos := "outright.go:199", after := #[{ on := 17, ground := Ground.data }, { on := 18, ground := Ground.data }, { on := 15, ground := Ground.guard }], guard := some (15, false) },
    { dst := some 124, op := Op.load 23 (Operand.tmp 123), type := 23, pos := "outright.go:199", after := #[{ on := 19, ground := Ground.data }, { on := 15, ground := Ground.guard }], guard := some (15, false) },
    { dst := some 125, op := Op.call { callee := Callee.value (Operand.func 38), args := #[Operand.tmp 120, Operand.tmp 124], argTypes := #[23, 23] }, type := 4, pos := "outright.go:199", after := #[{ on := 16, ground := Ground.data }, { on := 20, ground := Ground.data }, { on := 15, ground := Ground.chain }, { on := 15, ground := Ground.guard }], guard := some (15, false) },
    { dst := some 126, op := Op.unOp UnOp.not 4 (Operand.tmp 125), type := 4, pos := "outright.go:199", after := #[{ on := 21, ground := Ground.data }, { on := 15, ground := Ground.guard }], guard := some (15, false) },
    { dst := some 127, op := Op.pick (Operand.tmp 119) (Operand.const (Value.bool true)) (Operand.tmp 126), type := 4, pos := "outright.go:199", after := #[{ on := 15, ground := Ground.data }, { on := 22, ground := Ground.data }], guard := none }] true).wp Try.prog Q { tmps := #[.slice sa k sc, t1, t2, t3, t4, t5, t6, t7, t8, .pointer (some ⟨x9, 0, none⟩), t10, t11, t12, t13, .int .i64 (q : Int), t15, t16, t17, t18, t19, t20, t21, t22, t23, t24, t25, t26, t27, t28, t29, t30, t31, t32, t33, t34, t35, t36, t37, t38, t39, t40, t41, t42, t43, t44, t45, t46, t47, t48, t49, t50, t51, t52, t53, t54, t55, t56, t57, t58, t59, t60, t61, t62, t63, t64, t65, t66, t67, t68, t69, t70, t71, t72, t73, t74, t75, t76, t77, t78, t79, t80, t81, t82, t83, t84, t85, t86, t87, t88, t89, t90, t91, t92, t93, t94, t95, t96, t97, t98, t99, t100, t101, t102, t103, t104, t105, t106, t107, t108, t109, t110, t111, t112, t113, t114, t115, t116, t117, t118, t119, t120, t121, t122, t123, t124, t125, t126, t127], defers := D } w := by
  refine wp_region_noPanic ?_
  refine wp_region_held_drew (S := fun w' => w'.cell? ⟨x9, 0, none⟩ = some (.slice (some ⟨g, 0, none⟩) M gc) ∧ w'.cell? ⟨g, p, none⟩ = some (.slice ra' L' rp') ∧ w'.cell? ⟨g, q, none⟩ = some (.slice ra L rp)) (by kernel_rfl) ⟨c9, cp, cq⟩ (fun hHeld => ?_)
  refine wpAnyH_take (i := 0) (oi := { dst := some 104, op := Op.move (Operand.tmp 14), type := 3, pos := "outright.go:199", after := #[], guard := none }) (v := .int .i64 (q : Int)) rfl (by kernel_rfl) (by kernel_rfl) (by kernel_rfl) (fun _ _ _ h => h) (Or.inl ⟨by kernel_rfl, fun w hSw => ?_⟩) (by assumption) ?_
  · dsimp only at hSw; go_simp
  (try simp only [Act.put, List.setIfInBounds_toArray, List.set_cons_zero, List.set_cons_succ])
  refine wpAnyH_take (i := 1) (oi := { dst := some 105, op := Op.binOp BinOp.gtr 3 (Operand.tmp 104) (Operand.const (Value.int IntKind.i64 0)) 3, type := 4, pos := "outright.go:199", after := #[{ on := 0, ground := Ground.data }], guard := none }) (v := .bool true) rfl (by kernel_rfl) (by kernel_rfl) (by kernel_rfl) (fun _ _ _ h => h) (Or.inl ⟨by kernel_rfl, fun w hSw => ?_⟩) (by assumption) ?_
  · dsimp only at hSw; go_simp; all_goals (first | exact fun e => absurd e (by omega) | omega)
  (try simp only [Act.put, List.setIfInBounds_toArray, List.set_cons_zero, List.set_cons_succ])
  refine wpAnyH_take (i := 2) (oi := { dst := some 106, op := Op.move (Operand.tmp 105), type := 4, pos := "outright.go:199", after := #[{ on := 1, ground := Ground.data }], guard := none }) (v := .bool true) rfl (by kernel_rfl) (by kernel_rfl) (by kernel_rfl) (fun _ _ _ h => h) (Or.inl ⟨by kernel_rfl, fun w hSw => ?_⟩) (by assumption) ?_
  · dsimp only at hSw; go_simp
  (try simp only [Act.put, List.setIfInBounds_toArray, List.set_cons_zero, List.set_cons_succ])
  refine wpAnyH_take (i := 3) (oi := { dst := some 107, op := Op.load 31 (Operand.tmp 9), type := 31, pos := "outright.go:199", after := #[{ on := 2, ground := Ground.guard }], guard := some (2, true) }) (v := .slice (some ⟨g, 0, none⟩) M gc) rfl (by kernel_rfl) (by kernel_rfl) (by kernel_rfl) (fun _ _ _ h => h) (Or.inl ⟨by kernel_rfl, fun w hSw => ?_⟩) (by assumption) ?_
  · dsimp only at hSw; go_simp
  (try simp only [Act.put, List.setIfInBounds_toArray, List.set_cons_zero, List.set_cons_succ])
  refine wpAnyH_take (i := 4) (oi := { dst := some 108, op := Op.move (Operand.tmp 14), type := 3, pos := "outright.go:199", after := #[{ on := 2, ground := Ground.guard }], guard := some (2, true) }) (v := .int .i64 (q : Int)) rfl (by kernel_rfl) (by kernel_rfl) (by kernel_rfl) (fun _ _ _ h => h) (Or.inl ⟨by kernel_rfl, fun w hSw => ?_⟩) (by assumption) ?_
  · dsimp only at hSw; go_simp
  (try simp only [Act.put, List.setIfInBounds_toArray, List.set_cons_zero, List.set_cons_succ])
  refine wpAnyH_take (i := 5) (oi := { dst := some 109, op := Op.binOp BinOp.sub 3 (Operand.tmp 108) (Operand.const (Value.int IntKind.i64 1)) 3, type := 3, pos := "outright.go:199", after := #[{ on := 4, ground := Ground.data }, { on := 2, ground := Ground.guard }], guard := some (2, true) }) (v := .int .i64 (p : Int)) rfl (by kernel_rfl) (by kernel_rfl) (by kernel_rfl) (fun _ _ _ h => h) (Or.inl ⟨by kernel_rfl, fun w hSw => ?_⟩) (by assumption) ?_
  · dsimp only at hSw; go_simp
  (try simp only [Act.put, List.setIfInBounds_toArray, List.set_cons_zero, List.set_cons_succ])
  refine wpAnyH_take (i := 6) (oi := { dst := some 110, op := Op.indexAddr 31 (Operand.tmp 107) (Operand.tmp 109), type := 0, pos := "outright.go:199", after := #[{ on := 3, ground := Ground.data }, { on := 5, ground := Ground.data }, { on := 2, ground := Ground.guard }], guard := some (2, true) }) (v := .pointer (some ⟨g, p, none⟩)) rfl (by kernel_rfl) (by kernel_rfl) (by kernel_rfl) (fun _ _ _ h => h) (Or.inl ⟨by kernel_rfl, fun w hSw => ?_⟩) (by assumption) ?_
  · dsimp only at hSw; go_simp
  (try simp only [Act.put, List.setIfInBounds_toArray, List.set_cons_zero, List.set_cons_succ])
  refine wpAnyH_take (i := 7) (oi := { dst := some 111, op := Op.load 23 (Operand.tmp 110), type := 23, pos := "outright.go:199", after := #[{ on := 6, ground := Ground.data }, { on := 2, ground := Ground.guard }], guard := some (2, true) }) (v := .slice ra' L' rp') rfl (by kernel_rfl) (by kernel_rfl) (by kernel_rfl) (fun _ _ _ h => h) (Or.inl ⟨by kernel_rfl, fun w hSw => ?_⟩) (by assumption) ?_
  · dsimp only at hSw; go_simp
  (try simp only [Act.put, List.setIfInBounds_toArray, List.set_cons_zero, List.set_cons_succ])
  refine wpAnyH_take (i := 8) (oi := { dst := some 112, op := Op.load 31 (Operand.tmp 9), type := 31, pos := "outright.go:199", after := #[{ on := 2, ground := Ground.guard }], guard := some (2, true) }) (v := .slice (some ⟨g, 0, none⟩) M gc) rfl (by kernel_rfl) (by kernel_rfl) (by kernel_rfl) (fun _ _ _ h => h) (Or.inl ⟨by kernel_rfl, fun w hSw => ?_⟩) (by assumption) ?_
  · dsimp only at hSw; go_simp
  (try simp only [Act.put, List.setIfInBounds_toArray, List.set_cons_zero, List.set_cons_succ])
  refine wpAnyH_take (i := 9) (oi := { dst := some 113, op := Op.move (Operand.tmp 14), type := 3, pos := "outright.go:199", after := #[{ on := 2, ground := Ground.guard }], guard := some (2, true) }) (v := .int .i64 (q : Int)) rfl (by kernel_rfl) (by kernel_rfl) (by kernel_rfl) (fun _ _ _ h => h) (Or.inl ⟨by kernel_rfl, fun w hSw => ?_⟩) (by assumption) ?_
  · dsimp only at hSw; go_simp
  (try simp only [Act.put, List.setIfInBounds_toArray, List.set_cons_zero, List.set_cons_succ])
  refine wpAnyH_take (i := 10) (oi := { dst := some 114, op := Op.indexAddr 31 (Operand.tmp 112) (Operand.tmp 113), type := 0, pos := "outright.go:199", after := #[{ on := 8, ground := Ground.data }, { on := 9, ground := Ground.data }, { on := 2, ground := Ground.guard }], guard := some (2, true) }) (v := .pointer (some ⟨g, q, none⟩)) rfl (by kernel_rfl) (by kernel_rfl) (by kernel_rfl) (fun _ _ _ h => h) (Or.inl ⟨by kernel_rfl, fun w hSw => ?_⟩) (by assumption) ?_
  · dsimp only at hSw; go_simp
  (try simp only [Act.put, List.setIfInBounds_toArray, List.set_cons_zero, List.set_cons_succ])
  refine wpAnyH_take (i := 11) (oi := { dst := some 115, op := Op.load 23 (Operand.tmp 114), type := 23, pos := "outright.go:199", after := #[{ on := 10, ground := Ground.data }, { on := 2, ground := Ground.guard }], guard := some (2, true) }) (v := .slice ra L rp) rfl (by kernel_rfl) (by kernel_rfl) (by kernel_rfl) (fun _ _ _ h => h) (Or.inl ⟨by kernel_rfl, fun w hSw => ?_⟩) (by assumption) ?_
  · dsimp only at hSw; go_simp
  (try simp only [Act.put, List.setIfInBounds_toArray, List.set_cons_zero, List.set_cons_succ])
  refine wpAnyH_ready (rs := [12]) (by kernel_rfl) (by simp) ?_
  refine AllReadyH.cons (o := { dst := some 116, op := Op.call { callee := Callee.value (Operand.func 39), args := #[Operand.tmp 111, Operand.tmp 115], argTypes := #[23, 23] }, type := 4, pos := "outright.go:199", after := #[{ on := 7, ground := Ground.data }, { on := 11, ground := Ground.data }, { on := 2, ground := Ground.chain }, { on := 2, ground := Ground.guard }], guard := some (2, true) }) rfl (fun K hK => ?_) AllReadyH.nil
  rw [if_pos (by kernel_rfl)]
  go_wp2_with fail
  refine (CB _ (Below.refl _ _).drew).mono ?_
  rintro e w7 ⟨rfl, b7⟩
  have jB : Below w.heap.size w w7 := (Below.refl _ _).drew.trans b7
  have j9 := (jB.cell (p := ⟨x9, 0, none⟩) l9).trans c9
  have jp := (jB.cell (p := ⟨g, p, none⟩) lg).trans cp
  have jq := (jB.cell (p := ⟨g, q, none⟩) lg).trans cq
  go_wp2_with fail
  refine hK.out _ _ (⟨j9, jp, jq⟩) (fun hHeld => ?_)
  clear hK K
  (try simp only [Act.put, List.setIfInBounds_toArray, List.set_cons_zero, List.set_cons_succ])
  refine wpAnyH_take (i := 13) (oi := { dst := some 117, op := Op.unOp UnOp.not 4 (Operand.tmp 116), type := 4, pos := "outright.go:199", after := #[{ on := 12, ground := Ground.data }, { on := 2, ground := Ground.guard }], guard := some (2, true) }) (v := .bool false) rfl (by kernel_rfl) (by kernel_rfl) (by kernel_rfl) (fun _ _ _ h => h) (Or.inl ⟨by kernel_rfl, fun w hSw => ?_⟩) (by assumption) ?_
  · dsimp only at hSw; go_simp
  (try simp only [Act.put, List.setIfInBounds_toArray, List.set_cons_zero, List.set_cons_succ])
  refine wpAnyH_take (i := 14) (oi := { dst := some 118, op := Op.pick (Operand.tmp 106) (Operand.tmp 117) (Operand.const (Value.bool false)), type := 4, pos := "outright.go:199", after := #[{ on := 2, ground := Ground.data }, { on := 13, ground := Ground.data }], guard := none }) (v := .bool false) rfl (by kernel_rfl) (by kernel_rfl) (by kernel_rfl) (fun _ _ _ h => h) (Or.inl ⟨by kernel_rfl, fun w hSw => ?_⟩) (by assumption) ?_
  · dsimp only at hSw; go_simp
  (try simp only [Act.put, List.setIfInBounds_toArray, List.set_cons_zero, List.set_cons_succ])
  refine wpAnyH_take (i := 15) (oi := { dst := some 119, op := Op.move (Operand.tmp 118), type := 4, pos := "outright.go:199", after := #[{ on := 14, ground := Ground.data }, { on := 12, ground := Ground.chain }], guard := none }) (v := .bool false) rfl (by kernel_rfl) (by kernel_rfl) (by kernel_rfl) (fun _ _ _ h => h) (Or.inl ⟨by kernel_rfl, fun w hSw => ?_⟩) (by assumption) ?_
  · dsimp only at hSw; go_simp
  (try simp only [Act.put, List.setIfInBounds_toArray, List.set_cons_zero, List.set_cons_succ])
  refine wpAnyH_take (i := 16) (oi := { dst := some 120, op := Op.move (Operand.tmp 0), type := 23, pos := "outright.go:199", after := #[{ on := 15, ground := Ground.guard }], guard := some (15, false) }) (v := .slice sa k sc) rfl (by kernel_rfl) (by kernel_rfl) (by kernel_rfl) (fun _ _ _ h => h) (Or.inl ⟨by kernel_rfl, fun w hSw => ?_⟩) (by assumption) ?_
  · dsimp only at hSw; go_simp
  (try simp only [Act.put, List.setIfInBounds_toArray, List.set_cons_zero, List.set_cons_succ])
  refine wpAnyH_take (i := 17) (oi := { dst := some 121, op := Op.load 31 (Operand.tmp 9), type := 31, pos := "outright.go:199", after := #[{ on := 15, ground := Ground.guard }], guard := some (15, false) }) (v := .slice (some ⟨g, 0, none⟩) M gc) rfl (by kernel_rfl) (by kernel_rfl) (by kernel_rfl) (fun _ _ _ h => h) (Or.inl ⟨by kernel_rfl, fun w hSw => ?_⟩) (by assumption) ?_
  · dsimp only at hSw; go_simp
  (try simp only [Act.put, List.setIfInBounds_toArray, List.set_cons_zero, List.set_cons_succ])
  refine wpAnyH_take (i := 18) (oi := { dst := some 122, op := Op.move (Operand.tmp 14), type := 3, pos := "outright.go:199", after := #[{ on := 15, ground := Ground.guard }], guard := some (15, false) }) (v := .int .i64 (q : Int)) rfl (by kernel_rfl) (by kernel_rfl) (by kernel_rfl) (fun _ _ _ h => h) (Or.inl ⟨by kernel_rfl, fun w hSw => ?_⟩) (by assumption) ?_
  · dsimp only at hSw; go_simp
  (try simp only [Act.put, List.setIfInBounds_toArray, List.set_cons_zero, List.set_cons_succ])
  refine wpAnyH_take (i := 19) (oi := { dst := some 123, op := Op.indexAddr 31 (Operand.tmp 121) (Operand.tmp 122), type := 0, pos := "outright.go:199", after := #[{ on := 17, ground := Ground.data }, { on := 18, ground := Ground.data }, { on := 15, ground := Ground.guard }], guard := some (15, false) }) (v := .pointer (some ⟨g, q, none⟩)) rfl (by kernel_rfl) (by kernel_rfl) (by kernel_rfl) (fun _ _ _ h => h) (Or.inl ⟨by kernel_rfl, fun w hSw => ?_⟩) (by assumption) ?_
  · dsimp only at hSw; go_simp
  (try simp only [Act.put, List.setIfInBounds_toArray, List.set_cons_zero, List.set_cons_succ])
  refine wpAnyH_take (i := 20) (oi := { dst := some 124, op := Op.load 23 (Operand.tmp 123), type := 23, pos := "outright.go:199", after := #[{ on := 19, ground := Ground.data }, { on := 15, ground := Ground.guard }], guard := some (15, false) }) (v := .slice ra L rp) rfl (by kernel_rfl) (by kernel_rfl) (by kernel_rfl) (fun _ _ _ h => h) (Or.inl ⟨by kernel_rfl, fun w hSw => ?_⟩) (by assumption) ?_
  · dsimp only at hSw; go_simp
  (try simp only [Act.put, List.setIfInBounds_toArray, List.set_cons_zero, List.set_cons_succ])
  refine wpAnyH_ready (rs := [21]) (by kernel_rfl) (by simp) ?_
  refine AllReadyH.cons (o := { dst := some 125, op := Op.call { callee := Callee.value (Operand.func 38), args := #[Operand.tmp 120, Operand.tmp 124], argTypes := #[23, 23] }, type := 4, pos := "outright.go:199", after := #[{ on := 16, ground := Ground.data }, { on := 20, ground := Ground.data }, { on := 15, ground := Ground.chain }, { on := 15, ground := Ground.guard }], guard := some (15, false) }) rfl (fun K hK => ?_) AllReadyH.nil
  rw [if_pos (by kernel_rfl)]
  go_wp2_with fail
  refine (CE _ jB).mono ?_
  rintro e w8 ⟨rfl, b8⟩
  have kB : Below w.heap.size w w8 := jB.trans (b8.mono jB.size)
  have k9 := (kB.cell (p := ⟨x9, 0, none⟩) l9).trans c9
  have kp := (kB.cell (p := ⟨g, p, none⟩) lg).trans cp
  have kq := (kB.cell (p := ⟨g, q, none⟩) lg).trans cq
  go_wp2_with fail
  refine hK.out _ _ (⟨k9, kp, kq⟩) (fun hHeld => ?_)
  clear hK K
  (try simp only [Act.put, List.setIfInBounds_toArray, List.set_cons_zero, List.set_cons_succ])
  refine wpAnyH_take (i := 22) (oi := { dst := some 126, op := Op.unOp UnOp.not 4 (Operand.tmp 125), type := 4, pos := "outright.go:199", after := #[{ on := 21, ground := Ground.data }, { on := 15, ground := Ground.guard }], guard := some (15, false) }) (v := .bool false) rfl (by kernel_rfl) (by kernel_rfl) (by kernel_rfl) (fun _ _ _ h => h) (Or.inl ⟨by kernel_rfl, fun w hSw => ?_⟩) (by assumption) ?_
  · dsimp only at hSw; go_simp
  (try simp only [Act.put, List.setIfInBounds_toArray, List.set_cons_zero, List.set_cons_succ])
  refine wpAnyH_take (i := 23) (oi := { dst := some 127, op := Op.pick (Operand.tmp 119) (Operand.const (Value.bool true)) (Operand.tmp 126), type := 4, pos := "outright.go:199", after := #[{ on := 15, ground := Ground.data }, { on := 22, ground := Ground.data }], guard := none }) (v := .bool false) rfl (by kernel_rfl) (by kernel_rfl) (by kernel_rfl) (fun _ _ _ h => h) (Or.inl ⟨by kernel_rfl, fun w hSw => ?_⟩) (by assumption) ?_
  · dsimp only at hSw; go_simp
  (try simp only [Act.put, List.setIfInBounds_toArray, List.set_cons_zero, List.set_cons_succ])
  refine wpAnyH_done (by kernel_rfl) ?_ _
  exact NoPanic.normal (hQ w8 kB)
end X
end Go.Proofs.Ytbgjggblaeadlaa
