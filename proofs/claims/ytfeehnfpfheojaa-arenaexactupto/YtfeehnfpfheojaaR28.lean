import Derived.Test.YtfeehnfpfheojaaJE
import Derived.Deep.RegionHeld3
import Derived.Deep.CutBlock
import Derived.Deep.DeepCutAuto
import Derived.Stop.RegionWithIn
set_option linter.unusedVariables false
set_option linter.unusedSimpArgs false
namespace Go.Proofs.Ytfeehnfpfheojaa
open Go.RowKit Go.Sort
attribute [local go_sem] Oper.semAt_some
namespace Ep
open Fr Ar Ra
set_option maxRecDepth 100000 in
set_option maxHeartbeats 4000000 in
theorem reg28 {nb x ab rb Nw Nl Nt wc rc : Nat} {wo ro : Option Addr} {L : List Bk} {D} {t0 t1 t2 t3 t4 t5 t6 t7 t8 t9 t10 t11 t12 t13 t14 t15 t16 t17 t18 t22 t23 t24 t25 t26 t27 t28 t29 t30 t31 t32 t33 t34 t35 t36 t37 t38 t39 t40 t41 t42 t43 t44 t45 t46 t47 t48 t49 t50 t51 t52 t53 t54 t55 t56 t57 t58 t59 t60 t61 t62 t63 t64 t65 t66 t67 t68 t69 t70 t71 t72 t73 t74 t75 t76 t77 t78 t79 t80 t81 t82 t83 t84 t85 t86 t87 t88 t89 t90 t91 t92 t93 t94 t95 t96 t97 t98 t99 t100 t101 t102 t103 t104 t105 t106 t107 t108 t109 t110 t111 t112 t113 t114 t115 t116 t117 t118 t119 t120 t121 t122 t123 t124 t125 t126 t127 t128 t129 t130 t131 t132 t133 t134 t135 t136 t137 t138 t139 t140 t141 t142 t143 t144 t145 t146 t147 t148 t149 t150 t151 t152 t153 t154 t155 t156 t157 t158 t159 t160 t161 t162 t163 t164 t165 t166 t167 t168 t169 t170 t171 t172 t173 t174 t175 t176 t177 t178 t179 t180 t181 t182 t183 t184 t185 t186 t187 t188 t189 t190 t191 t192 t193 t194 t195 t196 t197 t198 t199 t200 t201 t202 t203 t204 t205 t206 t207 t208 t209 t210 t211 t212 : Value} {Q : Exit → Act → World → Prop} {V : World} (LK : Hid (Looks nb x ab rb Nw Nl Nt wo ro wc rc L V))
    (S0 : V.cell? ⟨nb, 0, none⟩ = some (.pointer (some ⟨x, 0, none⟩)) ∧ V.cell? ⟨nb, 1, none⟩ = some (.pointer (some ⟨ab, 0, none⟩)) ∧ V.cell? ⟨nb, 2, none⟩ = some (.pointer (some ⟨rb, 0, none⟩)) ∧ V.cell? ⟨nb, 3, none⟩ = some (.int .i64 (Nt : Int)) ∧ V.cell? ⟨rb, 1, none⟩ = some (.slice wo Nw wc))
    (hQ : ∀ g37 r37 g38 r38 kk tq tc w8, Below V.heap.size V w8 → Q .normal { tmps := #[t0, t1, t2, t3, t4, .bool true, t6, t7, t8, t9, t10, t11, t12, t13, t14, t15, t16, t17, t18, .pointer (some ⟨nb, 0, none⟩), .slice ro Nw rc, .int .i64 0, t22, t23, t24, t25, t26, t27, t28, t29, t30, t31, t32, t33, t34, t35, t36, t37, t38, t39, t40, t41, t42, t43, t44, t45, t46, t47, t48, t49, t50, t51, t52, t53, t54, t55, t56, t57, t58, t59, t60, t61, t62, t63, t64, t65, t66, t67, t68, t69, t70, t71, t72, t73, t74, t75, t76, t77, t78, t79, t80, t81, t82, t83, t84, t85, t86, t87, t88, t89, t90, t91, t92, t93, t94, t95, t96, t97, t98, t99, t100, t101, t102, t103, t104, t105, t106, t107, t108, t109, t110, t111, t112, t113, t114, t115, t116, t117, t118, t119, t120, t121, t122, t123, t124, t125, t126, t127, t128, t129, t130, t131, t132, t133, t134, t135, t136, t137, t138, t139, t140, t141, t142, t143, t144, t145, t146, t147, t148, t149, t150, t151, .int .i64 0, .bool true, .bool true, .slice ro Nw rc, .pointer (some ⟨nb, 0, none⟩), .pointer (some ⟨nb, 0, none⟩), .pointer (some ⟨nb, 2, none⟩), .pointer (some ⟨rb, 0, none⟩), .pointer (some ⟨rb, 0, none⟩), .pointer (some ⟨rb, 1, none⟩), .slice wo Nw wc, .bool true, .bool true, .bool true, .pointer (some ⟨nb, 0, none⟩), .pointer (some ⟨nb, 0, none⟩), .pointer (some ⟨nb, 1, none⟩), .pointer (some ⟨ab, 0, none⟩), .slice (some ⟨g37, 0, none⟩) Nl r37, .pointer (some ⟨nb, 0, none⟩), .pointer (some ⟨nb, 0, none⟩), .pointer (some ⟨nb, 2, none⟩), .pointer (some ⟨rb, 0, none⟩), .slice (some ⟨g38, 0, none⟩) Nl r38, .bool true, .bool true, .bool true, .pointer (some ⟨nb, 0, none⟩), .pointer (some ⟨nb, 0, none⟩), .pointer (some ⟨nb, 1, none⟩), .pointer (some ⟨ab, 0, none⟩), .int .i64 kk, .pointer (some ⟨nb, 0, none⟩), .pointer (some ⟨nb, 0, none⟩), .pointer (some ⟨nb, 2, none⟩), .pointer (some ⟨rb, 0, none⟩), .int .i64 kk, .bool true, .bool true, .bool true, .pointer (some ⟨nb, 0, none⟩), .pointer (some ⟨nb, 0, none⟩), .pointer (some ⟨nb, 0, none⟩), .pointer (some ⟨x, 0, none⟩), .slice tq Nt tc, .int .i64 (Nt : Int), .pointer (some ⟨nb, 0, none⟩), .pointer (some ⟨nb, 0, none⟩), .pointer (some ⟨nb, 3, none⟩), .int .i64 (Nt : Int), .bool true, .bool true, .bool true, .pointer (some ⟨nb, 0, none⟩), .pointer (some ⟨nb, 0, none⟩), .pointer (some ⟨nb, 0, none⟩), .pointer (some ⟨x, 0, none⟩), .int .i64 0, .bool true, .bool true, t212], defers := D } w8) :
    (Code.region 28 #[{ dst := some 152, op := Op.move (Operand.tmp 21), type := 64, pos := "law.go:269", after := #[], guard := none },
    { dst := some 153, op := Op.binOp BinOp.eql 64 (Operand.tmp 152) (Operand.const (Value.int IntKind.i64 0)) 64, type := 4, pos := "law.go:269", after := #[{ on := 0, ground := Ground.data }], guard := none },
    { dst := some 154, op := Op.move (Operand.tmp 153), type := 4, pos := "law.go:269", after := #[{ on := 1, ground := Ground.data }], guard := none },
    { dst := some 155, op := Op.move (Operand.tmp 20), type := 22, pos := "law.go:269", after := #[{ on := 2, ground := Ground.guard }], guard := some (2, true) },
    { dst := some 156, op := Op.move (Operand.tmp 19), type := 76, pos := "law.go:269", after := #[{ on := 2, ground := Ground.guard }], guard := some (2, true) },
    { dst := some 157, op := Op.nilCheck (Operand.tmp 156), type := 0, pos := "law.go:269", after := #[{ on := 4, ground := Ground.data }, { on := 2, ground := Ground.guard }], guard := some (2, true) },
    { dst := some 158, op := Op.fieldAddr 78 (Operand.tmp 157) 2, type := 0, pos := "law.go:269", after := #[{ on := 5, ground := Ground.data }, { on := 2, ground := Ground.guard }], guard := some (2, true) },
    { dst := some 159, op := Op.load 73 (Operand.tmp 158), type := 73, pos := "law.go:269", after := #[{ on := 6, ground := Ground.data }, { on := 2, ground := Ground.guard }], guard := some (2, true) },
    { dst := some 160, op := Op.nilCheck (Operand.tmp 159), type := 0, pos := "law.go:269", after := #[{ on := 7, ground := Ground.data }, { on := 2, ground := Ground.guard }], guard := some (2, true) },
    { dst := some 161, op := Op.fieldAddr 85 (Operand.tmp 160) 1, type := 0, pos := "law.go:269", after := #[{ on := 8, ground := Ground.data }, { on := 2, ground := Ground.guard }], guard := some (2, true) },
    { dst := some 162, op := Op.load 22 (Operand.tmp 161), type := 22, pos := "law.go:269", after := #[{ on := 9, ground := Ground.data }, { on := 2, ground := Ground.guard }], guard := some (2, true) },
    { dst := some 163, op := Op.call { callee := Callee.value (Operand.func 35), args := #[Operand.tmp 155, Operand.tmp 162], argTypes := #[22, 22] }, type := 4, pos := "law.go:269", after := #[{ on := 3, ground := Ground.data }, { on := 10, ground := Ground.data }, { on := 2, ground := Ground.chain }, { on := 2, ground := Ground.guard }], guard := some (2, true) },
    { dst := some 164, op := Op.pick (Operand.tmp 154) (Operand.tmp 163) (Operand.const (Value.bool false)), type := 4, pos := "law.go:269", after := #[{ on := 2, ground := Ground.data }, { on := 11, ground := Ground.data }], guard := none },
    { dst := some 165, op := Op.move (Operand.tmp 164), type := 4, pos := "law.go:269", after := #[{ on := 12, ground := Ground.data }, { on := 11, ground := Ground.chain }], guard := none },
    { dst := some 166, op := Op.move (Operand.tmp 19), type := 76, pos := "law.go:269", after := #[{ on := 13, ground := Ground.guard }], guard := some (13, true) },
    { dst := some 167, op := Op.nilCheck (Operand.tmp 166), type := 0, pos := "law.go:269", after := #[{ on := 14, ground := Ground.data }, { on := 13, ground := Ground.guard }], guard := some (13, true) },
    { dst := some 168, op := Op.fieldAddr 78 (Operand.tmp 167) 1, type := 0, pos := "law.go:269", after := #[{ on := 15, ground := Ground.data }, { on := 13, ground := Ground.guard }], guard := some (13, true) },
    { dst := some 169, op := Op.load 63 (Operand.tmp 168), type := 63, pos := "law.go:269", after := #[{ on := 16, ground := Ground.data }, { on := 13, ground := Ground.guard }], guard := some (13, true) },
    { dst := some 170, op := Op.call { callee := Callee.value (Operand.func 37), args := #[Operand.tmp 169], argTypes := #[63] }, type := 88, pos := "law.go:269", after := #[{ on := 17, ground := Ground.data }, { on := 13, ground := Ground.chain }, { on := 13, ground := Ground.guard }], guard := some (13, true) },
    { dst := some 171, op := Op.move (Operand.tmp 19), type := 76, pos := "law.go:269", after := #[{ on := 13, ground := Ground.guard }], guard := some (13, true) },
    { dst := some 172, op := Op.nilCheck (Operand.tmp 171), type := 0, pos := "law.go:269", after := #[{ on := 19, ground := Ground.data }, { on := 13, ground := Ground.guard }], guard := some (13, true) },
    { dst := some 173, op := Op.fieldAddr 78 (Operand.tmp 172) 2, type := 0, pos := "law.go:269", after := #[{ on := 20, ground := Ground.data }, { on := 13, ground := Ground.guard }], guard := some (13, true) },
    { dst := some 174, op := Op.load 73 (Operand.tmp 173), type := 73, pos := "law.go:269", after := #[{ on := 21, ground := Ground.data }, { on := 13, ground := Ground.guard }], guard := some (13, true) },
    { dst := some 175, op := Op.call { callee := Callee.value (Operand.func 38), args := #[Operand.tmp 174], argTypes := #[73] }, type := 88, pos := "law.go:269", after := #[{ on := 22, ground := Ground.data }, { on := 18, ground := Ground.chain }, { on := 13, ground := Ground.guard }], guard := some (13, true) },
    { dst := some 176, op := Op.call { callee := Callee.value (Operand.func 36), args := #[Operand.tmp 170, Operand.tmp 175], argTypes := #[88, 88] }, type := 4, pos := "law.go:269", after := #[{ on := 18, ground := Ground.data }, { on := 23, ground := Ground.data }, { on := 23, ground := Ground.chain }, { on := 13, ground := Ground.guard }], guard := some (13, true) },
    { dst := some 177, op := Op.pick (Operand.tmp 165) (Operand.tmp 176) (Operand.const (Value.bool false)), type := 4, pos := "law.go:269", after := #[{ on := 13, ground := Ground.data }, { on := 24, ground := Ground.data }], guard := none },
    { dst := some 178, op := Op.move (Operand.tmp 177), type := 4, pos := "law.go:269", after := #[{ on := 25, ground := Ground.data }, { on := 24, ground := Ground.chain }], guard := none },
    { dst := some 179, op := Op.move (Operand.tmp 19), type := 76, pos := "law.go:269", after := #[{ on := 26, ground := Ground.guard }], guard := some (26, true) },
    { dst := some 180, op := Op.nilCheck (Operand.tmp 179), type := 0, pos := "law.go:269", after := #[{ on := 27, ground := Ground.data }, { on := 26, ground := Ground.guard }], guard := some (26, true) },
    { dst := some 181, op := Op.fieldAddr 78 (Operand.tmp 180) 1, type := 0, pos := "law.go:269", after := #[{ on := 28, ground := Ground.data }, { on := 26, ground := Ground.guard }], guard := some (26, true) },
    { dst := some 182, op := Op.load 63 (Operand.tmp 181), type := 63, pos := "law.go:269", after := #[{ on := 29, ground := Ground.data }, { on := 26, ground := Ground.guard }], guard := some (26, true) },
    { dst := some 183, op := Op.call { callee := Callee.value (Operand.func 39), args := #[Operand.tmp 182], argTypes := #[63] }, type := 3, pos := "law.go:269", after := #[{ on := 30, ground := Ground.data }, { on := 26, ground := Ground.chain }, { on := 26, ground := Ground.guard }], guard := some (26, true) },
    { dst := some 184, op := Op.move (Operand.tmp 19), type := 76, pos := "law.go:269", after := #[{ on := 26, ground := Ground.guard }], guard := some (26, true) },
    { dst := some 185, op := Op.nilCheck (Operand.tmp 184), type := 0, pos := "law.go:269", after := #[{ on := 32, ground := Ground.data }, { on := 26, ground := Ground.guard }], guard := some (26, true) },
    { dst := some 186, op := Op.fieldAddr 78 (Operand.tmp 185) 2, type := 0, pos := "law.go:269", after := #[{ on := 33, ground := Ground.data }, { on := 26, ground := Ground.guard }], guard := some (26, true) },
    { dst := some 187, op := Op.load 73 (Operand.tmp 186), type := 73, pos := "law.go:269", after := #[{ on := 34, ground := Ground.data }, { on := 26, ground := Ground.guard }], guard := some (26, true) },
    { dst := some 188, op := Op.call { callee := Callee.value (Operand.func 40), args := #[Operand.tmp 187], argTypes := #[73] }, type := 3, pos := "law.go:269", after := #[{ on := 35, ground := Ground.data }, { on := 31, ground := Ground.chain }, { on := 26, ground := Ground.guard }], guard := some (26, true) },
    { dst := some 189, op := Op.binOp BinOp.eql 3 (Operand.tmp 183) (Operand.tmp 188) 3, type := 4, pos := "law.go:269", after := #[{ on := 31, ground := Ground.data }, { on := 36, ground := Ground.data }, { on := 26, ground := Ground.guard }], guard := some (26, true) },
    { dst := some 190, op := Op.pick (Operand.tmp 178) (Operand.tmp 189) (Operand.const (Value.bool false)), type := 4, pos := "law.go:269", after := #[{ on := 26, ground := Ground.data }, { on := 37, ground := Ground.data }], guard := none },
    { dst := some 191, op := Op.move (Operand.tmp 190), type := 4, pos := "law.go:269", after := #[{ on := 38, ground := Ground.data }, { on := 36, ground := Ground.chain }], guard := none },
    { dst := some 192, op := Op.move (Operand.tmp 19), type := 76, pos := "law.go:269", after := #[{ on := 39, ground := Ground.guard }], guard := some (39, true) },
    { dst := some 193, op := Op.nilCheck (Operand.tmp 192), type := 0, pos := "law.go:269", after := #[{ on := 40, ground := Ground.data }, { on := 39, ground := Ground.guard }], guard := some (39, true) },
    { dst := some 194, op := Op.fieldAddr 78 (Operand.tmp 193) 0, type := 0, pos := "law.go:269", after := #[{ on := 41, ground := Ground.data }, { on := 39, ground := Ground.guard }], guard := some (39, true) },
    { dst := some 195, op := Op.load 70 (Operand.tmp 194), type := 70, pos := "law.go:269", after := #[{ on := 42, ground := Ground.data }, { on := 39, ground := Ground.guard }], guard := some (39, true) },
    { dst := some 196, op := Op.call { callee := Callee.value (Operand.func 41), args := #[Operand.tmp 195], argTypes := #[70] }, type := 90, pos := "law.go:269", after := #[{ on := 43, ground := Ground.data }, { on := 39, ground := Ground.chain }, { on := 39, ground := Ground.guard }], guard := some (39, true) },
    { dst := some 197, op := Op.call { callee := Callee.builtin Builtin.len, args := #[Operand.tmp 196], argTypes := #[90] }, type := 3, pos := "law.go:269", after := #[{ on := 44, ground := Ground.data }, { on := 39, ground := Ground.guard }], guard := some (39, true) },
    { dst := some 198, op := Op.move (Operand.tmp 19), type := 76, pos := "law.go:269", after := #[{ on := 39, ground := Ground.guard }], guard := some (39, true) },
    { dst := some 199, op := Op.nilCheck (Operand.tmp 198), type := 0, pos := "law.go:269", after := #[{ on := 46, ground := Ground.data }, { on := 39, ground := Ground.guard }], guard := some (39, true) },
    { dst := some 200, op := Op.fieldAddr 78 (Operand.tmp 199) 3, type := 0, pos := "law.go:269", after := #[{ on := 47, ground := Ground.data }, { on := 39, ground := Ground.guard }], guard := some (39, true) },
    { dst := some 201, op := Op.load 3 (Operand.tmp 200), type := 3, pos := "law.go:269", after := #[{ on := 48, ground := Ground.data }, { on := 39, ground := Ground.guard }], guard := some (39, true) },
    { dst := some 202, op := Op.binOp BinOp.eql 3 (Operand.tmp 197) (Operand.tmp 201) 3, type := 4, pos := "law.go:269", after := #[{ on := 45, ground := Ground.data }, { on := 49, ground := Ground.data }, { on := 39, ground := Ground.guard }], guard := some (39, true) },
    { dst := some 203, op := Op.pick (Operand.tmp 191) (Operand.tmp 202) (Operand.const (Value.bool false)), type := 4, pos := "law.go:269", after := #[{ on := 39, ground := Ground.data }, { on := 50, ground := Ground.data }], guard := none },
    { dst := some 204, op := Op.move (Operand.tmp 203), type := 4, pos := "law.go:269", after := #[{ on := 51, ground := Ground.data }, { on := 44, ground := Ground.chain }], guard := none },
    { dst := some 205, op := Op.move (Operand.tmp 19), type := 76, pos := "law.go:269", after := #[{ on := 52, ground := Ground.guard }], guard := some (52, true) },
    { dst := some 206, op := Op.nilCheck (Operand.tmp 205), type := 0, pos := "law.go:269", after := #[{ on := 53, ground := Ground.data }, { on := 52, ground := Ground.guard }], guard := some (52, true) },
    { dst := some 207, op := Op.fieldAddr 78 (Operand.tmp 206) 0, type := 0, pos := "law.go:269", after := #[{ on := 54, ground := Ground.data }, { on := 52, ground := Ground.guard }], guard := some (52, true) },
    { dst := some 208, op := Op.load 70 (Operand.tmp 207), type := 70, pos := "law.go:269", after := #[{ on := 55, ground := Ground.data }, { on := 52, ground := Ground.guard }], guard := some (52, true) },
    { dst := some 209, op := Op.call { callee := Callee.value (Operand.func 42), args := #[Operand.tmp 208], argTypes := #[70] }, type := 3, pos := "law.go:269", after := #[{ on := 56, ground := Ground.data }, { on := 52, ground := Ground.chain }, { on := 52, ground := Ground.guard }], guard := some (52, true) },
    { dst := some 210, op := Op.binOp BinOp.eql 3 (Operand.tmp 209) (Operand.const (Value.int IntKind.i64 0)) 3, type := 4, pos := "law.go:269", after := #[{ on := 57, ground := Ground.data }, { on := 52, ground := Ground.guard }], guard := some (52, true) },
    { dst := some 211, op := Op.pick (Operand.tmp 204) (Operand.tmp 210) (Operand.const (Value.bool false)), type := 4, pos := "law.go:269", after := #[{ on := 52, ground := Ground.data }, { on := 58, ground := Ground.data }], guard := none },
    { dst := some 5, op := Op.assign (Operand.tmp 211), type := 4, pos := "law.go:269", after := #[{ on := 59, ground := Ground.data }, { on := 57, ground := Ground.chain }, { on := 0, ground := Ground.phase }, { on := 1, ground := Ground.phase }, { on := 2, ground := Ground.phase }, { on := 3, ground := Ground.phase }, { on := 4, ground := Ground.phase }, { on := 5, ground := Ground.phase }, { on := 6, ground := Ground.phase }, { on := 7, ground := Ground.phase }, { on := 8, ground := Ground.phase }, { on := 9, ground := Ground.phase }, { on := 10, ground := Ground.phase }, { on := 11, ground := Ground.phase }, { on := 12, ground := Ground.phase }, { on := 13, ground := Ground.phase }, { on := 14, ground := Ground.phase }, { on := 15, ground := Ground.phase }, { on := 16, ground := Ground.phase }, { on := 17, ground := Ground.phase }, { on := 18, ground := Ground.phase }, { on := 19, ground := Ground.phase }, { on := 20, ground := Ground.phase }, { on := 21, ground := Ground.phase }, { on := 22, ground := Ground.phase }, { on := 23, ground := Ground.phase }, { on := 24, ground := Ground.phase }, { on := 25, ground := Ground.phase }, { on := 26, ground := Ground.phase }, { on := 27, ground := Ground.phase }, { on := 28, ground := Ground.phase }, { on := 29, ground := Ground.phase }, { on := 30, ground := Ground.phase }, { on := 31, ground := Ground.phase }, { on := 32, ground := Ground.phase }, { on := 33, ground := Ground.phase }, { on := 34, ground := Ground.phase }, { on := 35, ground := Ground.phase }, { on := 36, ground := Ground.phase }, { on := 37, ground := Ground.phase }, { on := 38, ground := Ground.phase }, { on := 39, ground := Ground.phase }, { on := 40, ground := Ground.phase }, { on := 41, ground := Ground.phase }, { on := 42, ground := Ground.phase }, { on := 43, ground := Ground.phase }, { on := 44, ground := Ground.phase }, { on := 45, ground := Ground.phase }, { on := 46, ground := Ground.phase }, { on := 47, ground := Ground.phase }, { on := 48, ground := Ground.phase }, { on := 49, ground := Ground.phase }, { on := 50, ground := Ground.phase }, { on := 51, ground := Ground.phase }, { on := 52, ground := Ground.phase }, { on := 53, ground := Ground.phase }, { on := 54, ground := Ground.phase }, { on := 55, ground := Ground.phase }, { on := 56, ground := Ground.phase }, { on := 57, ground := Ground.phase }, { on := 58, ground := Ground.phase }, { on := 59, ground := Ground.phase }], guard := none }] true).wp Try.prog Q { tmps := #[t0, t1, t2, t3, t4, t5, t6, t7, t8, t9, t10, t11, t12, t13, t14, t15, t16, t17, t18, .pointer (some ⟨nb, 0, none⟩), .slice ro Nw rc, .int .i64 0, t22, t23, t24, t25, t26, t27, t28, t29, t30, t31, t32, t33, t34, t35, t36, t37, t38, t39, t40, t41, t42, t43, t44, t45, t46, t47, t48, t49, t50, t51, t52, t53, t54, t55, t56, t57, t58, t59, t60, t61, t62, t63, t64, t65, t66, t67, t68, t69, t70, t71, t72, t73, t74, t75, t76, t77, t78, t79, t80, t81, t82, t83, t84, t85, t86, t87, t88, t89, t90, t91, t92, t93, t94, t95, t96, t97, t98, t99, t100, t101, t102, t103, t104, t105, t106, t107, t108, t109, t110, t111, t112, t113, t114, t115, t116, t117, t118, t119, t120, t121, t122, t123, t124, t125, t126, t127, t128, t129, t130, t131, t132, t133, t134, t135, t136, t137, t138, t139, t140, t141, t142, t143, t144, t145, t146, t147, t148, t149, t150, t151, t152, t153, t154, t155, t156, t157, t158, t159, t160, t161, t162, t163, t164, t165, t166, t167, t168, t169, t170, t171, t172, t173, t174, t175, t176, t177, t178, t179, t180, t181, t182, t183, t184, t185, t186, t187, t188, t189, t190, t191, t192, t193, t194, t195, t196, t197, t198, t199, t200, t201, t202, t203, t204, t205, t206, t207, t208, t209, t210, t211, t212], defers := D } V := by
  have B0 : Hid (Below V.heap.size V V.drew) := (Below.refl _ _).drew
  obtain ⟨kk, a39, a40⟩ := LK.out.a39
  have H39 := hide' a39
  have H40 := hide' a40
  clear a39 a40
  refine wp_region_noPanic ?_
  refine wp_region_held_drew (S := fun W => W.cell? ⟨nb, 0, none⟩ = some (.pointer (some ⟨x, 0, none⟩)) ∧ W.cell? ⟨nb, 1, none⟩ = some (.pointer (some ⟨ab, 0, none⟩)) ∧ W.cell? ⟨nb, 2, none⟩ = some (.pointer (some ⟨rb, 0, none⟩)) ∧ W.cell? ⟨nb, 3, none⟩ = some (.int .i64 (Nt : Int)) ∧ W.cell? ⟨rb, 1, none⟩ = some (.slice wo Nw wc)) (by kernel_rfl) S0 (fun hHeld => ?_)
  refine wpAnyH_take (i := 0) (oi := { dst := some 152, op := Op.move (Operand.tmp 21), type := 64, pos := "law.go:269", after := #[], guard := none }) (v := .int .i64 0) rfl (by kernel_rfl) (by kernel_rfl) (by kernel_rfl) (fun _ _ _ h => h) (Or.inl ⟨by kernel_rfl, fun w hSw => ?_⟩) (by assumption) ?_
  · dsimp only at hSw; go_simp
  (try simp only [Act.put, List.setIfInBounds_toArray, List.set_cons_zero, List.set_cons_succ])
  refine wpAnyH_take (i := 1) (oi := { dst := some 153, op := Op.binOp BinOp.eql 64 (Operand.tmp 152) (Operand.const (Value.int IntKind.i64 0)) 64, type := 4, pos := "law.go:269", after := #[{ on := 0, ground := Ground.data }], guard := none }) (v := .bool true) rfl (by kernel_rfl) (by kernel_rfl) (by kernel_rfl) (fun _ _ _ h => h) (Or.inl ⟨by kernel_rfl, fun w hSw => ?_⟩) (by assumption) ?_
  · dsimp only at hSw; go_simp
  (try simp only [Act.put, List.setIfInBounds_toArray, List.set_cons_zero, List.set_cons_succ])
  refine wpAnyH_take (i := 2) (oi := { dst := some 154, op := Op.move (Operand.tmp 153), type := 4, pos := "law.go:269", after := #[{ on := 1, ground := Ground.data }], guard := none }) (v := .bool true) rfl (by kernel_rfl) (by kernel_rfl) (by kernel_rfl) (fun _ _ _ h => h) (Or.inl ⟨by kernel_rfl, fun w hSw => ?_⟩) (by assumption) ?_
  · dsimp only at hSw; go_simp
  (try simp only [Act.put, List.setIfInBounds_toArray, List.set_cons_zero, List.set_cons_succ])
  refine wpAnyH_take (i := 3) (oi := { dst := some 155, op := Op.move (Operand.tmp 20), type := 22, pos := "law.go:269", after := #[{ on := 2, ground := Ground.guard }], guard := some (2, true) }) (v := .slice ro Nw rc) rfl (by kernel_rfl) (by kernel_rfl) (by kernel_rfl) (fun _ _ _ h => h) (Or.inl ⟨by kernel_rfl, fun w hSw => ?_⟩) (by assumption) ?_
  · dsimp only at hSw; go_simp
  (try simp only [Act.put, List.setIfInBounds_toArray, List.set_cons_zero, List.set_cons_succ])
  refine wpAnyH_take (i := 4) (oi := { dst := some 156, op := Op.move (Operand.tmp 19), type := 76, pos := "law.go:269", after := #[{ on := 2, ground := Ground.guard }], guard := some (2, true) }) (v := .pointer (some ⟨nb, 0, none⟩)) rfl (by kernel_rfl) (by kernel_rfl) (by kernel_rfl) (fun _ _ _ h => h) (Or.inl ⟨by kernel_rfl, fun w hSw => ?_⟩) (by assumption) ?_
  · dsimp only at hSw; go_simp
  (try simp only [Act.put, List.setIfInBounds_toArray, List.set_cons_zero, List.set_cons_succ])
  refine wpAnyH_take (i := 5) (oi := { dst := some 157, op := Op.nilCheck (Operand.tmp 156), type := 0, pos := "law.go:269", after := #[{ on := 4, ground := Ground.data }, { on := 2, ground := Ground.guard }], guard := some (2, true) }) (v := .pointer (some ⟨nb, 0, none⟩)) rfl (by kernel_rfl) (by kernel_rfl) (by kernel_rfl) (fun _ _ _ h => h) (Or.inl ⟨by kernel_rfl, fun w hSw => ?_⟩) (by assumption) ?_
  · dsimp only at hSw; go_simp
  (try simp only [Act.put, List.setIfInBounds_toArray, List.set_cons_zero, List.set_cons_succ])
  refine wpAnyH_take (i := 6) (oi := { dst := some 158, op := Op.fieldAddr 78 (Operand.tmp 157) 2, type := 0, pos := "law.go:269", after := #[{ on := 5, ground := Ground.data }, { on := 2, ground := Ground.guard }], guard := some (2, true) }) (v := .pointer (some ⟨nb, 2, none⟩)) rfl (by kernel_rfl) (by kernel_rfl) (by kernel_rfl) (fun _ _ _ h => h) (Or.inl ⟨by kernel_rfl, fun w hSw => ?_⟩) (by assumption) ?_
  · dsimp only at hSw; go_simp
  (try simp only [Act.put, List.setIfInBounds_toArray, List.set_cons_zero, List.set_cons_succ])
  refine wpAnyH_take (i := 7) (oi := { dst := some 159, op := Op.load 73 (Operand.tmp 158), type := 73, pos := "law.go:269", after := #[{ on := 6, ground := Ground.data }, { on := 2, ground := Ground.guard }], guard := some (2, true) }) (v := .pointer (some ⟨rb, 0, none⟩)) rfl (by kernel_rfl) (by kernel_rfl) (by kernel_rfl) (fun _ _ _ h => h) (Or.inl ⟨by kernel_rfl, fun w hSw => ?_⟩) (by assumption) ?_
  · dsimp only at hSw; go_simp
  (try simp only [Act.put, List.setIfInBounds_toArray, List.set_cons_zero, List.set_cons_succ])
  refine wpAnyH_take (i := 8) (oi := { dst := some 160, op := Op.nilCheck (Operand.tmp 159), type := 0, pos := "law.go:269", after := #[{ on := 7, ground := Ground.data }, { on := 2, ground := Ground.guard }], guard := some (2, true) }) (v := .pointer (some ⟨rb, 0, none⟩)) rfl (by kernel_rfl) (by kernel_rfl) (by kernel_rfl) (fun _ _ _ h => h) (Or.inl ⟨by kernel_rfl, fun w hSw => ?_⟩) (by assumption) ?_
  · dsimp only at hSw; go_simp
  (try simp only [Act.put, List.setIfInBounds_toArray, List.set_cons_zero, List.set_cons_succ])
  refine wpAnyH_take (i := 9) (oi := { dst := some 161, op := Op.fieldAddr 85 (Operand.tmp 160) 1, type := 0, pos := "law.go:269", after := #[{ on := 8, ground := Ground.data }, { on := 2, ground := Ground.guard }], guard := some (2, true) }) (v := .pointer (some ⟨rb, 1, none⟩)) rfl (by kernel_rfl) (by kernel_rfl) (by kernel_rfl) (fun _ _ _ h => h) (Or.inl ⟨by kernel_rfl, fun w hSw => ?_⟩) (by assumption) ?_
  · dsimp only at hSw; go_simp
  (try simp only [Act.put, List.setIfInBounds_toArray, List.set_cons_zero, List.set_cons_succ])
  refine wpAnyH_take (i := 10) (oi := { dst := some 162, op := Op.load 22 (Operand.tmp 161), type := 22, pos := "law.go:269", after := #[{ on := 9, ground := Ground.data }, { on := 2, ground := Ground.guard }], guard := some (2, true) }) (v := .slice wo Nw wc) rfl (by kernel_rfl) (by kernel_rfl) (by kernel_rfl) (fun _ _ _ h => h) (Or.inl ⟨by kernel_rfl, fun w hSw => ?_⟩) (by assumption) ?_
  · dsimp only at hSw; go_simp
  (try simp only [Act.put, List.setIfInBounds_toArray, List.set_cons_zero, List.set_cons_succ])
  refine wpAnyH_ready (rs := [11]) (by kernel_rfl) (by simp) ?_
  refine AllReadyH.cons (o := { dst := some 163, op := Op.call { callee := Callee.value (Operand.func 35), args := #[Operand.tmp 155, Operand.tmp 162], argTypes := #[22, 22] }, type := 4, pos := "law.go:269", after := #[{ on := 3, ground := Ground.data }, { on := 10, ground := Ground.data }, { on := 2, ground := Ground.chain }, { on := 2, ground := Ground.guard }], guard := some (2, true) }) rfl (fun K hK => ?_) AllReadyH.nil
  rw [if_pos (by kernel_rfl)]
  go_wp2_with fail
  refine (LK.out.a35 _ B0.out).mono ?_
  rintro e w35 ⟨rfl, Z35, K35⟩
  go_wp2_with fail
  refine hK.out _ _ (Z35) (fun hHeld => ?_)
  clear hK K
  (try simp only [Act.put, List.setIfInBounds_toArray, List.set_cons_zero, List.set_cons_succ])
  refine wpAnyH_take (i := 12) (oi := { dst := some 164, op := Op.pick (Operand.tmp 154) (Operand.tmp 163) (Operand.const (Value.bool false)), type := 4, pos := "law.go:269", after := #[{ on := 2, ground := Ground.data }, { on := 11, ground := Ground.data }], guard := none }) (v := .bool true) rfl (by kernel_rfl) (by kernel_rfl) (by kernel_rfl) (fun _ _ _ h => h) (Or.inl ⟨by kernel_rfl, fun w hSw => ?_⟩) (by assumption) ?_
  · dsimp only at hSw; go_simp
  (try simp only [Act.put, List.setIfInBounds_toArray, List.set_cons_zero, List.set_cons_succ])
  refine wpAnyH_take (i := 13) (oi := { dst := some 165, op := Op.move (Operand.tmp 164), type := 4, pos := "law.go:269", after := #[{ on := 12, ground := Ground.data }, { on := 11, ground := Ground.chain }], guard := none }) (v := .bool true) rfl (by kernel_rfl) (by kernel_rfl) (by kernel_rfl) (fun _ _ _ h => h) (Or.inl ⟨by kernel_rfl, fun w hSw => ?_⟩) (by assumption) ?_
  · dsimp only at hSw; go_simp
  (try simp only [Act.put, List.setIfInBounds_toArray, List.set_cons_zero, List.set_cons_succ])
  refine wpAnyH_take (i := 14) (oi := { dst := some 166, op := Op.move (Operand.tmp 19), type := 76, pos := "law.go:269", after := #[{ on := 13, ground := Ground.guard }], guard := some (13, true) }) (v := .pointer (some ⟨nb, 0, none⟩)) rfl (by kernel_rfl) (by kernel_rfl) (by kernel_rfl) (fun _ _ _ h => h) (Or.inl ⟨by kernel_rfl, fun w hSw => ?_⟩) (by assumption) ?_
  · dsimp only at hSw; go_simp
  (try simp only [Act.put, List.setIfInBounds_toArray, List.set_cons_zero, List.set_cons_succ])
  refine wpAnyH_take (i := 15) (oi := { dst := some 167, op := Op.nilCheck (Operand.tmp 166), type := 0, pos := "law.go:269", after := #[{ on := 14, ground := Ground.data }, { on := 13, ground := Ground.guard }], guard := some (13, true) }) (v := .pointer (some ⟨nb, 0, none⟩)) rfl (by kernel_rfl) (by kernel_rfl) (by kernel_rfl) (fun _ _ _ h => h) (Or.inl ⟨by kernel_rfl, fun w hSw => ?_⟩) (by assumption) ?_
  · dsimp only at hSw; go_simp
  (try simp only [Act.put, List.setIfInBounds_toArray, List.set_cons_zero, List.set_cons_succ])
  refine wpAnyH_take (i := 16) (oi := { dst := some 168, op := Op.fieldAddr 78 (Operand.tmp 167) 1, type := 0, pos := "law.go:269", after := #[{ on := 15, ground := Ground.data }, { on := 13, ground := Ground.guard }], guard := some (13, true) }) (v := .pointer (some ⟨nb, 1, none⟩)) rfl (by kernel_rfl) (by kernel_rfl) (by kernel_rfl) (fun _ _ _ h => h) (Or.inl ⟨by kernel_rfl, fun w hSw => ?_⟩) (by assumption) ?_
  · dsimp only at hSw; go_simp
  (try simp only [Act.put, List.setIfInBounds_toArray, List.set_cons_zero, List.set_cons_succ])
  refine wpAnyH_take (i := 17) (oi := { dst := some 169, op := Op.load 63 (Operand.tmp 168), type := 63, pos := "law.go:269", after := #[{ on := 16, ground := Ground.data }, { on := 13, ground := Ground.guard }], guard := some (13, true) }) (v := .pointer (some ⟨ab, 0, none⟩)) rfl (by kernel_rfl) (by kernel_rfl) (by kernel_rfl) (fun _ _ _ h => h) (Or.inl ⟨by kernel_rfl, fun w hSw => ?_⟩) (by assumption) ?_
  · dsimp only at hSw; go_simp
  (try simp only [Act.put, List.setIfInBounds_toArray, List.set_cons_zero, List.set_cons_succ])
  refine wpAnyH_take (i := 19) (oi := { dst := some 171, op := Op.move (Operand.tmp 19), type := 76, pos := "law.go:269", after := #[{ on := 13, ground := Ground.guard }], guard := some (13, true) }) (v := .pointer (some ⟨nb, 0, none⟩)) rfl (by kernel_rfl) (by kernel_rfl) (by kernel_rfl) (fun _ _ _ h => h) (Or.inl ⟨by kernel_rfl, fun w hSw => ?_⟩) (by assumption) ?_
  · dsimp only at hSw; go_simp
  (try simp only [Act.put, List.setIfInBounds_toArray, List.set_cons_zero, List.set_cons_succ])
  refine wpAnyH_take (i := 20) (oi := { dst := some 172, op := Op.nilCheck (Operand.tmp 171), type := 0, pos := "law.go:269", after := #[{ on := 19, ground := Ground.data }, { on := 13, ground := Ground.guard }], guard := some (13, true) }) (v := .pointer (some ⟨nb, 0, none⟩)) rfl (by kernel_rfl) (by kernel_rfl) (by kernel_rfl) (fun _ _ _ h => h) (Or.inl ⟨by kernel_rfl, fun w hSw => ?_⟩) (by assumption) ?_
  · dsimp only at hSw; go_simp
  (try simp only [Act.put, List.setIfInBounds_toArray, List.set_cons_zero, List.set_cons_succ])
  refine wpAnyH_take (i := 21) (oi := { dst := some 173, op := Op.fieldAddr 78 (Operand.tmp 172) 2, type := 0, pos := "law.go:269", after := #[{ on := 20, ground := Ground.data }, { on := 13, ground := Ground.guard }], guard := some (13, true) }) (v := .pointer (some ⟨nb, 2, none⟩)) rfl (by kernel_rfl) (by kernel_rfl) (by kernel_rfl) (fun _ _ _ h => h) (Or.inl ⟨by kernel_rfl, fun w hSw => ?_⟩) (by assumption) ?_
  · dsimp only at hSw; go_simp
  (try simp only [Act.put, List.setIfInBounds_toArray, List.set_cons_zero, List.set_cons_succ])
  refine wpAnyH_take (i := 22) (oi := { dst := some 174, op := Op.load 73 (Operand.tmp 173), type := 73, pos := "law.go:269", after := #[{ on := 21, ground := Ground.data }, { on := 13, ground := Ground.guard }], guard := some (13, true) }) (v := .pointer (some ⟨rb, 0, none⟩)) rfl (by kernel_rfl) (by kernel_rfl) (by kernel_rfl) (fun _ _ _ h => h) (Or.inl ⟨by kernel_rfl, fun w hSw => ?_⟩) (by assumption) ?_
  · dsimp only at hSw; go_simp
  (try simp only [Act.put, List.setIfInBounds_toArray, List.set_cons_zero, List.set_cons_succ])
  refine wpAnyH_ready (rs := [18]) (by kernel_rfl) (by simp) ?_
  refine AllReadyH.cons (o := { dst := some 170, op := Op.call { callee := Callee.value (Operand.func 37), args := #[Operand.tmp 169], argTypes := #[63] }, type := 88, pos := "law.go:269", after := #[{ on := 17, ground := Ground.data }, { on := 13, ground := Ground.chain }, { on := 13, ground := Ground.guard }], guard := some (13, true) }) rfl (fun K hK => ?_) AllReadyH.nil
  rw [if_pos (by kernel_rfl)]
  go_wp2_with fail
  refine (LK.out.a37 _ K35.out).mono ?_
  rintro e w37 ⟨g37, r37, rfl, Z37, K37⟩
  go_wp2_with fail
  refine hK.out _ _ (Z37) (fun hHeld => ?_)
  clear hK K
  (try simp only [Act.put, List.setIfInBounds_toArray, List.set_cons_zero, List.set_cons_succ])
  refine wpAnyH_ready (rs := [23]) (by kernel_rfl) (by simp) ?_
  refine AllReadyH.cons (o := { dst := some 175, op := Op.call { callee := Callee.value (Operand.func 38), args := #[Operand.tmp 174], argTypes := #[73] }, type := 88, pos := "law.go:269", after := #[{ on := 22, ground := Ground.data }, { on := 18, ground := Ground.chain }, { on := 13, ground := Ground.guard }], guard := some (13, true) }) rfl (fun K hK => ?_) AllReadyH.nil
  rw [if_pos (by kernel_rfl)]
  go_wp2_with fail
  refine (LK.out.a38 _ K37.out.1).mono ?_
  rintro e w38 ⟨g38, r38, rfl, Z38, K38⟩
  go_wp2_with fail
  refine hK.out _ _ (Z38) (fun hHeld => ?_)
  clear hK K
  (try simp only [Act.put, List.setIfInBounds_toArray, List.set_cons_zero, List.set_cons_succ])
  refine wpAnyH_ready (rs := [24]) (by kernel_rfl) (by simp) ?_
  refine AllReadyH.cons (o := { dst := some 176, op := Op.call { callee := Callee.value (Operand.func 36), args := #[Operand.tmp 170, Operand.tmp 175], argTypes := #[88, 88] }, type := 4, pos := "law.go:269", after := #[{ on := 18, ground := Ground.data }, { on := 23, ground := Ground.data }, { on := 23, ground := Ground.chain }, { on := 13, ground := Ground.guard }], guard := some (13, true) }) rfl (fun K hK => ?_) AllReadyH.nil
  rw [if_pos (by kernel_rfl)]
  go_wp2_with fail
  refine (LK.out.a36 _ _ _ _ _ K38.out.1 (K37.out.2.2.below K38.out.2.1) K38.out.2.2).mono ?_
  rintro e w36 ⟨rfl, Z36, K36⟩
  go_wp2_with fail
  refine hK.out _ _ (Z36) (fun hHeld => ?_)
  clear hK K
  (try simp only [Act.put, List.setIfInBounds_toArray, List.set_cons_zero, List.set_cons_succ])
  refine wpAnyH_take (i := 25) (oi := { dst := some 177, op := Op.pick (Operand.tmp 165) (Operand.tmp 176) (Operand.const (Value.bool false)), type := 4, pos := "law.go:269", after := #[{ on := 13, ground := Ground.data }, { on := 24, ground := Ground.data }], guard := none }) (v := .bool true) rfl (by kernel_rfl) (by kernel_rfl) (by kernel_rfl) (fun _ _ _ h => h) (Or.inl ⟨by kernel_rfl, fun w hSw => ?_⟩) (by assumption) ?_
  · dsimp only at hSw; go_simp
  (try simp only [Act.put, List.setIfInBounds_toArray, List.set_cons_zero, List.set_cons_succ])
  refine wpAnyH_take (i := 26) (oi := { dst := some 178, op := Op.move (Operand.tmp 177), type := 4, pos := "law.go:269", after := #[{ on := 25, ground := Ground.data }, { on := 24, ground := Ground.chain }], guard := none }) (v := .bool true) rfl (by kernel_rfl) (by kernel_rfl) (by kernel_rfl) (fun _ _ _ h => h) (Or.inl ⟨by kernel_rfl, fun w hSw => ?_⟩) (by assumption) ?_
  · dsimp only at hSw; go_simp
  (try simp only [Act.put, List.setIfInBounds_toArray, List.set_cons_zero, List.set_cons_succ])
  refine wpAnyH_take (i := 27) (oi := { dst := some 179, op := Op.move (Operand.tmp 19), type := 76, pos := "law.go:269", after := #[{ on := 26, ground := Ground.guard }], guard := some (26, true) }) (v := .pointer (some ⟨nb, 0, none⟩)) rfl (by kernel_rfl) (by kernel_rfl) (by kernel_rfl) (fun _ _ _ h => h) (Or.inl ⟨by kernel_rfl, fun w hSw => ?_⟩) (by assumption) ?_
  · dsimp only at hSw; go_simp
  (try simp only [Act.put, List.setIfInBounds_toArray, List.set_cons_zero, List.set_cons_succ])
  refine wpAnyH_take (i := 28) (oi := { dst := some 180, op := Op.nilCheck (Operand.tmp 179), type := 0, pos := "law.go:269", after := #[{ on := 27, ground := Ground.data }, { on := 26, ground := Ground.guard }], guard := some (26, true) }) (v := .pointer (some ⟨nb, 0, none⟩)) rfl (by kernel_rfl) (by kernel_rfl) (by kernel_rfl) (fun _ _ _ h => h) (Or.inl ⟨by kernel_rfl, fun w hSw => ?_⟩) (by assumption) ?_
  · dsimp only at hSw; go_simp
  (try simp only [Act.put, List.setIfInBounds_toArray, List.set_cons_zero, List.set_cons_succ])
  refine wpAnyH_take (i := 29) (oi := { dst := some 181, op := Op.fieldAddr 78 (Operand.tmp 180) 1, type := 0, pos := "law.go:269", after := #[{ on := 28, ground := Ground.data }, { on := 26, ground := Ground.guard }], guard := some (26, true) }) (v := .pointer (some ⟨nb, 1, none⟩)) rfl (by kernel_rfl) (by kernel_rfl) (by kernel_rfl) (fun _ _ _ h => h) (Or.inl ⟨by kernel_rfl, fun w hSw => ?_⟩) (by assumption) ?_
  · dsimp only at hSw; go_simp
  (try simp only [Act.put, List.setIfInBounds_toArray, List.set_cons_zero, List.set_cons_succ])
  refine wpAnyH_take (i := 30) (oi := { dst := some 182, op := Op.load 63 (Operand.tmp 181), type := 63, pos := "law.go:269", after := #[{ on := 29, ground := Ground.data }, { on := 26, ground := Ground.guard }], guard := some (26, true) }) (v := .pointer (some ⟨ab, 0, none⟩)) rfl (by kernel_rfl) (by kernel_rfl) (by kernel_rfl) (fun _ _ _ h => h) (Or.inl ⟨by kernel_rfl, fun w hSw => ?_⟩) (by assumption) ?_
  · dsimp only at hSw; go_simp
  (try simp only [Act.put, List.setIfInBounds_toArray, List.set_cons_zero, List.set_cons_succ])
  refine wpAnyH_take (i := 32) (oi := { dst := some 184, op := Op.move (Operand.tmp 19), type := 76, pos := "law.go:269", after := #[{ on := 26, ground := Ground.guard }], guard := some (26, true) }) (v := .pointer (some ⟨nb, 0, none⟩)) rfl (by kernel_rfl) (by kernel_rfl) (by kernel_rfl) (fun _ _ _ h => h) (Or.inl ⟨by kernel_rfl, fun w hSw => ?_⟩) (by assumption) ?_
  · dsimp only at hSw; go_simp
  (try simp only [Act.put, List.setIfInBounds_toArray, List.set_cons_zero, List.set_cons_succ])
  refine wpAnyH_take (i := 33) (oi := { dst := some 185, op := Op.nilCheck (Operand.tmp 184), type := 0, pos := "law.go:269", after := #[{ on := 32, ground := Ground.data }, { on := 26, ground := Ground.guard }], guard := some (26, true) }) (v := .pointer (some ⟨nb, 0, none⟩)) rfl (by kernel_rfl) (by kernel_rfl) (by kernel_rfl) (fun _ _ _ h => h) (Or.inl ⟨by kernel_rfl, fun w hSw => ?_⟩) (by assumption) ?_
  · dsimp only at hSw; go_simp
  (try simp only [Act.put, List.setIfInBounds_toArray, List.set_cons_zero, List.set_cons_succ])
  refine wpAnyH_take (i := 34) (oi := { dst := some 186, op := Op.fieldAddr 78 (Operand.tmp 185) 2, type := 0, pos := "law.go:269", after := #[{ on := 33, ground := Ground.data }, { on := 26, ground := Ground.guard }], guard := some (26, true) }) (v := .pointer (some ⟨nb, 2, none⟩)) rfl (by kernel_rfl) (by kernel_rfl) (by kernel_rfl) (fun _ _ _ h => h) (Or.inl ⟨by kernel_rfl, fun w hSw => ?_⟩) (by assumption) ?_
  · dsimp only at hSw; go_simp
  (try simp only [Act.put, List.setIfInBounds_toArray, List.set_cons_zero, List.set_cons_succ])
  refine wpAnyH_take (i := 35) (oi := { dst := some 187, op := Op.load 73 (Operand.tmp 186), type := 73, pos := "law.go:269", after := #[{ on := 34, ground := Ground.data }, { on := 26, ground := Ground.guard }], guard := some (26, true) }) (v := .pointer (some ⟨rb, 0, none⟩)) rfl (by kernel_rfl) (by kernel_rfl) (by kernel_rfl) (fun _ _ _ h => h) (Or.inl ⟨by kernel_rfl, fun w hSw => ?_⟩) (by assumption) ?_
  · dsimp only at hSw; go_simp
  (try simp only [Act.put, List.setIfInBounds_toArray, List.set_cons_zero, List.set_cons_succ])
  refine wpAnyH_ready (rs := [31]) (by kernel_rfl) (by simp) ?_
  refine AllReadyH.cons (o := { dst := some 183, op := Op.call { callee := Callee.value (Operand.func 39), args := #[Operand.tmp 182], argTypes := #[63] }, type := 3, pos := "law.go:269", after := #[{ on := 30, ground := Ground.data }, { on := 26, ground := Ground.chain }, { on := 26, ground := Ground.guard }], guard := some (26, true) }) rfl (fun K hK => ?_) AllReadyH.nil
  rw [if_pos (by kernel_rfl)]
  go_wp2_with fail
  refine (H39.out _ K36.out).mono ?_
  rintro e w39 ⟨rfl, Z39, K39⟩
  go_wp2_with fail
  refine hK.out _ _ (Z39) (fun hHeld => ?_)
  clear hK K
  (try simp only [Act.put, List.setIfInBounds_toArray, List.set_cons_zero, List.set_cons_succ])
  refine wpAnyH_ready (rs := [36]) (by kernel_rfl) (by simp) ?_
  refine AllReadyH.cons (o := { dst := some 188, op := Op.call { callee := Callee.value (Operand.func 40), args := #[Operand.tmp 187], argTypes := #[73] }, type := 3, pos := "law.go:269", after := #[{ on := 35, ground := Ground.data }, { on := 31, ground := Ground.chain }, { on := 26, ground := Ground.guard }], guard := some (26, true) }) rfl (fun K hK => ?_) AllReadyH.nil
  rw [if_pos (by kernel_rfl)]
  go_wp2_with fail
  refine (H40.out _ K39.out).mono ?_
  rintro e w40 ⟨rfl, Z40, K40⟩
  go_wp2_with fail
  refine hK.out _ _ (Z40) (fun hHeld => ?_)
  clear hK K
  (try simp only [Act.put, List.setIfInBounds_toArray, List.set_cons_zero, List.set_cons_succ])
  refine wpAnyH_take (i := 37) (oi := { dst := some 189, op := Op.binOp BinOp.eql 3 (Operand.tmp 183) (Operand.tmp 188) 3, type := 4, pos := "law.go:269", after := #[{ on := 31, ground := Ground.data }, { on := 36, ground := Ground.data }, { on := 26, ground := Ground.guard }], guard := some (26, true) }) (v := .bool true) rfl (by kernel_rfl) (by kernel_rfl) (by kernel_rfl) (fun _ _ _ h => h) (Or.inl ⟨by kernel_rfl, fun w hSw => ?_⟩) (by assumption) ?_
  · dsimp only at hSw; go_simp
  (try simp only [Act.put, List.setIfInBounds_toArray, List.set_cons_zero, List.set_cons_succ])
  refine wpAnyH_take (i := 38) (oi := { dst := some 190, op := Op.pick (Operand.tmp 178) (Operand.tmp 189) (Operand.const (Value.bool false)), type := 4, pos := "law.go:269", after := #[{ on := 26, ground := Ground.data }, { on := 37, ground := Ground.data }], guard := none }) (v := .bool true) rfl (by kernel_rfl) (by kernel_rfl) (by kernel_rfl) (fun _ _ _ h => h) (Or.inl ⟨by kernel_rfl, fun w hSw => ?_⟩) (by assumption) ?_
  · dsimp only at hSw; go_simp
  (try simp only [Act.put, List.setIfInBounds_toArray, List.set_cons_zero, List.set_cons_succ])
  refine wpAnyH_take (i := 39) (oi := { dst := some 191, op := Op.move (Operand.tmp 190), type := 4, pos := "law.go:269", after := #[{ on := 38, ground := Ground.data }, { on := 36, ground := Ground.chain }], guard := none }) (v := .bool true) rfl (by kernel_rfl) (by kernel_rfl) (by kernel_rfl) (fun _ _ _ h => h) (Or.inl ⟨by kernel_rfl, fun w hSw => ?_⟩) (by assumption) ?_
  · dsimp only at hSw; go_simp
  (try simp only [Act.put, List.setIfInBounds_toArray, List.set_cons_zero, List.set_cons_succ])
  refine wpAnyH_take (i := 40) (oi := { dst := some 192, op := Op.move (Operand.tmp 19), type := 76, pos := "law.go:269", after := #[{ on := 39, ground := Ground.guard }], guard := some (39, true) }) (v := .pointer (some ⟨nb, 0, none⟩)) rfl (by kernel_rfl) (by kernel_rfl) (by kernel_rfl) (fun _ _ _ h => h) (Or.inl ⟨by kernel_rfl, fun w hSw => ?_⟩) (by assumption) ?_
  · dsimp only at hSw; go_simp
  (try simp only [Act.put, List.setIfInBounds_toArray, List.set_cons_zero, List.set_cons_succ])
  refine wpAnyH_take (i := 41) (oi := { dst := some 193, op := Op.nilCheck (Operand.tmp 192), type := 0, pos := "law.go:269", after := #[{ on := 40, ground := Ground.data }, { on := 39, ground := Ground.guard }], guard := some (39, true) }) (v := .pointer (some ⟨nb, 0, none⟩)) rfl (by kernel_rfl) (by kernel_rfl) (by kernel_rfl) (fun _ _ _ h => h) (Or.inl ⟨by kernel_rfl, fun w hSw => ?_⟩) (by assumption) ?_
  · dsimp only at hSw; go_simp
  (try simp only [Act.put, List.setIfInBounds_toArray, List.set_cons_zero, List.set_cons_succ])
  refine wpAnyH_take (i := 42) (oi := { dst := some 194, op := Op.fieldAddr 78 (Operand.tmp 193) 0, type := 0, pos := "law.go:269", after := #[{ on := 41, ground := Ground.data }, { on := 39, ground := Ground.guard }], guard := some (39, true) }) (v := .pointer (some ⟨nb, 0, none⟩)) rfl (by kernel_rfl) (by kernel_rfl) (by kernel_rfl) (fun _ _ _ h => h) (Or.inl ⟨by kernel_rfl, fun w hSw => ?_⟩) (by assumption) ?_
  · dsimp only at hSw; go_simp
  (try simp only [Act.put, List.setIfInBounds_toArray, List.set_cons_zero, List.set_cons_succ])
  refine wpAnyH_take (i := 43) (oi := { dst := some 195, op := Op.load 70 (Operand.tmp 194), type := 70, pos := "law.go:269", after := #[{ on := 42, ground := Ground.data }, { on := 39, ground := Ground.guard }], guard := some (39, true) }) (v := .pointer (some ⟨x, 0, none⟩)) rfl (by kernel_rfl) (by kernel_rfl) (by kernel_rfl) (fun _ _ _ h => h) (Or.inl ⟨by kernel_rfl, fun w hSw => ?_⟩) (by assumption) ?_
  · dsimp only at hSw; go_simp
  (try simp only [Act.put, List.setIfInBounds_toArray, List.set_cons_zero, List.set_cons_succ])
  refine wpAnyH_take (i := 46) (oi := { dst := some 198, op := Op.move (Operand.tmp 19), type := 76, pos := "law.go:269", after := #[{ on := 39, ground := Ground.guard }], guard := some (39, true) }) (v := .pointer (some ⟨nb, 0, none⟩)) rfl (by kernel_rfl) (by kernel_rfl) (by kernel_rfl) (fun _ _ _ h => h) (Or.inl ⟨by kernel_rfl, fun w hSw => ?_⟩) (by assumption) ?_
  · dsimp only at hSw; go_simp
  (try simp only [Act.put, List.setIfInBounds_toArray, List.set_cons_zero, List.set_cons_succ])
  refine wpAnyH_take (i := 47) (oi := { dst := some 199, op := Op.nilCheck (Operand.tmp 198), type := 0, pos := "law.go:269", after := #[{ on := 46, ground := Ground.data }, { on := 39, ground := Ground.guard }], guard := some (39, true) }) (v := .pointer (some ⟨nb, 0, none⟩)) rfl (by kernel_rfl) (by kernel_rfl) (by kernel_rfl) (fun _ _ _ h => h) (Or.inl ⟨by kernel_rfl, fun w hSw => ?_⟩) (by assumption) ?_
  · dsimp only at hSw; go_simp
  (try simp only [Act.put, List.setIfInBounds_toArray, List.set_cons_zero, List.set_cons_succ])
  refine wpAnyH_take (i := 48) (oi := { dst := some 200, op := Op.fieldAddr 78 (Operand.tmp 199) 3, type := 0, pos := "law.go:269", after := #[{ on := 47, ground := Ground.data }, { on := 39, ground := Ground.guard }], guard := some (39, true) }) (v := .pointer (some ⟨nb, 3, none⟩)) rfl (by kernel_rfl) (by kernel_rfl) (by kernel_rfl) (fun _ _ _ h => h) (Or.inl ⟨by kernel_rfl, fun w hSw => ?_⟩) (by assumption) ?_
  · dsimp only at hSw; go_simp
  (try simp only [Act.put, List.setIfInBounds_toArray, List.set_cons_zero, List.set_cons_succ])
  refine wpAnyH_take (i := 49) (oi := { dst := some 201, op := Op.load 3 (Operand.tmp 200), type := 3, pos := "law.go:269", after := #[{ on := 48, ground := Ground.data }, { on := 39, ground := Ground.guard }], guard := some (39, true) }) (v := .int .i64 (Nt : Int)) rfl (by kernel_rfl) (by kernel_rfl) (by kernel_rfl) (fun _ _ _ h => h) (Or.inl ⟨by kernel_rfl, fun w hSw => ?_⟩) (by assumption) ?_
  · dsimp only at hSw; go_simp
  (try simp only [Act.put, List.setIfInBounds_toArray, List.set_cons_zero, List.set_cons_succ])
  refine wpAnyH_ready (rs := [44]) (by kernel_rfl) (by simp) ?_
  refine AllReadyH.cons (o := { dst := some 196, op := Op.call { callee := Callee.value (Operand.func 41), args := #[Operand.tmp 195], argTypes := #[70] }, type := 90, pos := "law.go:269", after := #[{ on := 43, ground := Ground.data }, { on := 39, ground := Ground.chain }, { on := 39, ground := Ground.guard }], guard := some (39, true) }) rfl (fun K hK => ?_) AllReadyH.nil
  rw [if_pos (by kernel_rfl)]
  go_wp2_with fail
  refine (LK.out.a41 _ K40.out).mono ?_
  rintro e w41 ⟨tq, tc, rfl, Z41, K41⟩
  go_wp2_with fail
  refine hK.out _ _ (Z41) (fun hHeld => ?_)
  clear hK K
  (try simp only [Act.put, List.setIfInBounds_toArray, List.set_cons_zero, List.set_cons_succ])
  refine wpAnyH_take (i := 45) (oi := { dst := some 197, op := Op.call { callee := Callee.builtin Builtin.len, args := #[Operand.tmp 196], argTypes := #[90] }, type := 3, pos := "law.go:269", after := #[{ on := 44, ground := Ground.data }, { on := 39, ground := Ground.guard }], guard := some (39, true) }) (v := .int .i64 (Nt : Int)) rfl (by kernel_rfl) (by kernel_rfl) (by kernel_rfl) (fun _ _ _ h => h) (Or.inl ⟨by kernel_rfl, fun w hSw => ?_⟩) (by assumption) ?_
  · dsimp only at hSw; go_simp
  (try simp only [Act.put, List.setIfInBounds_toArray, List.set_cons_zero, List.set_cons_succ])
  refine wpAnyH_take (i := 50) (oi := { dst := some 202, op := Op.binOp BinOp.eql 3 (Operand.tmp 197) (Operand.tmp 201) 3, type := 4, pos := "law.go:269", after := #[{ on := 45, ground := Ground.data }, { on := 49, ground := Ground.data }, { on := 39, ground := Ground.guard }], guard := some (39, true) }) (v := .bool true) rfl (by kernel_rfl) (by kernel_rfl) (by kernel_rfl) (fun _ _ _ h => h) (Or.inl ⟨by kernel_rfl, fun w hSw => ?_⟩) (by assumption) ?_
  · dsimp only at hSw; go_simp
  (try simp only [Act.put, List.setIfInBounds_toArray, List.set_cons_zero, List.set_cons_succ])
  refine wpAnyH_take (i := 51) (oi := { dst := some 203, op := Op.pick (Operand.tmp 191) (Operand.tmp 202) (Operand.const (Value.bool false)), type := 4, pos := "law.go:269", after := #[{ on := 39, ground := Ground.data }, { on := 50, ground := Ground.data }], guard := none }) (v := .bool true) rfl (by kernel_rfl) (by kernel_rfl) (by kernel_rfl) (fun _ _ _ h => h) (Or.inl ⟨by kernel_rfl, fun w hSw => ?_⟩) (by assumption) ?_
  · dsimp only at hSw; go_simp
  (try simp only [Act.put, List.setIfInBounds_toArray, List.set_cons_zero, List.set_cons_succ])
  refine wpAnyH_take (i := 52) (oi := { dst := some 204, op := Op.move (Operand.tmp 203), type := 4, pos := "law.go:269", after := #[{ on := 51, ground := Ground.data }, { on := 44, ground := Ground.chain }], guard := none }) (v := .bool true) rfl (by kernel_rfl) (by kernel_rfl) (by kernel_rfl) (fun _ _ _ h => h) (Or.inl ⟨by kernel_rfl, fun w hSw => ?_⟩) (by assumption) ?_
  · dsimp only at hSw; go_simp
  (try simp only [Act.put, List.setIfInBounds_toArray, List.set_cons_zero, List.set_cons_succ])
  refine wpAnyH_take (i := 53) (oi := { dst := some 205, op := Op.move (Operand.tmp 19), type := 76, pos := "law.go:269", after := #[{ on := 52, ground := Ground.guard }], guard := some (52, true) }) (v := .pointer (some ⟨nb, 0, none⟩)) rfl (by kernel_rfl) (by kernel_rfl) (by kernel_rfl) (fun _ _ _ h => h) (Or.inl ⟨by kernel_rfl, fun w hSw => ?_⟩) (by assumption) ?_
  · dsimp only at hSw; go_simp
  (try simp only [Act.put, List.setIfInBounds_toArray, List.set_cons_zero, List.set_cons_succ])
  refine wpAnyH_take (i := 54) (oi := { dst := some 206, op := Op.nilCheck (Operand.tmp 205), type := 0, pos := "law.go:269", after := #[{ on := 53, ground := Ground.data }, { on := 52, ground := Ground.guard }], guard := some (52, true) }) (v := .pointer (some ⟨nb, 0, none⟩)) rfl (by kernel_rfl) (by kernel_rfl) (by kernel_rfl) (fun _ _ _ h => h) (Or.inl ⟨by kernel_rfl, fun w hSw => ?_⟩) (by assumption) ?_
  · dsimp only at hSw; go_simp
  (try simp only [Act.put, List.setIfInBounds_toArray, List.set_cons_zero, List.set_cons_succ])
  refine wpAnyH_take (i := 55) (oi := { dst := some 207, op := Op.fieldAddr 78 (Operand.tmp 206) 0, type := 0, pos := "law.go:269", after := #[{ on := 54, ground := Ground.data }, { on := 52, ground := Ground.guard }], guard := some (52, true) }) (v := .pointer (some ⟨nb, 0, none⟩)) rfl (by kernel_rfl) (by kernel_rfl) (by kernel_rfl) (fun _ _ _ h => h) (Or.inl ⟨by kernel_rfl, fun w hSw => ?_⟩) (by assumption) ?_
  · dsimp only at hSw; go_simp
  (try simp only [Act.put, List.setIfInBounds_toArray, List.set_cons_zero, List.set_cons_succ])
  refine wpAnyH_take (i := 56) (oi := { dst := some 208, op := Op.load 70 (Operand.tmp 207), type := 70, pos := "law.go:269", after := #[{ on := 55, ground := Ground.data }, { on := 52, ground := Ground.guard }], guard := some (52, true) }) (v := .pointer (some ⟨x, 0, none⟩)) rfl (by kernel_rfl) (by kernel_rfl) (by kernel_rfl) (fun _ _ _ h => h) (Or.inl ⟨by kernel_rfl, fun w hSw => ?_⟩) (by assumption) ?_
  · dsimp only at hSw; go_simp
  (try simp only [Act.put, List.setIfInBounds_toArray, List.set_cons_zero, List.set_cons_succ])
  refine wpAnyH_ready (rs := [57]) (by kernel_rfl) (by simp) ?_
  refine AllReadyH.cons (o := { dst := some 209, op := Op.call { callee := Callee.value (Operand.func 42), args := #[Operand.tmp 208], argTypes := #[70] }, type := 3, pos := "law.go:269", after := #[{ on := 56, ground := Ground.data }, { on := 52, ground := Ground.chain }, { on := 52, ground := Ground.guard }], guard := some (52, true) }) rfl (fun K hK => ?_) AllReadyH.nil
  rw [if_pos (by kernel_rfl)]
  go_wp2_with fail
  refine (LK.out.a42 _ K41.out).mono ?_
  rintro e w42 ⟨rfl, Z42, K42⟩
  go_wp2_with fail
  refine hK.out _ _ (Z42) (fun hHeld => ?_)
  clear hK K
  (try simp only [Act.put, List.setIfInBounds_toArray, List.set_cons_zero, List.set_cons_succ])
  refine wpAnyH_take (i := 58) (oi := { dst := some 210, op := Op.binOp BinOp.eql 3 (Operand.tmp 209) (Operand.const (Value.int IntKind.i64 0)) 3, type := 4, pos := "law.go:269", after := #[{ on := 57, ground := Ground.data }, { on := 52, ground := Ground.guard }], guard := some (52, true) }) (v := .bool true) rfl (by kernel_rfl) (by kernel_rfl) (by kernel_rfl) (fun _ _ _ h => h) (Or.inl ⟨by kernel_rfl, fun w hSw => ?_⟩) (by assumption) ?_
  · dsimp only at hSw; go_simp
  (try simp only [Act.put, List.setIfInBounds_toArray, List.set_cons_zero, List.set_cons_succ])
  refine wpAnyH_take (i := 59) (oi := { dst := some 211, op := Op.pick (Operand.tmp 204) (Operand.tmp 210) (Operand.const (Value.bool false)), type := 4, pos := "law.go:269", after := #[{ on := 52, ground := Ground.data }, { on := 58, ground := Ground.data }], guard := none }) (v := .bool true) rfl (by kernel_rfl) (by kernel_rfl) (by kernel_rfl) (fun _ _ _ h => h) (Or.inl ⟨by kernel_rfl, fun w hSw => ?_⟩) (by assumption) ?_
  · dsimp only at hSw; go_simp
  (try simp only [Act.put, List.setIfInBounds_toArray, List.set_cons_zero, List.set_cons_succ])
  refine wpAnyH_take (i := 60) (oi := { dst := some 5, op := Op.assign (Operand.tmp 211), type := 4, pos := "law.go:269", after := #[{ on := 59, ground := Ground.data }, { on := 57, ground := Ground.chain }, { on := 0, ground := Ground.phase }, { on := 1, ground := Ground.phase }, { on := 2, ground := Ground.phase }, { on := 3, ground := Ground.phase }, { on := 4, ground := Ground.phase }, { on := 5, ground := Ground.phase }, { on := 6, ground := Ground.phase }, { on := 7, ground := Ground.phase }, { on := 8, ground := Ground.phase }, { on := 9, ground := Ground.phase }, { on := 10, ground := Ground.phase }, { on := 11, ground := Ground.phase }, { on := 12, ground := Ground.phase }, { on := 13, ground := Ground.phase }, { on := 14, ground := Ground.phase }, { on := 15, ground := Ground.phase }, { on := 16, ground := Ground.phase }, { on := 17, ground := Ground.phase }, { on := 18, ground := Ground.phase }, { on := 19, ground := Ground.phase }, { on := 20, ground := Ground.phase }, { on := 21, ground := Ground.phase }, { on := 22, ground := Ground.phase }, { on := 23, ground := Ground.phase }, { on := 24, ground := Ground.phase }, { on := 25, ground := Ground.phase }, { on := 26, ground := Ground.phase }, { on := 27, ground := Ground.phase }, { on := 28, ground := Ground.phase }, { on := 29, ground := Ground.phase }, { on := 30, ground := Ground.phase }, { on := 31, ground := Ground.phase }, { on := 32, ground := Ground.phase }, { on := 33, ground := Ground.phase }, { on := 34, ground := Ground.phase }, { on := 35, ground := Ground.phase }, { on := 36, ground := Ground.phase }, { on := 37, ground := Ground.phase }, { on := 38, ground := Ground.phase }, { on := 39, ground := Ground.phase }, { on := 40, ground := Ground.phase }, { on := 41, ground := Ground.phase }, { on := 42, ground := Ground.phase }, { on := 43, ground := Ground.phase }, { on := 44, ground := Ground.phase }, { on := 45, ground := Ground.phase }, { on := 46, ground := Ground.phase }, { on := 47, ground := Ground.phase }, { on := 48, ground := Ground.phase }, { on := 49, ground := Ground.phase }, { on := 50, ground := Ground.phase }, { on := 51, ground := Ground.phase }, { on := 52, ground := Ground.phase }, { on := 53, ground := Ground.phase }, { on := 54, ground := Ground.phase }, { on := 55, ground := Ground.phase }, { on := 56, ground := Ground.phase }, { on := 57, ground := Ground.phase }, { on := 58, ground := Ground.phase }, { on := 59, ground := Ground.phase }], guard := none }) (v := .bool true) rfl (by kernel_rfl) (by kernel_rfl) (by kernel_rfl) (fun _ _ _ h => h) (Or.inl ⟨by kernel_rfl, fun w hSw => ?_⟩) (by assumption) ?_
  · dsimp only at hSw; go_simp
  (try simp only [Act.put, List.setIfInBounds_toArray, List.set_cons_zero, List.set_cons_succ])
  refine wpAnyH_done (by kernel_rfl) ?_ _
  exact NoPanic.normal (hQ _ _ _ _ _ _ _ w42 K42.out)
end Ep
end Go.Proofs.Ytfeehnfpfheojaa
