import Derived.Test.YtollaamlnddhcaaMtc
set_option linter.unusedVariables false
set_option linter.unusedSimpArgs false
namespace Go.Proofs.Ytollaamlnddhcaa
open Go.RowKit Go.Maps
namespace U
set_option maxRecDepth 100000 in
set_option maxHeartbeats 2000000 in
/-- the document's 'about': whos, whats and a trust against a rule -/
theorem about_any (R : Ru) (wo : Option Addr) (wc : Nat) (ws : List ByteArray) (t : Nat) (ao : Option Addr) (ac : Nat) (zs : List ByteArray) (w : World) (h1 : S.Ints wo ws w) (hw : ws.length ≤ wc) (h2 : S.Ints ao zs w) (ha : zs.length ≤ ac) (hz : Hid (ws.length < 4398046511104 ∧ zs.length < 4398046511104)) :
    Calls Try.prog 76 #[R.val, .slice wo ws.length wc, .float .f64 t, .slice ao zs.length ac] w fun e w' => e = .returned (.bool (isIn ws R.who && isIn zs R.what && M.pass R.cd R.lv t)) ∧ Below w.heap.size w w' := by
  have hRv : Hid (R.val = .agg #[R.d, .string R.who, .string R.what, .slice R.ro R.rl.length R.rc, .int .i8 R.cd, .float .f64 R.lv]) := rfl
  rw [hRv.out]
  go_enter Try.func76, Try.ntmps76
  go_wp2_with fail
  have f1 := heap_alloc_new w (.cells #[R.d, .string R.who, .string R.what, .slice R.ro R.rl.length R.rc, .int .i8 R.cd, .float .f64 R.lv] 65)
  have bV : Below w.heap.size w (w.alloc (.cells #[R.d, .string R.who, .string R.what, .slice R.ro R.rl.length R.rc, .int .i8 R.cd, .float .f64 R.lv] 65)) := (Below.refl _ _).alloc (Nat.le_refl _) _
  generalize w.alloc (.cells #[R.d, .string R.who, .string R.what, .slice R.ro R.rl.length R.rc, .int .i8 R.cd, .float .f64 R.lv] 65) = V at *
  have HW := hide' (h1.below bV)
  have HA := hide' (h2.below bV)
  have HbV := hide' bV
  have e0 : V.cell? ⟨w.heap.size, 0, none⟩ = some R.d := by rw [Lib.cell_of_heap f1]; rfl
  have e1 : V.cell? ⟨w.heap.size, 1, none⟩ = some (.string R.who) := by rw [Lib.cell_of_heap f1]; rfl
  have e2 : V.cell? ⟨w.heap.size, 2, none⟩ = some (.string R.what) := by rw [Lib.cell_of_heap f1]; rfl
  have e3 : V.cell? ⟨w.heap.size, 3, none⟩ = some (.slice R.ro R.rl.length R.rc) := by rw [Lib.cell_of_heap f1]; rfl
  have e4 : V.cell? ⟨w.heap.size, 4, none⟩ = some (.int .i8 R.cd) := by rw [Lib.cell_of_heap f1]; rfl
  have e5 : V.cell? ⟨w.heap.size, 5, none⟩ = some (.float .f64 R.lv) := by rw [Lib.cell_of_heap f1]; rfl
  clear f1 bV h1 h2
  refine (S.in_any wo wc ws R.who V HW.out hw hz.out.1).mono ?_
  rintro e V1 ⟨rfl, rfl⟩
  rename World => V
  go_wp2_with fail
  refine (S.in_any ao ac zs R.what V HA.out ha hz.out.2).mono ?_
  rintro e V1 ⟨rfl, rfl⟩
  rename World => V
  go_wp2_with fail
  refine (M.rpasses_any R.d (.string R.who) (.string R.what) (.slice R.ro R.rl.length R.rc) R.cd R.lv t V).mono ?_
  rintro e w1 ⟨rfl, b1⟩
  have hb := hide' (HbV.out.trans (b1.mono HbV.out.size))
  clear b1 e0 e1 e2 e3 e4 e5
  cases x1 : isIn ws R.who <;> cases x2 : isIn zs R.what <;> cases x3 : M.pass R.cd R.lv t <;>
    (go_wp2_with fail; go_ret; exact ⟨by rw [x1, x2, x3]; rfl, hb.out⟩)
end U
end Go.Proofs.Ytollaamlnddhcaa
