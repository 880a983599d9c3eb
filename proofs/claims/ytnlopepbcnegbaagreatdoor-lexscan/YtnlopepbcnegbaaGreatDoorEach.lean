import Derived.Test.YtnlopepbcnegbaaGreatDoorWalk
set_option linter.unusedVariables false
set_option linter.unusedSimpArgs false
namespace Go.Proofs.YtnlopepbcnegbaaGreatDoor
open Go.RowKit
set_option maxHeartbeats 1000000 in
set_option maxRecDepth 100000 in
theorem each_any (s : ByteArray) (w : World) (hs : s.size ≤ 65536) :
    Calls Tryz.prog 20 #[.string s] w fun e w' => ∃ (T : Tx) (cb : Nat), T.s = s ∧ T.C = L.cx s ∧ T.Ok ∧ (0 < T.N ∨ T.ro = none) ∧ e = .returned (.func (.func 30) #[] #[.pointer (some ⟨cb, 0, none⟩)]) ∧
      w'.heap[cb]? = some (.cells #[.string T.s, T.rv, T.sv] 70 (0, 0)) ∧ T.In (fun k => k < w.heap.size) w' ∧ w.heap.size ≤ cb ∧ Below w.heap.size w w' := by
  have e1 : decide ((65536 : Int) < (s.size : Int)) = false := by simp; omega
  go_enter Tryz.func20, Tryz.ntmps20
  go_wp2_with (go_at_call 29; refine (charactersOf_any _ _ hs).mono ?_; rintro e w1 ⟨T, hTs, hTC, hok, rfl, hin, hN, b1⟩; unfold Tx.rv Tx.sv; subst hTs)
  go_ret
  have ba : Below w1.heap.size w1 (w1.alloc (.cells #[.string T.s, .slice T.ro T.N T.rc, .slice (some ⟨T.sb, 0, none⟩) (T.N + 1) T.sc] 70)) := (Below.refl _ _).alloc (Nat.le_refl _) _
  exact ⟨T, w1.heap.size, rfl, hTC, hok, hN, rfl, heap_alloc_new _ _, hin.turn (turn_below ba), b1.size, b1.trans (ba.mono b1.size)⟩
theorem each_long (s : ByteArray) (w : World) (hs : 65536 < s.size) (hm : s.size ≤ maxLen) :
    Calls Tryz.prog 20 #[.string s] w fun e w' => e = .returned (.func (.func 28) #[] #[]) ∧ w' = w := by
  have e1 : decide ((65536 : Int) < (s.size : Int)) = true := by simp; omega
  go_enter Tryz.func20, Tryz.ntmps20
  go_wp2
  go_ret
  exact ⟨rfl, rfl⟩
end Go.Proofs.YtnlopepbcnegbaaGreatDoor
