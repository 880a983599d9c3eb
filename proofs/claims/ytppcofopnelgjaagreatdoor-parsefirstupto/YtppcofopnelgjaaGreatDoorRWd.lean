import Derived.Test.YtppcofopnelgjaaGreatDoorGrA
import Derived.WalkLawsBesides
set_option linter.unusedVariables false
set_option linter.unusedSimpArgs false
namespace Go.Proofs.YtppcofopnelgjaaGreatDoor
open Go.RowKit
theorem ret_kind {a : Int} {b : Bool} {l : List UInt8} (h : R.kindOf l = a) (k : (R.kindOf l != 0) = b) : Ending.returned (.tuple #[.int .i8 a, .bool b]) = .returned (.tuple #[.int .i8 (R.kindOf l), .bool (R.kindOf l != 0)]) := by rw [h, ← k, h]
set_option maxRecDepth 100000 in
set_option maxHeartbeats 4000000 in
theorem kindOf_any (s : ByteArray) (w : World) :
    Calls Tryz.prog 107 #[.string s] w fun e w' => e = .returned (.tuple #[.int .i8 (R.kindOf s.toList), .bool (R.kindOf s.toList != 0)]) ∧ w' = w := by
  go_enter Tryz.func107, Tryz.ntmps107
  go_wp2
  all_goals first
    | (exfalso; simp_all; done)
    | (go_ret2; exact ⟨ret_kind (by simp [R.kindOf, *]) (by simp [R.kindOf, *]), rfl⟩)
set_option maxRecDepth 100000 in
set_option maxHeartbeats 4000000 in
theorem rKeyword_any (s : ByteArray) (w : World) :
    Calls Tryz.prog 134 #[.string s] w fun e w' => e = .returned (.bool (R.isKey s.toList)) ∧ w' = w := by
  have HK := hide' (kindOf_any s)
  have hd : R.isKey s.toList = ((s.toList == [116, 114, 117, 115, 116]) || ((s.toList == [111, 110]) || ((s.toList == [97, 98, 111, 118, 101]) || ((s.toList == [98, 101, 108, 111, 119]) || (R.kindOf s.toList != 0))))) := rfl
  rw [hd]
  clear hd
  generalize (R.kindOf s.toList != 0) = q at *
  generalize R.kindOf s.toList = x at *
  go_enter Tryz.func134, Tryz.ntmps134
  go_wp2_with (go_at_call 107; refine (HK.out _).mono ?_; rintro e w1 ⟨rfl, hw1⟩; replace hw1 := hw1.symm; subst hw1)
  all_goals first
    | (exfalso; simp_all; done)
    | (go_ret; exact ⟨ret_bool (by simp [*]), rfl⟩)
set_option maxRecDepth 100000 in
set_option maxHeartbeats 4000000 in
theorem isName_any (t : R.Tok) (w : World) :
    Calls Tryz.prog 112 #[tv t] w fun e w' => e = .returned (.bool (R.isNm t)) ∧ Below w.heap.size w w' := by
  obtain ⟨k, s, l, c⟩ := t
  have HK := hide' (rKeyword_any s)
  unfold tv R.isNm
  simp only
  generalize R.isKey s.toList = x at *
  cases h2 : (k == 2) <;> cases h1 : (k == 1)
  all_goals
    go_enter Tryz.func112, Tryz.ntmps112
    go_wp2_with (go_at_call 134; refine (HK.out _).mono ?_; rintro e w1 ⟨rfl, hw1⟩; replace hw1 := hw1.symm; subst hw1)
    go_ret
    exact ⟨ret_bool (by simp [*]), (Below.refl _ _).alloc (Nat.le_refl _) _⟩
end Go.Proofs.YtppcofopnelgjaaGreatDoor
