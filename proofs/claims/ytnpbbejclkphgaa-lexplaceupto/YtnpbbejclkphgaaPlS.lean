import Derived.Test.YtnpbbejclkphgaaRows
import Derived.Test.YtnpbbejclkphgaaChr
import Derived.WalkKit
import Derived.WalkSpells
import Derived.WalkLawsBesides
import Derived.Below
import Derived.Laws.RangeAny
import Derived.LoopTactic
set_option linter.unusedVariables false
set_option linter.unusedSimpArgs false
namespace Go.Proofs.Ytnpbbejclkphgaa
open Go.RowKit

theorem hide' {p : Prop} (h : p) : Hid p := h
theorem ret_bool {a b : Bool} (h : a = b) : Ending.returned (.bool a) = .returned (.bool b) := by rw [h]

theorem ret_sec {a b c d e f : Int} (h : a = d) (k : b = e) (l : c = f) : Ending.returned (.tuple #[.int .u8 a, .int .u8 b, .int .i64 c]) = .returned (.tuple #[.int .u8 d, .int .u8 e, .int .i64 f]) := by rw [h, k, l]
set_option maxRecDepth 100000 in
set_option maxHeartbeats 4000000 in
theorem second_any (b : Nat) (w : World) (hb : b < 256) :
    Calls Try.prog 10 #[.int .u8 (b : Int)] w fun e w' => e = .returned (.tuple #[.int .u8 (L.lo b : Int), .int .u8 (L.hi b : Int), .int .i64 (L.nn b : Int)]) ∧ w' = w := by
  obtain ⟨c, hc⟩ : ∃ c : Int, c = (b : Int) := ⟨_, rfl⟩
  have Hc := hide' (And.intro hc hb)
  rw [← hc]
  clear hc hb
  go_enter Try.func10, Try.ntmps10
  go_wp2
  all_goals go_ret3
  all_goals
    obtain ⟨hc, hb⟩ := Hc.out
    refine ⟨ret_sec ?_ ?_ ?_, rfl⟩
    all_goals
      clear Hc
      try simp only [decide_eq_true_eq, decide_eq_false_iff_not, beq_iff_eq, beq_eq_false_iff_ne, Bool.and_eq_true, Bool.and_eq_false_iff, ne_eq] at *
      simp only [L.lo, L.hi, L.nn]
      repeat' split
      all_goals first | rfl | (exfalso; omega)

theorem bt_at (s : ByteArray) (k : Nat) (h : k < s.size) : (s[k]'h).toNat = L.bt s k := by
  have := get_at s k h
  rw [← this]; rfl
theorem bt_atI (s : ByteArray) (k : Nat) (h : k < s.size) : ((s[k]'h).toNat : Int) = (L.bt s k : Int) := by rw [bt_at]
theorem wth_at (s : ByteArray) (k l h : Nat) (c : k < s.size) : L.wth s k l h = (decide (l ≤ L.bt s k) && decide (L.bt s k ≤ h)) := by simp [L.wth, c]
set_option maxRecDepth 100000 in
set_option maxHeartbeats 1000000 in
theorem within_any (s : ByteArray) (k l h : Nat) (w : World) :
    Calls Try.prog 11 #[.string s, .int .i64 (k : Int), .int .u8 (l : Int), .int .u8 (h : Int)] w fun e w' => e = .returned (.bool (L.wth s k l h)) ∧ w' = w := by
  by_cases c1 : k < s.size
  · go_enter Try.func11, Try.ntmps11
    go_wp2
    all_goals go_ret
    all_goals
      refine ⟨ret_bool ?_, rfl⟩
      rw [wth_at s k l h c1]
      simp_all [bt_at]
      try omega
  · go_enter Try.func11, Try.ntmps11
    go_wp2
    go_ret
    exact ⟨ret_bool (by simp [L.wth, c1]), rfl⟩

end Go.Proofs.Ytnpbbejclkphgaa
