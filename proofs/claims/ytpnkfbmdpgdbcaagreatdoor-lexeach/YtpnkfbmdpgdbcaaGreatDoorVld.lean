import Derived.Test.YtpnkfbmdpgdbcaaGreatDoorVldP
import Derived.Test.YtpnkfbmdpgdbcaaGreatDoorLeaf
import Derived.Test.YtpnkfbmdpgdbcaaGreatDoorShelf
import Derived.Laws.RangeAny
import Derived.Laws.DeepStrings4
import Derived.LoopTactic
set_option linter.unusedVariables false
set_option linter.unusedSimpArgs false
namespace Go.Proofs.YtpnkfbmdpgdbcaaGreatDoor
open Go.RowKit
set_option maxHeartbeats 400000 in
theorem isControl_any (r : Int) (w : World) :
    Calls Tryz.prog 26 #[.int .i32 r] w fun e w' => e = .returned (.bool (N.ctl r)) ∧ w' = w := by
  by_cases h1 : r < 32
  · go_enter Tryz.func26, Tryz.ntmps26
    go_wp2
    go_ret
    exact ⟨ret_bool (by simp [N.ctl, h1]), rfl⟩
  · by_cases h2 : 127 ≤ r
    · by_cases h3 : r ≤ 159
      all_goals
        go_enter Tryz.func26, Tryz.ntmps26
        go_wp2
        go_ret
        exact ⟨ret_bool (by simp [N.ctl, h1, h2, h3]), rfl⟩
    · go_enter Tryz.func26, Tryz.ntmps26
      go_wp2
      go_ret
      exact ⟨ret_bool (by simp [N.ctl]; omega), rfl⟩

set_option maxHeartbeats 400000 in
theorem startsWith_any (s : ByteArray) (w : World) :
    Calls Tryz.prog 27 #[.string s] w fun e w' => e = .returned (.bool (Lib.hasPrefix s.data.toList [239, 191, 189])) ∧ w' = w := by
  go_enter Tryz.func27, Tryz.ntmps27
  go_wp2_with (go_at_call 46; refine (sh.strings_HasPrefix _ _ _).mono ?_; rintro e w' ⟨rfl, rfl⟩)
  go_ret
  exact ⟨rfl, rfl⟩

theorem below_iter (w : World) (s : ByteArray) (pos : Nat) : Below w.heap.size w (w.iter s pos) := (Below.refl _ _).alloc (Nat.le_refl _) _

set_option maxRecDepth 100000 in
set_option maxHeartbeats 1000000 in
theorem valid_any (s : ByteArray) (w : World) (hs : s.size ≤ maxLen) :
    Calls Tryz.prog 19 #[.string s] w fun e w' => e = .returned (.bool (N.valid s)) ∧ Below w.heap.size w w' := by
  unfold maxLen at hs
  by_cases h1 : s.size < 1
  · go_enter Tryz.func19, Tryz.ntmps19
    go_wp2
    go_ret
    exact ⟨ret_bool (by simp [N.valid]; omega), Below.refl _ _⟩
  by_cases h2 : 32 < s.size
  · go_enter Tryz.func19, Tryz.ntmps19
    go_wp2
    go_ret
    exact ⟨ret_bool (by simp [N.valid]; omega), Below.refl _ _⟩
  have hv : N.valid s = N.scan s s.size 0 := by simp [N.valid]; omega
  have Hv : Hid (N.valid s = N.scan s s.size 0) := hv
  clear hv
  have g1 : decide ((s.size : Int) < 1) = false := by simp; omega
  have g2 : decide ((32 : Int) < (s.size : Int)) = false := by simp; omega
  go_enter Tryz.func19, Tryz.ntmps19
  go_wp2
  go_loopw [3] (fun _ w' => ∃ (pos f : Nat), w' = w.iter s pos ∧ N.scan s f pos = N.scan s s.size 0 ∧ s.size ≤ pos + f) (fun _ w' => s.size - w'.iterPos w.heap.size)
  case atStart => exact ⟨0, s.size, rfl, rfl, by omega⟩
  case round =>
    obtain ⟨pos, f, rfl, hc, hf⟩ := hrel
    have Hc : Hid (N.scan s f pos = N.scan s s.size 0) := hc
    clear hc
    by_cases hp : pos < s.size
    · have hnx : ∀ ty, (Instr.next (.pointer (some ⟨w.heap.size, 0, none⟩)) true ty).run Tryz.prog (w.iter s pos) = .ok (.tuple #[.bool true, .int .i64 pos, .int .i32 (N.rn s pos)]) (w.iter s (pos + N.wd s pos)) := fun ty => run_next_any w s pos ty hp
      by_cases hk : N.ctl (N.rn s pos) = true
      · go_wp2_with (go_at_call 26; refine (isControl_any _ _).mono ?_; rintro e w' ⟨rfl, rfl⟩)
        go_ret
        exact ⟨ret_bool (by rw [Hv.out, ← Hc.out, N.scan_no s f pos hp hf (by simp [N.bad, hk])]), below_iter _ _ _⟩
      · have hk' : N.ctl (N.rn s pos) = false := by simpa using hk
        by_cases he : N.rn s pos = 65533
        · have he' : (N.rn s pos == 65533) = true := by simpa using he
          have hn := N.non_pre s pos hp he
          have Hn : Hid (N.non s pos = !Lib.hasPrefix (List.take (s.size - pos) (s.data.toList.drop pos)) [239, 191, 189]) := by
            rw [List.take_of_length_le (by rw [List.length_drop, Array.length_toList]; exact Nat.le_refl _)]; exact hn
          clear hn he hk
          go_wp2_with (first | (go_at_call 26; refine (isControl_any _ _).mono ?_; rintro e w' ⟨rfl, rfl⟩) | (go_at_call 27; refine (startsWith_any _ _).mono ?_; rintro e w' ⟨rfl, rfl⟩))
          · have hx : N.non s pos = true := by rw [Hn.out]; assumption
            go_ret
            exact ⟨ret_bool (by rw [Hv.out, ← Hc.out, N.scan_no s f pos hp hf (by simp [N.bad, hx])]), below_iter _ _ _⟩
          · have hx : N.non s pos = false := by rw [Hn.out]; assumption
            obtain ⟨g, hg1, hg2⟩ := N.scan_go s f pos hp hf (by simp [N.bad, hk', hx])
            have hw := N.wd_pos s pos
            exact ⟨⟨_, g, rfl, by rw [← hg1]; exact Hc.out, hg2⟩, by simp; omega⟩
        · have he' : (N.rn s pos == 65533) = false := by simpa using he
          have hx : N.non s pos = false := N.non_rn s pos he
          have Hx : Hid (N.non s pos = false) := hx
          clear hx hk he
          go_wp2_with (first | (go_at_call 26; refine (isControl_any _ _).mono ?_; rintro e w' ⟨rfl, rfl⟩) | (go_at_call 27; refine (startsWith_any _ _).mono ?_; rintro e w' ⟨rfl, rfl⟩))
          obtain ⟨g, hg1, hg2⟩ := N.scan_go s f pos hp hf (by simp [N.bad, hk', Hx.out])
          have hw := N.wd_pos s pos
          exact ⟨⟨_, g, rfl, by rw [← hg1]; exact Hc.out, hg2⟩, by simp; omega⟩
    · have hnx : ∀ ty, (Instr.next (.pointer (some ⟨w.heap.size, 0, none⟩)) true ty).run Tryz.prog (w.iter s pos) = _ := fun ty => run_next_end w s pos ty hp
      go_wp2
      go_ret
      exact ⟨ret_bool (by rw [Hv.out, ← Hc.out, N.scan_end s f pos hp]), below_iter _ _ _⟩
end Go.Proofs.YtpnkfbmdpgdbcaaGreatDoor
