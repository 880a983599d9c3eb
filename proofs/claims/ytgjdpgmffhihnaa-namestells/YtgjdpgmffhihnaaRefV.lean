import Derived.Test.YtgjdpgmffhihnaaCharF
set_option linter.unusedVariables false
set_option linter.unusedSimpArgs false
namespace Go.Proofs.Ytgjdpgmffhihnaa
open Go.RowKit

theorem char_any (s : ByteArray) (i : Nat) (w : World) (hs : s.size ≤ 32) (hi : i < s.size) :
    Calls Try.prog 33 #[.string s, .int .i64 i] w fun e w' => e = .returned (.tuple #[.int .i64 (N.chC s i), .int .i64 (N.chN s i)]) ∧ w' = w := by
  by_cases h1 : N.at0 s i < 128
  · exact char_1 s i w hs hi h1
  by_cases h2 : N.at0 s i < 192
  · exact char_x s i w hs hi (by omega) (.inl h2)
  by_cases h3 : N.at0 s i < 224
  · by_cases q : i + 2 ≤ s.size
    · exact char_2 s i w hs hi (by omega) h3 q
    · exact char_2short s i w hs hi (by omega) h3 (by omega)
  by_cases h4 : N.at0 s i < 240
  · by_cases q : i + 3 ≤ s.size
    · exact char_3 s i w hs hi (by omega) h4 q
    · exact char_3short s i w hs hi (by omega) h4 (by omega)
  by_cases h5 : N.at0 s i < 248
  · by_cases q : i + 4 ≤ s.size
    · exact char_4 s i w hs hi (by omega) h5 q
    · exact char_4short s i w hs hi (by omega) h5 (by omega)
  exact char_x s i w hs hi (by omega) (.inr (by omega))

namespace N
theorem wd_le (s : ByteArray) (i : Nat) : wd s i ≤ 4 := by
  unfold wd Utf8.decode
  simp only
  repeat' split
  all_goals omega
theorem bad_ctl (s : ByteArray) (i : Nat) (h : rn s i < 32 ∨ (127 ≤ rn s i ∧ rn s i ≤ 159)) : bad s i = true := by
  have hk : ctl (rn s i) = true := by simp [ctl]; omega
  simp [bad, hk]
theorem bad_not (s : ByteArray) (i : Nat) (hn : non s i = false) (h : 32 ≤ rn s i ∧ (rn s i < 127 ∨ 159 < rn s i)) : bad s i = false := by
  have hk : ctl (rn s i) = false := by simp [ctl]; omega
  simp [bad, hk, hn]
end N

theorem char_none (s : ByteArray) (i : Nat) (w : World) (hs : s.size ≤ 32) (hi : i < s.size) (h : N.non s i = true) :
    Calls Try.prog 33 #[.string s, .int .i64 i] w fun e w' => e = .returned (.tuple #[.int .i64 0, .int .i64 0]) ∧ w' = w := by
  have c := char_any s i w hs hi
  unfold N.chC N.chN at c
  rw [h] at c
  exact c
theorem char_some (s : ByteArray) (i : Nat) (w : World) (hs : s.size ≤ 32) (hi : i < s.size) (h : N.non s i = false) :
    Calls Try.prog 33 #[.string s, .int .i64 i] w fun e w' => e = .returned (.tuple #[.int .i64 (N.rn s i), .int .i64 (N.wd s i : Nat)]) ∧ w' = w := by
  have c := char_any s i w hs hi
  unfold N.chC N.chN at c
  rw [h] at c
  exact c

set_option maxRecDepth 100000 in
set_option maxHeartbeats 1000000 in
theorem refValid_any (s : ByteArray) (w : World) (hs : s.size ≤ maxLen) :
    Calls Try.prog 11 #[.string s] w fun e w' => e = .returned (.bool (N.valid s)) ∧ w' = w := by
  unfold maxLen at hs
  by_cases h1 : s.size < 1
  · go_enter Try.func11, Try.ntmps11
    go_wp2
    go_ret
    exact ⟨ret_bool (by simp [N.valid]; omega), rfl⟩
  by_cases h2 : 32 < s.size
  · go_enter Try.func11, Try.ntmps11
    go_wp2
    go_ret
    exact ⟨ret_bool (by simp [N.valid]; omega), rfl⟩
  have Hv : Hid (N.valid s = N.scan s s.size 0) := (show N.valid s = N.scan s s.size 0 by simp [N.valid]; omega)
  have h32 : s.size ≤ 32 := by omega
  have g1 : decide ((s.size : Int) < 1) = false := by simp; omega
  have g2 : decide ((32 : Int) < (s.size : Int)) = false := by simp; omega
  go_enter Try.func11, Try.ntmps11
  go_wp2
  go_loop [3] (fun a => ∃ (pos f : Nat), a = .int .i64 pos ∧ pos ≤ 64 ∧ N.scan s f pos = N.scan s s.size 0 ∧ s.size ≤ pos + f) (fun a => s.size - (intOf a).toNat)
  case atStart => exact ⟨0, s.size, rfl, by omega, rfl, by omega⟩
  case round =>
    obtain ⟨pos, f, rfl, hp64, hc, hf⟩ := hrel
    have Hc : Hid (N.scan s f pos = N.scan s s.size 0) := hc
    clear hc
    by_cases hp : pos < s.size
    · have hw1 := N.wd_pos s pos
      have hw2 := N.wd_le s pos
      have hr := N.rn_le s pos
      have hr1 := hr.1
      have hr2 := hr.2
      clear hr
      cases hn : N.non s pos with
      | true =>
        go_wp2_with (go_at_call 33; refine (char_none s pos _ h32 hp hn).mono ?_; rintro e w' ⟨rfl, rfl⟩)
        go_ret
        exact ⟨ret_bool (by rw [Hv.out, ← Hc.out, N.scan_no s f pos hp hf (by simp [N.bad, hn])]), rfl⟩
      | false =>
        have hz : ((N.wd s pos : Int) == 0) = false := by simp; omega
        go_wp2_with (go_at_call 33; refine (char_some s pos _ h32 hp hn).mono ?_; rintro e w' ⟨rfl, rfl⟩)
        · go_ret
          exact ⟨ret_bool (by rw [Hv.out, ← Hc.out, N.scan_no s f pos hp hf (N.bad_ctl s pos (by omega))]), rfl⟩
        · obtain ⟨g, hg1, hg2⟩ := N.scan_go s f pos hp hf (N.bad_not s pos hn (by omega))
          exact ⟨⟨pos + N.wd s pos, g, by go_num, by omega, by rw [← hg1]; exact Hc.out, hg2⟩, by simp [intOf]; omega⟩
        · obtain ⟨g, hg1, hg2⟩ := N.scan_go s f pos hp hf (N.bad_not s pos hn (by omega))
          exact ⟨⟨pos + N.wd s pos, g, by go_num, by omega, by rw [← hg1]; exact Hc.out, hg2⟩, by simp [intOf]; omega⟩
        · go_ret
          exact ⟨ret_bool (by rw [Hv.out, ← Hc.out, N.scan_no s f pos hp hf (N.bad_ctl s pos (by omega))]), rfl⟩
    · go_wp2
      go_ret
      exact ⟨ret_bool (by rw [Hv.out, ← Hc.out, N.scan_end s f pos hp]), rfl⟩
end Go.Proofs.Ytgjdpgmffhihnaa
