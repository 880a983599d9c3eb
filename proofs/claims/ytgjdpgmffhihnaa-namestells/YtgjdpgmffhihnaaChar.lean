import Derived.Test.YtgjdpgmffhihnaaCharP
import Derived.Test.YtgjdpgmffhihnaaWritten
set_option linter.unusedVariables false
set_option linter.unusedSimpArgs false
namespace Go.Proofs.Ytgjdpgmffhihnaa
open Go.RowKit

theorem hide' {p : Prop} (h : p) : Hid p := h
theorem ret_ch {a b c d : Int} (h : a = b) (k : c = d) : Ending.returned (.tuple #[.int .i64 a, .int .i64 c]) = .returned (.tuple #[.int .i64 b, .int .i64 d]) := by rw [h, k]

set_option maxRecDepth 100000 in
set_option maxHeartbeats 1000000 in
theorem char_1 (s : ByteArray) (i : Nat) (w : World) (hs : s.size ≤ 32) (hi : i < s.size) (h : N.at0 s i < 128) :
    Calls Try.prog 33 #[.string s, .int .i64 i] w fun e w' => e = .returned (.tuple #[.int .i64 (N.chC s i), .int .i64 (N.chN s i)]) ∧ w' = w := by
  have hc := N.ch1 s i h
  have ea := N.at0_eq s i hi
  have bd := N.at0_lt s i
  rw [← ea] at h bd hc
  have b1 := bd.1
  have b2 := bd.2
  have Hc : Hid (N.chC s i = ((s[i]'hi).toNat : Int) ∧ N.chN s i = 1) := hc
  clear hc bd ea
  have g1 : decide ((i : Int) < 0) = false := by simp
  have g2 : decide ((s.size : Int) - i < 1) = false := by simp; omega
  have g3 : decide (128 ≤ ((s[i]'hi).toNat : Int)) = false := by simp; omega
  go_enter Try.func33, Try.ntmps33
  go_wp2
  go_loop [9, 11] (fun v k => k = .int .i64 1 ∧ v = .int .i64 ((s[i]'hi).toNat : Int)) (fun _ _ => 0)
  case atStart => exact ⟨rfl, rfl⟩
  case round =>
    obtain ⟨rfl, rfl⟩ := hrel
    have g4 : decide (((s[i]'hi).toNat : Int) < 0) = false := by simp
    have g5 : decide (1114111 < ((s[i]'hi).toNat : Int)) = false := by simp; omega
    have g6 : decide (55296 ≤ ((s[i]'hi).toNat : Int)) = false := by simp; omega
    go_wp2
    go_ret2
    exact ⟨ret_two (by rw [Hc.out.1]; rfl) (by rw [Hc.out.2]; rfl), rfl⟩

set_option maxRecDepth 100000 in
set_option maxHeartbeats 1000000 in
theorem char_x (s : ByteArray) (i : Nat) (w : World) (hs : s.size ≤ 32) (hi : i < s.size) (h : 128 ≤ N.at0 s i) (k : N.at0 s i < 192 ∨ 248 ≤ N.at0 s i) :
    Calls Try.prog 33 #[.string s, .int .i64 i] w fun e w' => e = .returned (.tuple #[.int .i64 (N.chC s i), .int .i64 (N.chN s i)]) ∧ w' = w := by
  have hc := N.chx s i h k
  have ea := N.at0_eq s i hi
  have bd := N.at0_lt s i
  rw [← ea] at h bd k
  have b1 := bd.1
  have b2 := bd.2
  have Hc : Hid (N.chC s i = 0 ∧ N.chN s i = 0) := hc
  clear hc bd ea
  rcases k with k | k
  all_goals
    go_enter Try.func33, Try.ntmps33
    go_wp2
    go_ret2
    exact ⟨ret_two (by rw [Hc.out.1]; rfl) (by rw [Hc.out.2]; rfl), rfl⟩

set_option maxRecDepth 100000 in
set_option maxHeartbeats 1000000 in
theorem char_2short (s : ByteArray) (i : Nat) (w : World) (hs : s.size ≤ 32) (hi : i < s.size) (h : 192 ≤ N.at0 s i) (k : N.at0 s i < 224) (q : s.size < i + 2) :
    Calls Try.prog 33 #[.string s, .int .i64 i] w fun e w' => e = .returned (.tuple #[.int .i64 (N.chC s i), .int .i64 (N.chN s i)]) ∧ w' = w := by
  have hc := N.ch2no s i h k (.inl q)
  have ea := N.at0_eq s i hi
  rw [← ea] at h k
  have Hc : Hid (N.chC s i = 0 ∧ N.chN s i = 0) := hc
  clear hc ea
  go_enter Try.func33, Try.ntmps33
  go_wp2
  go_ret2
  exact ⟨ret_two (by rw [Hc.out.1]; rfl) (by rw [Hc.out.2]; rfl), rfl⟩

set_option maxRecDepth 100000 in
set_option maxHeartbeats 2000000 in
theorem char_2 (s : ByteArray) (i : Nat) (w : World) (hs : s.size ≤ 32) (hi : i < s.size) (h : 192 ≤ N.at0 s i) (k : N.at0 s i < 224) (q : i + 2 ≤ s.size) :
    Calls Try.prog 33 #[.string s, .int .i64 i] w fun e w' => e = .returned (.tuple #[.int .i64 (N.chC s i), .int .i64 (N.chN s i)]) ∧ w' = w := by
  have p1 : i + 1 < s.size := by omega
  have hno := N.ch2no s i h k
  have hyes := N.ch2 s i h k q
  rw [← N.at0_eq s i hi] at h k
  rw [← N.at0_eq s i hi, ← N.at0_eq s (i + 1) p1] at hno hyes
  have z1 := N.at0_lt s (i + 1)
  rw [← N.at0_eq s (i + 1) p1] at z1
  have y1 := z1.2
  clear z1
  have Hno := hide' hno
  have Hyes := hide' hyes
  clear hno hyes
  have g1 : decide ((i : Int) < 0) = false := by simp
  have g2 : decide ((s.size : Int) - i < 1) = false := by simp; omega
  have g3 : decide ((s.size : Int) - i < 2) = false := by simp; omega
  go_enter Try.func33, Try.ntmps33
  go_wp2
  go_loop [9, 11] (fun v k => (k = .int .i64 1 ∧ v = .int .i64 (((s[i]'hi).toNat : Int) - 192)) ∨ (128 ≤ ((s[i + 1]'p1).toNat : Int) ∧ ((s[i + 1]'p1).toNat : Int) ≤ 191 ∧ k = .int .i64 2 ∧ v = .int .i64 (64 * (((s[i]'hi).toNat : Int) - 192) + ((s[i + 1]'p1).toNat : Int) - 128))) (fun _ k => 2 - (intOf k).toNat)
  case atStart => exact .inl ⟨rfl, rfl⟩
  case round =>
    rcases hrel with ⟨rfl, rfl⟩ | ⟨l1, m1, rfl, rfl⟩
    · by_cases c1 : ((s[i + 1]'p1).toNat : Int) < 128
      · go_wp2
        go_ret2
        have hx := Hno.out (.inr (.inl c1))
        exact ⟨ret_two (by rw [hx.1]; rfl) (by rw [hx.2]; rfl), rfl⟩
      · by_cases c2 : 191 < ((s[i + 1]'p1).toNat : Int)
        · go_wp2
          go_ret2
          have hx := Hno.out (.inr (.inr (.inl c2)))
          exact ⟨ret_two (by rw [hx.1]; rfl) (by rw [hx.2]; rfl), rfl⟩
        · go_wp2
          go_round
          case rel => exact .inr <| ⟨by omega, by omega, rfl, rfl⟩
          case measure => simp [intOf]
    · go_wp2
      all_goals
        go_ret2
        first
          | (have hx := Hno.out (by omega); exact ⟨ret_two (by rw [hx.1]; rfl) (by rw [hx.2]; rfl), rfl⟩)
          | (have hx := Hyes.out (by omega) (by omega) (by omega); exact ⟨ret_two (by rw [hx.1]; rfl) (by rw [hx.2]; rfl), rfl⟩)

set_option maxRecDepth 100000 in
set_option maxHeartbeats 1000000 in
theorem char_3short (s : ByteArray) (i : Nat) (w : World) (hs : s.size ≤ 32) (hi : i < s.size) (h : 224 ≤ N.at0 s i) (k : N.at0 s i < 240) (q : s.size < i + 3) :
    Calls Try.prog 33 #[.string s, .int .i64 i] w fun e w' => e = .returned (.tuple #[.int .i64 (N.chC s i), .int .i64 (N.chN s i)]) ∧ w' = w := by
  have hc := N.ch3no s i h k (.inl q)
  have ea := N.at0_eq s i hi
  rw [← ea] at h k
  have Hc : Hid (N.chC s i = 0 ∧ N.chN s i = 0) := hc
  clear hc ea
  go_enter Try.func33, Try.ntmps33
  go_wp2
  go_ret2
  exact ⟨ret_two (by rw [Hc.out.1]; rfl) (by rw [Hc.out.2]; rfl), rfl⟩

set_option maxRecDepth 100000 in
set_option maxHeartbeats 2000000 in
theorem char_3 (s : ByteArray) (i : Nat) (w : World) (hs : s.size ≤ 32) (hi : i < s.size) (h : 224 ≤ N.at0 s i) (k : N.at0 s i < 240) (q : i + 3 ≤ s.size) :
    Calls Try.prog 33 #[.string s, .int .i64 i] w fun e w' => e = .returned (.tuple #[.int .i64 (N.chC s i), .int .i64 (N.chN s i)]) ∧ w' = w := by
  have p1 : i + 1 < s.size := by omega
  have p2 : i + 2 < s.size := by omega
  have hno := N.ch3no s i h k
  have hyes := N.ch3 s i h k q
  rw [← N.at0_eq s i hi] at h k
  rw [← N.at0_eq s i hi, ← N.at0_eq s (i + 1) p1, ← N.at0_eq s (i + 2) p2] at hno hyes
  have z1 := N.at0_lt s (i + 1)
  rw [← N.at0_eq s (i + 1) p1] at z1
  have y1 := z1.2
  clear z1
  have z2 := N.at0_lt s (i + 2)
  rw [← N.at0_eq s (i + 2) p2] at z2
  have y2 := z2.2
  clear z2
  have Hno := hide' hno
  have Hyes := hide' hyes
  clear hno hyes
  have g1 : decide ((i : Int) < 0) = false := by simp
  have g2 : decide ((s.size : Int) - i < 1) = false := by simp; omega
  have g3 : decide ((s.size : Int) - i < 3) = false := by simp; omega
  go_enter Try.func33, Try.ntmps33
  go_wp2
  go_loop [9, 11] (fun v k => (k = .int .i64 1 ∧ v = .int .i64 (((s[i]'hi).toNat : Int) - 224)) ∨ (128 ≤ ((s[i + 1]'p1).toNat : Int) ∧ ((s[i + 1]'p1).toNat : Int) ≤ 191 ∧ k = .int .i64 2 ∧ v = .int .i64 (64 * (((s[i]'hi).toNat : Int) - 224) + ((s[i + 1]'p1).toNat : Int) - 128)) ∨ (128 ≤ ((s[i + 1]'p1).toNat : Int) ∧ ((s[i + 1]'p1).toNat : Int) ≤ 191 ∧ 128 ≤ ((s[i + 2]'p2).toNat : Int) ∧ ((s[i + 2]'p2).toNat : Int) ≤ 191 ∧ k = .int .i64 3 ∧ v = .int .i64 (64 * (64 * (((s[i]'hi).toNat : Int) - 224) + ((s[i + 1]'p1).toNat : Int) - 128) + ((s[i + 2]'p2).toNat : Int) - 128))) (fun _ k => 3 - (intOf k).toNat)
  case atStart => exact .inl ⟨rfl, rfl⟩
  case round =>
    rcases hrel with ⟨rfl, rfl⟩ | ⟨l1, m1, rfl, rfl⟩ | ⟨l1, m1, l2, m2, rfl, rfl⟩
    · by_cases c1 : ((s[i + 1]'p1).toNat : Int) < 128
      · go_wp2
        go_ret2
        have hx := Hno.out (.inr (.inl c1))
        exact ⟨ret_two (by rw [hx.1]; rfl) (by rw [hx.2]; rfl), rfl⟩
      · by_cases c2 : 191 < ((s[i + 1]'p1).toNat : Int)
        · go_wp2
          go_ret2
          have hx := Hno.out (.inr (.inr (.inl c2)))
          exact ⟨ret_two (by rw [hx.1]; rfl) (by rw [hx.2]; rfl), rfl⟩
        · go_wp2
          go_round
          case rel => exact .inr <| .inl ⟨by omega, by omega, rfl, rfl⟩
          case measure => simp [intOf]
    · by_cases c1 : ((s[i + 2]'p2).toNat : Int) < 128
      · go_wp2
        go_ret2
        have hx := Hno.out (.inr (.inr (.inr (.inl c1))))
        exact ⟨ret_two (by rw [hx.1]; rfl) (by rw [hx.2]; rfl), rfl⟩
      · by_cases c2 : 191 < ((s[i + 2]'p2).toNat : Int)
        · go_wp2
          go_ret2
          have hx := Hno.out (.inr (.inr (.inr (.inr (.inl c2)))))
          exact ⟨ret_two (by rw [hx.1]; rfl) (by rw [hx.2]; rfl), rfl⟩
        · go_wp2
          go_round
          case rel => exact .inr <| .inr <| ⟨l1, m1, by omega, by omega, rfl, rfl⟩
          case measure => simp [intOf]
    · go_wp2
      all_goals
        go_ret2
        first
          | (have hx := Hno.out (by omega); exact ⟨ret_two (by rw [hx.1]; rfl) (by rw [hx.2]; rfl), rfl⟩)
          | (have hx := Hyes.out (by omega) (by omega) (by omega) (by omega) (by omega) (by omega); exact ⟨ret_two (by rw [hx.1]; rfl) (by rw [hx.2]; rfl), rfl⟩)
end Go.Proofs.Ytgjdpgmffhihnaa
