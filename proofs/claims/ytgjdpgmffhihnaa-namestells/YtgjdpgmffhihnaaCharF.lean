import Derived.Test.YtgjdpgmffhihnaaChar
set_option linter.unusedVariables false
set_option linter.unusedSimpArgs false
namespace Go.Proofs.Ytgjdpgmffhihnaa
open Go.RowKit

set_option maxRecDepth 100000 in
set_option maxHeartbeats 1000000 in
theorem char_4short (s : ByteArray) (i : Nat) (w : World) (hs : s.size ≤ 32) (hi : i < s.size) (h : 240 ≤ N.at0 s i) (k : N.at0 s i < 248) (q : s.size < i + 4) :
    Calls Try.prog 33 #[.string s, .int .i64 i] w fun e w' => e = .returned (.tuple #[.int .i64 (N.chC s i), .int .i64 (N.chN s i)]) ∧ w' = w := by
  have hc := N.ch4no s i h k (.inl q)
  have ea := N.at0_eq s i hi
  rw [← ea] at h k
  have Hc : Hid (N.chC s i = 0 ∧ N.chN s i = 0) := hc
  clear hc ea
  go_enter Try.func33, Try.ntmps33
  go_wp2
  go_ret2
  exact ⟨ret_two (by rw [Hc.out.1]; rfl) (by rw [Hc.out.2]; rfl), rfl⟩

set_option maxRecDepth 100000 in
set_option maxHeartbeats 2000000 in
theorem char_4 (s : ByteArray) (i : Nat) (w : World) (hs : s.size ≤ 32) (hi : i < s.size) (h : 240 ≤ N.at0 s i) (k : N.at0 s i < 248) (q : i + 4 ≤ s.size) :
    Calls Try.prog 33 #[.string s, .int .i64 i] w fun e w' => e = .returned (.tuple #[.int .i64 (N.chC s i), .int .i64 (N.chN s i)]) ∧ w' = w := by
  have p1 : i + 1 < s.size := by omega
  have p2 : i + 2 < s.size := by omega
  have p3 : i + 3 < s.size := by omega
  have hno := N.ch4no s i h k
  have hyes := N.ch4 s i h k q
  rw [← N.at0_eq s i hi] at h k
  rw [← N.at0_eq s i hi, ← N.at0_eq s (i + 1) p1, ← N.at0_eq s (i + 2) p2, ← N.at0_eq s (i + 3) p3] at hno hyes
  have z1 := N.at0_lt s (i + 1)
  rw [← N.at0_eq s (i + 1) p1] at z1
  have y1 := z1.2
  clear z1
  have z2 := N.at0_lt s (i + 2)
  rw [← N.at0_eq s (i + 2) p2] at z2
  have y2 := z2.2
  clear z2
  have z3 := N.at0_lt s (i + 3)
  rw [← N.at0_eq s (i + 3) p3] at z3
  have y3 := z3.2
  clear z3
  have Hno := hide' hno
  have Hyes := hide' hyes
  clear hno hyes
  have g1 : decide ((i : Int) < 0) = false := by simp
  have g2 : decide ((s.size : Int) - i < 1) = false := by simp; omega
  have g3 : decide ((s.size : Int) - i < 4) = false := by simp; omega
  have g4 : decide (((s[i]'hi).toNat : Int) ≤ 247) = true := by simp; omega
  go_enter Try.func33, Try.ntmps33
  go_wp2
  go_loop [9, 11] (fun v k => (k = .int .i64 1 ∧ v = .int .i64 (((s[i]'hi).toNat : Int) - 240)) ∨ (128 ≤ ((s[i + 1]'p1).toNat : Int) ∧ ((s[i + 1]'p1).toNat : Int) ≤ 191 ∧ k = .int .i64 2 ∧ v = .int .i64 (64 * (((s[i]'hi).toNat : Int) - 240) + ((s[i + 1]'p1).toNat : Int) - 128)) ∨ (128 ≤ ((s[i + 1]'p1).toNat : Int) ∧ ((s[i + 1]'p1).toNat : Int) ≤ 191 ∧ 128 ≤ ((s[i + 2]'p2).toNat : Int) ∧ ((s[i + 2]'p2).toNat : Int) ≤ 191 ∧ k = .int .i64 3 ∧ v = .int .i64 (64 * (64 * (((s[i]'hi).toNat : Int) - 240) + ((s[i + 1]'p1).toNat : Int) - 128) + ((s[i + 2]'p2).toNat : Int) - 128)) ∨ (128 ≤ ((s[i + 1]'p1).toNat : Int) ∧ ((s[i + 1]'p1).toNat : Int) ≤ 191 ∧ 128 ≤ ((s[i + 2]'p2).toNat : Int) ∧ ((s[i + 2]'p2).toNat : Int) ≤ 191 ∧ 128 ≤ ((s[i + 3]'p3).toNat : Int) ∧ ((s[i + 3]'p3).toNat : Int) ≤ 191 ∧ k = .int .i64 4 ∧ v = .int .i64 (64 * (64 * (64 * (((s[i]'hi).toNat : Int) - 240) + ((s[i + 1]'p1).toNat : Int) - 128) + ((s[i + 2]'p2).toNat : Int) - 128) + ((s[i + 3]'p3).toNat : Int) - 128))) (fun _ k => 4 - (intOf k).toNat)
  case atStart => exact .inl ⟨rfl, rfl⟩
  case round =>
    rcases hrel with ⟨rfl, rfl⟩ | ⟨l1, m1, rfl, rfl⟩ | ⟨l1, m1, l2, m2, rfl, rfl⟩ | ⟨l1, m1, l2, m2, l3, m3, rfl, rfl⟩
    · by_cases c1 : ((s[i + 1]'p1).toNat : Int) < 128
      · go_wp2
        go_ret2
        have hx := Hno.out (.inr (.inl c1))
        exact ⟨ret_two (by rw [hx.1]; rfl) (by rw [hx.2]; rfl), rfl⟩
      · by_cases c2 : 191 < ((s[i + 1]'p1).toNat : Int)
        · go_wp2
          go_ret2
          have hx := Hno.out (.inr (.inr (.inl c2)))
          exact ⟨ret_two (by rw [hx.1]; rfl) (by rw [hx.2]; rfl), rfl⟩
        · go_wp2
          go_round
          case rel => exact .inr <| .inl ⟨by omega, by omega, rfl, rfl⟩
          case measure => simp [intOf]
    · by_cases c1 : ((s[i + 2]'p2).toNat : Int) < 128
      · go_wp2
        go_ret2
        have hx := Hno.out (.inr (.inr (.inr (.inl c1))))
        exact ⟨ret_two (by rw [hx.1]; rfl) (by rw [hx.2]; rfl), rfl⟩
      · by_cases c2 : 191 < ((s[i + 2]'p2).toNat : Int)
        · go_wp2
          go_ret2
          have hx := Hno.out (.inr (.inr (.inr (.inr (.inl c2)))))
          exact ⟨ret_two (by rw [hx.1]; rfl) (by rw [hx.2]; rfl), rfl⟩
        · go_wp2
          go_round
          case rel => exact .inr <| .inr <| .inl ⟨l1, m1, by omega, by omega, rfl, rfl⟩
          case measure => simp [intOf]
    · by_cases c1 : ((s[i + 3]'p3).toNat : Int) < 128
      · go_wp2
        go_ret2
        have hx := Hno.out (.inr (.inr (.inr (.inr (.inr (.inl c1))))))
        exact ⟨ret_two (by rw [hx.1]; rfl) (by rw [hx.2]; rfl), rfl⟩
      · by_cases c2 : 191 < ((s[i + 3]'p3).toNat : Int)
        · go_wp2
          go_ret2
          have hx := Hno.out (.inr (.inr (.inr (.inr (.inr (.inr (.inl c2)))))))
          exact ⟨ret_two (by rw [hx.1]; rfl) (by rw [hx.2]; rfl), rfl⟩
        · go_wp2
          go_round
          case rel => exact .inr <| .inr <| .inr <| ⟨l1, m1, l2, m2, by omega, by omega, rfl, rfl⟩
          case measure => simp [intOf]
    · go_wp2
      all_goals
        go_ret2
        first
          | (have hx := Hno.out (by omega); exact ⟨ret_two (by rw [hx.1]; rfl) (by rw [hx.2]; rfl), rfl⟩)
          | (have hx := Hyes.out (by omega) (by omega) (by omega) (by omega) (by omega) (by omega) (by omega) (by omega); exact ⟨ret_two (by rw [hx.1]; rfl) (by rw [hx.2]; rfl), rfl⟩)
end Go.Proofs.Ytgjdpgmffhihnaa
