import Derived.Test.YtnpbbejclkphgaaPlS
set_option linter.unusedVariables false
set_option linter.unusedSimpArgs false
namespace Go.Proofs.Ytnpbbejclkphgaa
open Go.RowKit
theorem ret_size {a b : Int} {c : Bool} (h : a = b) : Ending.returned (.tuple #[.int .i64 a, .bool c]) = .returned (.tuple #[.int .i64 b, .bool c]) := by rw [h]
set_option maxRecDepth 100000 in
set_option maxHeartbeats 1000000 in
theorem size_any (s : ByteArray) (k : Nat) (w : World) (hs : s.size ≤ 1048576) (hk : k < s.size) :
    Calls Try.prog 9 #[.string s, .int .i64 (k : Int)] w fun e w' => (∃ b, e = .returned (.tuple #[.int .i64 (L.wd s k : Int), .bool b])) ∧ w' = w := by
  have hb := L.bt_lt s k
  have hat := bt_at s k hk
  by_cases h0 : L.nn (L.bt s k) = 0
  · have hw : Hid (L.wd s k = 1) := L.wd_zero s k h0
    go_enter Try.func9, Try.ntmps9
    go_wp2_with (go_at_call 10; refine (second_any _ _ hb).mono ?_; rintro e w1 ⟨rfl, hw1⟩; replace hw1 := hw1.symm; subst hw1)
    go_ret2
    exact ⟨⟨_, ret_size (by rw [hw.out]; rfl)⟩, rfl⟩
  · have hbad := fun j a b c => L.wd_bad s k j hk a b c
    have hall := L.wd_all s k hk h0
    have hn4 := L.nn_le (L.bt s k)
    have Hh := hide' (And.intro hbad hall)
    have hne : ((L.nn (L.bt s k) : Int) == 0) = false := by simp; omega
    clear hbad hall
    go_enter Try.func9, Try.ntmps9
    go_wp2_with (go_at_call 10; refine (second_any _ _ hb).mono ?_; rintro e w1 ⟨rfl, hw1⟩; replace hw1 := hw1.symm; subst hw1)
    go_loopw [6, 7, 9] (fun x y i w' => w' = w ∧ ∃ j : Nat, 1 ≤ j ∧ i = .int .i64 (j : Int) ∧ x = .int .u8 (L.lowAt (L.bt s k) j : Int) ∧ y = .int .u8 (L.highAt (L.bt s k) j : Int) ∧ ∀ q, 1 ≤ q → q < j → L.wth s (k + q) (L.lowAt (L.bt s k) q) (L.highAt (L.bt s k) q) = true) (fun _ _ i _ => 5 - (intOf i).toNat)
    case atStart => exact ⟨rfl, 1, by omega, rfl, by simp [L.lowAt], by simp [L.highAt], fun q a b => by omega⟩
    case round =>
      obtain ⟨rfl, j, hj1, rfl, rfl, rfl, hq⟩ := hrel
      have Hq := hide' hq
      clear hq
      by_cases hjn : j < L.nn (L.bt s k)
      · have e1 : decide ((j : Int) < (L.nn (L.bt s k) : Int)) = true := by simp; omega
        have hsum : IntKind.i64.wrap ((k : Int) + (j : Int)) = ((k + j : Nat) : Int) := by rw [IntKind.wrap_i64]; omega
        cases hwt : L.wth s (k + j) (L.lowAt (L.bt s k) j) (L.highAt (L.bt s k) j)
        · have hw : Hid (L.wd s k = 1) := Hh.out.1 j hj1 hjn hwt
          go_wp2_with (go_at_call 11; refine (within_any _ _ _ _ _).mono ?_; rintro e w1 ⟨rfl, hw1⟩; replace hw1 := hw1.symm; subst hw1)
          go_ret2
          exact ⟨⟨_, ret_size (by rw [hw.out]; rfl)⟩, rfl⟩
        · go_wp2_with (go_at_call 11; refine (within_any _ _ _ _ _).mono ?_; rintro e w1 ⟨rfl, hw1⟩; replace hw1 := hw1.symm; subst hw1)
          refine ⟨⟨trivial, j + 1, by omega, by go_num, ?_, ?_, ?_⟩, by simp [intOf]; omega⟩
          · rw [L.lowAt, if_neg (by omega)]; rfl
          · rw [L.highAt, if_neg (by omega)]; rfl
          · intro q a b
            by_cases c : q = j
            · rw [c]; exact hwt
            · exact Hq.out q a (by omega)
      · have e1 : decide ((j : Int) < (L.nn (L.bt s k) : Int)) = false := by simp; omega
        have hw : Hid (L.wd s k = L.nn (L.bt s k)) := Hh.out.2 fun q a b => Hq.out q a (by omega)
        go_wp2
        go_ret2
        exact ⟨⟨_, ret_size (by rw [hw.out])⟩, rfl⟩

end Go.Proofs.Ytnpbbejclkphgaa
