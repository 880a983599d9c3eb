import Derived.Test.YtmdkgiglibfihaaKpt
set_option linter.unusedVariables false
set_option linter.unusedSimpArgs false
namespace Go.Proofs.Ytmdkgiglibfihaa
open Go.RowKit Go.Maps
namespace L
def it : Nat → ByteArray → ByteArray
  | 0, s => s
  | k + 1, s => it k s ++ ⟨#[43]⟩
theorem it_size (k : Nat) (s : ByteArray) : (it k s).size = s.size + k := by
  induction k with
  | zero => rfl
  | succ k ih => show (it k s ++ ⟨#[43]⟩).size = _; rw [ByteArray.size_append, ih]; rfl
def mk (n : Nat) (s : ByteArray) : ByteArray := it (n + 1) s
set_option maxRecDepth 100000 in
set_option maxHeartbeats 1000000 in
theorem mark_any (n : Nat) (s : ByteArray) (w : World) (hn : Hid (n ≤ 1073741824)) (hs : Hid (s.size ≤ 1048576)) :
    Calls Try.prog 49 #[.int .i64 (n : Int), .string s] w fun e w' => e = .returned (.string (mk n s)) ∧ w' = w := by
  have hn64 : (n : Int) ≤ 1073741824 := by have := hn.out; omega
  go_enter Try.func49, Try.ntmps49
  go_wp2_with fail
  go_loopw [1, 5] (fun o i wx => ∃ k : Nat, k ≤ n + 1 ∧ i = .int .i64 (k : Int) ∧ o = .string (it k s) ∧ wx = w) (fun _ i _ => n + 1 - (intOf i).toNat)
  case atStart => exact ⟨0, by omega, rfl, rfl, rfl⟩
  case round =>
    obtain ⟨k, hk, rfl, rfl, rfl⟩ := hrel
    by_cases hlt : k < n + 1
    · have hlt' : (k : Int) ≤ (n : Int) := by omega
      have e1 : Hid (it (k + 1) s = it k s ++ ⟨#[43]⟩) := rfl
      have hsz := it_size k s
      have hov : Hid ((it k s).size + 1 ≤ 9223372036854775807) := by have := hn.out; have := hs.out; show _ ≤ _; omega
      have hov1 : ¬ 9223372036854775807 < (it k s).size + 1 := by have := hov.out; omega
      have hov2 : ¬ maxLen < (it k s).size + 1 := by unfold maxLen; have := hov.out; omega
      clear hsz
      generalize it k s = t at *
      go_wp2_with fail
      exact ⟨⟨k + 1, by omega, by go_num, by rw [e1.out], trivial⟩, by simp [intOf]; omega⟩
    · have hkn : k = n + 1 := by omega
      subst hkn
      have hlt' : ¬ ((n + 1 : Nat) : Int) ≤ (n : Int) := by omega
      clear hlt hk
      go_wp2_with fail
      go_ret
      exact ⟨rfl, rfl⟩
end L
end Go.Proofs.Ytmdkgiglibfihaa
