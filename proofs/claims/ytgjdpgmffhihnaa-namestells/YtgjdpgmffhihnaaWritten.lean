import Derived.Test.YtgjdpgmffhihnaaQuoted
set_option linter.unusedVariables false
set_option linter.unusedSimpArgs false
namespace Go.Proofs.Ytgjdpgmffhihnaa
open Go.RowKit

namespace N
def wrt (s : ByteArray) : List UInt8 := if valid s then (if bare s then s.data.toList else quot s.data.toList) else []
theorem back (s : ByteArray) : (⟨s.data.toList.toArray⟩ : ByteArray) = s := by simp
end N

theorem ret_two {a b : Value} {c d : Value} (h : a = b) (k : c = d) : Ending.returned (.tuple #[a, c]) = .returned (.tuple #[b, d]) := by rw [h, k]

set_option maxRecDepth 100000 in
set_option maxHeartbeats 1000000 in
theorem written_any (s : ByteArray) (w : World) (hs : s.size ≤ maxLen) :
    Calls Try.prog 16 #[.string s] w fun e w' => e = .returned (.tuple #[.string ⟨(N.wrt s).toArray⟩, .bool (N.valid s)]) ∧ Below w.heap.size w w' := by
  cases hv : N.valid s with
  | false =>
    have hw : Hid (N.wrt s = []) := (show N.wrt s = [] by simp [N.wrt, hv])
    go_enter Try.func16, Try.ntmps16
    go_wp2_with (first | (go_at_call 10; refine (valid_any _ _ hs).mono ?_; rintro e w1 ⟨rfl, hb⟩))
    go_ret2
    exact ⟨ret_two (by rw [hw.out]; rfl) rfl, hb⟩
  | true =>
    have hz := N.valid_size hv
    cases hr : N.bare s with
    | true =>
      have hw : Hid (N.wrt s = s.data.toList) := (show N.wrt s = s.data.toList by simp [N.wrt, hv, hr])
      go_enter Try.func16, Try.ntmps16
      go_wp2_with (first | (go_at_call 10; refine (valid_any _ _ hs).mono ?_; rintro e w1 ⟨rfl, hb⟩) | (go_at_call 14; refine (bare_any _ _ hs).mono ?_; rintro e w2 ⟨rfl, hb2⟩) | (go_at_call 38; refine (clone_any _ _ (by omega)).mono ?_; rintro e w3 ⟨rfl, hb3⟩))
      go_ret2
      exact ⟨ret_two (by rw [hw.out, N.back]; rfl) rfl, (hb.trans (hb2.mono hb.size)).trans (hb3.mono (Nat.le_trans hb.size hb2.size))⟩
    | false =>
      have hw : Hid (N.wrt s = N.quot s.data.toList) := (show N.wrt s = N.quot s.data.toList by simp [N.wrt, hv, hr])
      go_enter Try.func16, Try.ntmps16
      go_wp2_with (first | (go_at_call 10; refine (valid_any _ _ hs).mono ?_; rintro e w1 ⟨rfl, hb⟩) | (go_at_call 14; refine (bare_any _ _ hs).mono ?_; rintro e w2 ⟨rfl, hb2⟩) | (go_at_call 39; refine (quoted_any _ _ (by omega)).mono ?_; rintro e w3 ⟨rfl, hb3⟩))
      go_ret2
      exact ⟨ret_two (by rw [hw.out]; rfl) rfl, (hb.trans (hb2.mono hb.size)).trans (hb3.mono (Nat.le_trans hb.size hb2.size))⟩

def S (l : List UInt8) : ByteArray := ⟨l.toArray⟩
theorem known1 : N.wrt ⟨#[97, 32, 98]⟩ = [34, 97, 32, 98, 34] ∧ N.valid ⟨#[97, 32, 98]⟩ = true := by decide +kernel
theorem known2 : N.wrt ⟨#[114, 111, 108, 101]⟩ = [34, 114, 111, 108, 101, 34] ∧ N.valid ⟨#[114, 111, 108, 101]⟩ = true := by decide +kernel
theorem known3 : N.wrt ⟨#[100, 111, 111, 114, 49]⟩ = [100, 111, 111, 114, 49] ∧ N.valid ⟨#[100, 111, 111, 114, 49]⟩ = true := by decide +kernel

theorem w1_any (w : World) : Calls Try.prog 16 #[.string ⟨#[97, 32, 98]⟩] w fun e w' => e = .returned (.tuple #[.string ⟨#[34, 97, 32, 98, 34]⟩, .bool true]) ∧ Below w.heap.size w w' := by
  have h := written_any ⟨#[97, 32, 98]⟩ w (by decide)
  rw [known1.1, known1.2] at h
  exact h
theorem w2_any (w : World) : Calls Try.prog 16 #[.string ⟨#[114, 111, 108, 101]⟩] w fun e w' => e = .returned (.tuple #[.string ⟨#[34, 114, 111, 108, 101, 34]⟩, .bool true]) ∧ Below w.heap.size w w' := by
  have h := written_any ⟨#[114, 111, 108, 101]⟩ w (by decide)
  rw [known2.1, known2.2] at h
  exact h
theorem w3_any (w : World) : Calls Try.prog 16 #[.string ⟨#[100, 111, 111, 114, 49]⟩] w fun e w' => e = .returned (.tuple #[.string ⟨#[100, 111, 111, 114, 49]⟩, .bool true]) ∧ Below w.heap.size w w' := by
  have h := written_any ⟨#[100, 111, 111, 114, 49]⟩ w (by decide)
  rw [known3.1, known3.2] at h
  exact h

set_option maxRecDepth 100000 in
set_option maxHeartbeats 1000000 in
theorem known_any (w : World) :
    Calls Try.prog 9 #[] w fun e w' => e = .returned (.bool true) ∧ Below w.heap.size w w' := by
  go_enter Try.func9, Try.ntmps9
  go_wp2_with fail
  refine (w1_any _).mono ?_
  rintro e x1 ⟨rfl, b1⟩
  go_wp2_with fail
  refine (w2_any _).mono ?_
  rintro e x2 ⟨rfl, b2⟩
  go_wp2_with fail
  refine (w3_any _).mono ?_
  rintro e x3 ⟨rfl, b3⟩
  go_wp2_with fail
  go_ret
  exact ⟨rfl, (b1.trans (b2.mono b1.size)).trans (b3.mono (Nat.le_trans b1.size b2.size))⟩
end Go.Proofs.Ytgjdpgmffhihnaa
