import Derived.Test.YtgjdpgmffhihnaaValid
import Derived.Test.YtgjdpgmffhihnaaKeys
set_option linter.unusedVariables false
set_option linter.unusedSimpArgs false
namespace Go.Proofs.Ytgjdpgmffhihnaa
open Go.RowKit

namespace N
def at0 (s : ByteArray) (i : Nat) : Int := ((s.get! i).toNat : Nat)
def rest (s : ByteArray) : Bool := (List.range s.size).all (fun j => j == 0 || fol (at0 s j))
def bare (s : ByteArray) : Bool := valid s && !kw s.toList && beg (at0 s 0) && rest s
theorem rest_yes (s : ByteArray) (h : ∀ j, 1 ≤ j → j < s.size → fol (at0 s j) = true) : rest s = true := by
  unfold rest
  rw [List.all_eq_true]
  intro j hj
  rw [List.mem_range] at hj
  by_cases h0 : j = 0
  · simp [h0]
  · simp [h j (by omega) hj]
theorem rest_no (s : ByteArray) (j : Nat) (h1 : 1 ≤ j) (h2 : j < s.size) (h : fol (at0 s j) = false) : rest s = false := by
  unfold rest
  rw [List.all_eq_false]
  refine ⟨j, by rw [List.mem_range]; exact h2, ?_⟩
  have : (j == 0) = false := by simp; omega
  simp [this, h]
theorem valid_size {s : ByteArray} (h : valid s = true) : 1 ≤ s.size ∧ s.size ≤ 32 := by
  simp [valid] at h
  omega
theorem at0_eq (s : ByteArray) (i : Nat) (h : i < s.size) : ((s[i]'h).toNat : Int) = at0 s i := by
  unfold at0
  have : s.get! i = s[i]'h := by
    simp [ByteArray.get!, getElem!_pos, h]
    rfl
  rw [this]
end N

set_option maxRecDepth 100000 in
set_option maxHeartbeats 1000000 in
theorem bare_any (s : ByteArray) (w : World) (hs : s.size ≤ maxLen) :
    Calls Try.prog 14 #[.string s] w fun e w' => e = .returned (.bool (N.bare s)) ∧ Below w.heap.size w w' := by
  have hm := hs
  unfold maxLen at hm
  cases hv : N.valid s with
  | false =>
    go_enter Try.func14, Try.ntmps14
    go_wp2_with (first | (go_at_call 10; refine (valid_any _ _ hs).mono ?_; rintro e w1 ⟨rfl, hb⟩))
    go_ret
    exact ⟨ret_bool (by simp [N.bare, hv]), hb⟩
  | true =>
    cases hk : N.kw s.toList with
    | true =>
      go_enter Try.func14, Try.ntmps14
      go_wp2_with (first | (go_at_call 10; refine (valid_any _ _ hs).mono ?_; rintro e w1 ⟨rfl, hb⟩) | (go_at_call 12; refine (keyword_any _ _).mono ?_; rintro e w2 ⟨rfl, rfl⟩))
      go_ret
      exact ⟨ret_bool (by simp [N.bare, hv, hk]), hb⟩
    | false =>
      have hz := N.valid_size hv
      have h0 : 0 < s.size := by omega
      have e0 := N.at0_eq s 0 h0
      have E0 : Hid (((s[0]'h0).toNat : Int) = N.at0 s 0) := e0
      clear e0
      cases hg : N.beg ((s[0]'h0).toNat : Int) with
      | false =>
        go_enter Try.func14, Try.ntmps14
        go_wp2_with (first | (go_at_call 10; refine (valid_any _ _ hs).mono ?_; rintro e w1 ⟨rfl, hb⟩) | (go_at_call 12; refine (keyword_any _ _).mono ?_; rintro e w2 ⟨rfl, rfl⟩) | (go_at_call 35; refine (mayBegin_any _ _).mono ?_; rintro e w3 ⟨rfl, rfl⟩))
        go_ret
        exact ⟨ret_bool (by rw [E0.out] at hg; simp [N.bare, hg]), hb⟩
      | true =>
        go_enter Try.func14, Try.ntmps14
        go_wp2_with (first | (go_at_call 10; refine (valid_any _ _ hs).mono ?_; rintro e w1 ⟨rfl, hb⟩) | (go_at_call 12; refine (keyword_any _ _).mono ?_; rintro e w2 ⟨rfl, rfl⟩) | (go_at_call 35; refine (mayBegin_any _ _).mono ?_; rintro e w3 ⟨rfl, rfl⟩))
        go_loop [3] (fun i => ∃ k : Nat, 1 ≤ k ∧ k ≤ s.size ∧ i = .int .i64 k ∧ ∀ j, 1 ≤ j → j < k → N.fol (N.at0 s j) = true) (fun i => s.size - (intOf i).toNat)
        case atStart => exact ⟨1, by omega, by omega, rfl, fun j _ _ => by omega⟩
        case round =>
          obtain ⟨k, hk1, hk2, rfl, hall⟩ := hrel
          have Hall : Hid (∀ j, 1 ≤ j → j < k → N.fol (N.at0 s j) = true) := hall
          clear hall
          by_cases hlt : k < s.size
          · have ek : Hid (((s[k]'hlt).toNat : Int) = N.at0 s k) := N.at0_eq s k hlt
            cases hf : N.fol ((s[k]'hlt).toNat : Int) with
            | false =>
              go_wp2_with (first | (go_at_call 36; refine (mayFollow_any _ _).mono ?_; rintro e w4 ⟨rfl, rfl⟩))
              go_ret
              exact ⟨ret_bool (by rw [ek.out] at hf; simp [N.bare, N.rest_no s k hk1 hlt hf]), hb⟩
            | true =>
              go_wp2_with (first | (go_at_call 36; refine (mayFollow_any _ _).mono ?_; rintro e w4 ⟨rfl, rfl⟩))
              go_round
              case rel =>
                refine ⟨k + 1, by omega, by omega, by go_num, fun j hj1 hj2 => ?_⟩
                by_cases hjk : j = k
                · subst hjk
                  rw [← ek.out]; exact hf
                · exact Hall.out j hj1 (by omega)
              case measure => simp [intOf]; omega
          · go_wp2
            go_ret
            exact ⟨ret_bool (by rw [E0.out] at hg; simp [N.bare, hv, hk, hg, N.rest_yes s (fun j h1 h2 => Hall.out j h1 (by omega))]), hb⟩
end Go.Proofs.Ytgjdpgmffhihnaa
