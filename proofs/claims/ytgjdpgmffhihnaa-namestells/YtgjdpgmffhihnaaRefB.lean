import Derived.Test.YtgjdpgmffhihnaaRefV
set_option linter.unusedVariables false
set_option linter.unusedSimpArgs false
namespace Go.Proofs.Ytgjdpgmffhihnaa
open Go.RowKit

namespace N
/-- what a bare name may have at a place -/
def okAt (s : ByteArray) (j : Nat) : Bool := if j = 0 then beg (at0 s 0) else fol (at0 s j)
theorem bare_yes (s : ByteArray) (hv : valid s = true) (hk : kw s.toList = false) (h : ∀ j, j < s.size → okAt s j = true) : bare s = true := by
  have hz := valid_size hv
  have h0 := h 0 (by omega)
  have hr : rest s = true := rest_yes s (fun j h1 h2 => by have := h j h2; simp only [okAt] at this; rw [if_neg (by omega)] at this; exact this)
  simp only [okAt, if_true] at h0
  simp [bare, hv, hk, h0, hr]
theorem bare_no (s : ByteArray) (j : Nat) (hj : j < s.size) (h : okAt s j = false) : bare s = false := by
  by_cases h0 : j = 0
  · subst h0
    simp only [okAt, if_true] at h
    simp [bare, h]
  · simp only [okAt] at h
    rw [if_neg h0] at h
    simp [bare, rest_no s j (by omega) hj h]
theorem size_list' (s : ByteArray) : s.data.toList.length = s.size := Array.length_toList
end N

set_option maxRecDepth 100000 in
set_option maxHeartbeats 2000000 in
theorem refBare_any (s : ByteArray) (w : World) (hs : s.size ≤ maxLen) :
    Calls Try.prog 15 #[.string s] w fun e w' => e = .returned (.bool (N.bare s)) ∧ Below w.heap.size w w' := by
  have hm := hs
  unfold maxLen at hm
  cases hv : N.valid s with
  | false =>
    go_enter Try.func15, Try.ntmps15
    go_wp2_with (first | (go_at_call 11; refine (refValid_any _ _ hs).mono ?_; rintro e w1 ⟨rfl, rfl⟩))
    go_ret
    exact ⟨ret_bool (by simp [N.bare, hv]), Below.refl _ _⟩
  | true =>
    cases hk : N.kw s.toList with
    | true =>
      go_enter Try.func15, Try.ntmps15
      go_wp2_with (first | (go_at_call 11; refine (refValid_any _ _ hs).mono ?_; rintro e w1 ⟨rfl, rfl⟩) | (go_at_call 13; refine (refKeyword_any _ _).mono ?_; rintro e w2 ⟨rfl, hb⟩))
      go_ret
      exact ⟨ret_bool (by simp [N.bare, hv, hk]), hb⟩
    | false =>
      have hz := N.valid_size hv
      go_enter Try.func15, Try.ntmps15
      go_wp2_with (first | (go_at_call 11; refine (refValid_any _ _ hs).mono ?_; rintro e w1 ⟨rfl, rfl⟩) | (go_at_call 13; refine (refKeyword_any _ _).mono ?_; rintro e w2 ⟨rfl, hb⟩))
      go_loop [3] (fun i => ∃ k : Nat, k ≤ s.size ∧ i = .int .i64 k ∧ ∀ j, j < k → N.okAt s j = true) (fun i => s.size - (intOf i).toNat)
      case atStart => exact ⟨0, by omega, rfl, fun j h => by omega⟩
      case round =>
        obtain ⟨k, hk2, rfl, hall⟩ := hrel
        have Hall : Hid (∀ j, j < k → N.okAt s j = true) := hall
        clear hall
        by_cases hlt : k < s.size
        · have ek : Hid (((s[k]'hlt).toNat : Int) = N.at0 s k) := N.at0_eq s k hlt
          have next : N.okAt s k = true → ∀ j, j < k + 1 → N.okAt s j = true := by
            intro h j hj
            by_cases hjk : j = k
            · rw [hjk]; exact h
            · exact Hall.out j (by omega)
          by_cases h0 : k = 0
          · subst h0
            have hok : Hid (N.okAt s 0 = N.beg ((s[0]'hlt).toNat : Int)) := (show N.okAt s 0 = N.beg ((s[0]'hlt).toNat : Int) by rw [ek.out]; simp [N.okAt])
            cases hg : N.beg ((s[0]'hlt).toNat : Int) with
            | true =>
              go_wp2_with (first | (go_at_call 37; refine (letter_any _ _).mono ?_; rintro e w4 ⟨rfl, rfl⟩))
              go_round
              case rel => exact ⟨1, by omega, by rfl, next (by rw [hok.out]; exact hg)⟩
              case measure => simp [intOf]; omega
            | false =>
              go_wp2_with (first | (go_at_call 37; refine (letter_any _ _).mono ?_; rintro e w4 ⟨rfl, rfl⟩))
              go_ret
              exact ⟨ret_bool (by rw [N.bare_no s 0 hlt (by rw [hok.out]; exact hg)]), hb⟩
          · have hpos : (0 : Int) < (k : Int) := by omega
            have hok : Hid (N.okAt s k = N.fol ((s[k]'hlt).toNat : Int)) := (show N.okAt s k = N.fol ((s[k]'hlt).toNat : Int) by rw [ek.out]; simp [N.okAt, h0])
            cases hg : N.beg ((s[k]'hlt).toNat : Int) with
            | true =>
              go_wp2_with (first | (go_at_call 37; refine (letter_any _ _).mono ?_; rintro e w4 ⟨rfl, rfl⟩))
              all_goals
                go_round
                case rel => exact ⟨k + 1, by omega, by go_num, next (by rw [hok.out]; simp [N.fol, hg])⟩
                case measure => simp [intOf]; omega
            | false =>
              cases h45 : (((s[k]'hlt).toNat : Int) == 45) with
              | true =>
                have hres : Hid (N.okAt s k = true) := (show N.okAt s k = true by rw [hok.out]; simp [N.fol, h45])
                go_wp2_with (first | (go_at_call 37; refine (letter_any _ _).mono ?_; rintro e w4 ⟨rfl, rfl⟩))
                go_round
                case rel => exact ⟨k + 1, by omega, by go_num, next hres.out⟩
                case measure => simp [intOf]; omega
              | false =>
                by_cases h48 : 48 ≤ ((s[k]'hlt).toNat : Int)
                · by_cases h57 : ((s[k]'hlt).toNat : Int) ≤ 57
                  · have hres : Hid (N.okAt s k = true) := (show N.okAt s k = true by rw [hok.out]; simp [N.fol, h48, h57])
                    go_wp2_with (first | (go_at_call 37; refine (letter_any _ _).mono ?_; rintro e w4 ⟨rfl, rfl⟩))
                    go_round
                    case rel => exact ⟨k + 1, by omega, by go_num, next hres.out⟩
                    case measure => simp [intOf]; omega
                  · have hres : Hid (N.okAt s k = false) := (show N.okAt s k = false by rw [hok.out]; simp [N.fol, hg, h45]; omega)
                    go_wp2_with (first | (go_at_call 37; refine (letter_any _ _).mono ?_; rintro e w4 ⟨rfl, rfl⟩))
                    go_ret
                    exact ⟨ret_bool (by rw [N.bare_no s k hlt hres.out]), hb⟩
                · have hres : Hid (N.okAt s k = false) := (show N.okAt s k = false by rw [hok.out]; simp [N.fol, hg, h45]; omega)
                  go_wp2_with (first | (go_at_call 37; refine (letter_any _ _).mono ?_; rintro e w4 ⟨rfl, rfl⟩))
                  go_ret
                  exact ⟨ret_bool (by rw [N.bare_no s k hlt hres.out]), hb⟩
        · go_wp2
          go_ret
          exact ⟨ret_bool (by rw [N.bare_yes s hv hk (fun j h => Hall.out j (by omega))]), hb⟩
end Go.Proofs.Ytgjdpgmffhihnaa
