import Derived.Test.YtgjdpgmffhihnaaRefB
import Derived.Test.YtgjdpgmffhihnaaUnq
set_option linter.unusedVariables false
set_option linter.unusedSimpArgs false
namespace Go.Proofs.Ytgjdpgmffhihnaa
open Go.RowKit

set_option maxRecDepth 100000 in
set_option maxHeartbeats 2000000 in
theorem refWritten_any (s : ByteArray) (w : World) (hs : s.size ≤ maxLen) :
    Calls Try.prog 17 #[.string s] w fun e w' => e = .returned (.tuple #[.string ⟨(N.wrt s).toArray⟩, .bool (N.valid s)]) ∧ Below w.heap.size w w' := by
  cases hv : N.valid s with
  | false =>
    have hw : Hid (N.wrt s = []) := (show N.wrt s = [] by simp [N.wrt, hv])
    go_enter Try.func17, Try.ntmps17
    go_wp2_with (first | (go_at_call 11; refine (refValid_any _ _ hs).mono ?_; rintro e w1 ⟨rfl, rfl⟩))
    go_ret2
    exact ⟨ret_two (by rw [hw.out]; rfl) rfl, Below.refl _ _⟩
  | true =>
    have hz := N.valid_size hv
    cases hr : N.bare s with
    | true =>
      have hw : Hid (N.wrt s = s.data.toList) := (show N.wrt s = s.data.toList by simp [N.wrt, hv, hr])
      go_enter Try.func17, Try.ntmps17
      go_wp2_with (first | (go_at_call 11; refine (refValid_any _ _ hs).mono ?_; rintro e w1 ⟨rfl, rfl⟩) | (go_at_call 15; refine (refBare_any _ _ hs).mono ?_; rintro e w2 ⟨rfl, hb2⟩))
      go_ret2
      exact ⟨ret_two (by rw [hw.out, N.back]; rfl) rfl, hb2⟩
    | false =>
      have hw : Hid (N.wrt s = N.quot s.data.toList) := (show N.wrt s = N.quot s.data.toList by simp [N.wrt, hv, hr])
      have hl : Hid (s.data.toList.length = s.size) := N.size_list' s
      go_enter Try.func17, Try.ntmps17
      go_wp2_with (first | (go_at_call 11; refine (refValid_any _ _ hs).mono ?_; rintro e w1 ⟨rfl, rfl⟩) | (go_at_call 15; refine (refBare_any _ _ hs).mono ?_; rintro e w2 ⟨rfl, hb2⟩))
      go_loop [4, 5] (fun o i => ∃ k : Nat, k ≤ s.size ∧ i = .int .i64 k ∧ o = .string ⟨(34 :: N.esc (s.data.toList.take k)).toArray⟩) (fun _ i => s.size - (intOf i).toNat)
      case atStart => exact ⟨0, by omega, rfl, rfl⟩
      case round =>
        obtain ⟨k, hk, rfl, rfl⟩ := hrel
        have hln : (34 :: N.esc (s.data.toList.take k)).length ≤ 65 := by
          have h1 := (N.esc_len (s.data.toList.take k)).2
          have h2 := List.length_take_le k s.data.toList
          simp; omega
        by_cases hlt : k < s.size
        · have hts := N.take_snoc s k hlt
          have hE0 := N.esc_snoc (s.data.toList.take k) (s[k]'hlt)
          rw [← hts] at hE0
          have HE : Hid (34 :: N.esc (s.data.toList.take (k + 1)) = 34 :: N.esc (s.data.toList.take k) ++ N.escB (s[k]'hlt)) := (show 34 :: N.esc (s.data.toList.take (k + 1)) = 34 :: N.esc (s.data.toList.take k) ++ N.escB (s[k]'hlt) by rw [hE0]; rfl)
          have ec : Hid (s.data.toList[k]? = some (s[k]'hlt)) := (show s.data.toList[k]? = some (s[k]'hlt) by rw [List.getElem?_eq_getElem (by rw [hl.out]; exact hlt)]; rfl)
          clear hts hE0
          generalize 34 :: N.esc (s.data.toList.take k) = p at *
          have hov : ¬ 9223372036854775807 < p.length + (min (k + 1) s.size - k) := by omega
          have hov2 : ¬ 9223372036854775807 < p.length + 1 := by omega
          cases h34 : (((s[k]'hlt).toNat : Int) == 34) with
          | true =>
            have hE : Hid (N.escB (s[k]'hlt) = [92, s[k]'hlt]) := N.sp_yes34 _ h34
            go_wp2
            have hx := N.ext_one s (p ++ [92]) k _ ec.out
            have hy : ((⟨p.toArray⟩ : ByteArray) ++ ⟨#[92]⟩) = ⟨(p ++ [92]).toArray⟩ := ByteArray.mk_append_mk p [92]
            rw [hy, hx]
            exact ⟨⟨k + 1, by omega, by go_num, by rw [HE.out, hE.out]; simp⟩, by simp [intOf]; omega⟩
          | false =>
            cases h92 : (((s[k]'hlt).toNat : Int) == 92) with
            | true =>
              have hE : Hid (N.escB (s[k]'hlt) = [92, s[k]'hlt]) := N.sp_yes92 _ h92
              go_wp2
              have hx := N.ext_one s (p ++ [92]) k _ ec.out
              have hy : ((⟨p.toArray⟩ : ByteArray) ++ ⟨#[92]⟩) = ⟨(p ++ [92]).toArray⟩ := ByteArray.mk_append_mk p [92]
              rw [hy, hx]
              exact ⟨⟨k + 1, by omega, by go_num, by rw [HE.out, hE.out]; simp⟩, by simp [intOf]; omega⟩
            | false =>
              have hE : Hid (N.escB (s[k]'hlt) = [s[k]'hlt]) := N.sp_no _ h34 h92
              go_wp2
              have hx := N.ext_one s p k _ ec.out
              rw [hx]
              exact ⟨⟨k + 1, by omega, by go_num, by rw [HE.out, hE.out]⟩, by simp [intOf]; omega⟩
        · have hfull : s.data.toList.take k = s.data.toList := List.take_of_length_le (by rw [hl.out]; omega)
          rw [hfull] at hln ⊢
          clear hfull
          have hq : Hid (N.quot s.data.toList = (34 :: N.esc s.data.toList) ++ [34]) := (show N.quot s.data.toList = (34 :: N.esc s.data.toList) ++ [34] from rfl)
          generalize 34 :: N.esc s.data.toList = p at *
          have hov2 : ¬ 9223372036854775807 < p.length + 1 := by omega
          go_wp2
          go_ret2
          refine ⟨ret_two ?_ rfl, hb2⟩
          rw [hw.out, hq.out]
          have hy : ((⟨p.toArray⟩ : ByteArray) ++ ⟨#[34]⟩) = ⟨(p ++ [34]).toArray⟩ := ByteArray.mk_append_mk p [34]
          rw [← hy]
          rfl
end Go.Proofs.Ytgjdpgmffhihnaa
