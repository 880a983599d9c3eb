import Derived.Test.YtpnkfbmdpgdbcaaDoorGpQ
set_option linter.unusedVariables false
set_option linter.unusedSimpArgs false
namespace Go.Proofs.YtpnkfbmdpgdbcaaDoor
open Go.RowKit
set_option maxHeartbeats 400000 in
set_option maxRecDepth 100000 in
/-- a word's letters -/
theorem bare_any (s : ByteArray) (f : Int) (hf : -9223372036854775808 ≤ f ∧ f ≤ 9223372036854775807) (hs : s.size ≤ 140737488355328) (w : World) :
    Calls Tryd.prog 16 #[.string s, .int .i64 f] w fun e w' => e = .returned (.string ⟨(L.baL s f).toArray⟩) ∧ w' = w := by
  have HP := hide' (fun W => pick_any f 53 W hf (by omega))
  have HB := hide' (pik_bd f 53 (by omega))
  have HS := hide' hs
  unfold L.baL
  obtain ⟨p, ep⟩ : ∃ p : Nat, pik f 53 = (p : Int) := ⟨(pik f 53).toNat, by have := HB.out; omega⟩
  rw [ep] at HP HB ⊢
  rw [Int.toNat_natCast]
  clear ep hf hs
  have hp64 : p < 64 := by have := HB.out; omega
  have ho0 : ¬ 9223372036854775807 < 0 + (min (p + 1) 64 - p) := by omega
  have hw1 : wrap64 ((p : Int) + 1) = ((p + 1 : Nat) : Int) := by unfold wrap64; omega
  go_enter Tryd.func16, Tryd.ntmps16
  go_wp2_with fail
  refine (HP.out _).mono ?_
  rintro e w5 ⟨rfl, rfl⟩
  go_wp2_with fail
  refine (HP.out _).mono ?_
  rintro e w6 ⟨rfl, rfl⟩
  clear HP
  go_wp2_with fail
  go_loopw [6, 7] (fun sv iv wx => ∃ (i : Nat) (X : ByteArray) (V : World), V = wx ∧ sv = .string X ∧ iv = .int .i64 (i : Int) ∧ i ≤ 19 ∧ i ≤ s.size ∧ X = ⟨(L.le1 p :: (s.data.toList.take i).map fun c => L.le1 (c.toNat % 64)).toArray⟩ ∧ V = w6) (fun _ iv _ => 19 - (intOf iv).toNat)
  case atStart => exact ⟨0, _, _, rfl, rfl, rfl, by omega, by omega, L.le1_all ⟨p, hp64⟩, rfl⟩
  case round =>
    obtain ⟨i, X, V, rfl, rfl, rfl, hi, his, hX, rfl⟩ := hrel
    have hXs : X.size ≤ 20 := by
      rw [hX]
      show (L.le1 p :: (s.data.toList.take i).map fun c => L.le1 (c.toNat % 64)).toArray.size ≤ 20
      simp
      omega
    have HX := hide' hX
    clear hX ho0 hw1 hp64
    by_cases hlt : i < s.size
    · have hlt' : (i : Int) < ((s.size : Nat) : Int) := by omega
      by_cases h19 : i < 19
      · have h19' : (i : Int) < 19 := by omega
        have hb := L.byte_at s i hlt
        obtain ⟨d, hd⟩ : ∃ d, d = L.bt s i % 64 := ⟨_, rfl⟩
        have Hd := hide' hd
        have hmod : (L.bt s i : Int) % 64 = (d : Int) := by omega
        have hb256 := L.bt_lt s i
        have hwb : wrap64 (L.bt s i : Int) = (L.bt s i : Int) := by unfold wrap64; omega
        have hd64 : d < 64 := by omega
        have ei : wrap64 ((i : Int) + 1) = ((i + 1 : Nat) : Int) := by unfold wrap64; omega
        have ho : ¬ 9223372036854775807 < X.size + (min (d + 1) 64 - d) := by omega
        clear hd
        go_wp2_with fail
        exact ⟨⟨i + 1, _, _, rfl, rfl, rfl, h19, hlt, L.le_step hlt HX.out Hd.out, rfl⟩, show 19 - (((i + 1 : Nat) : Int)).toNat < 19 - ((i : Int)).toNat by omega⟩
      · have h19' : ¬ (i : Int) < 19 := by omega
        have ic : s.data.toList.take i = s.data.toList.take 19 := by rw [show i = 19 by omega]
        clear hXs
        go_wp2_with fail
        go_ret
        refine ⟨?_, rfl⟩
        show Ending.returned (.string X) = _
        rw [HX.out, ic, List.map_take]
    · have hlt' : ¬ (i : Int) < ((s.size : Nat) : Int) := by omega
      have ic : s.data.toList.take i = s.data.toList.take 19 := by
        have h0 : s.data.toList.length = s.size := Array.length_toList
        rw [List.take_of_length_le (by omega), List.take_of_length_le (by omega)]
      clear hXs
      go_wp2_with fail
      go_ret
      refine ⟨?_, rfl⟩
      show Ending.returned (.string X) = _
      rw [HX.out, ic, List.map_take]
end Go.Proofs.YtpnkfbmdpgdbcaaDoor
