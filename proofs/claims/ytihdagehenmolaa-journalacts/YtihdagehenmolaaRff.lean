import Derived.Test.YtihdagehenmolaaRfs
set_option linter.unusedVariables false
set_option linter.unusedSimpArgs false
namespace Go.Proofs.Ytihdagehenmolaa
open Go.RowKit
namespace J
open M K
/-- the lowest bytes of a number -/
def low (n : Nat) : Nat → List UInt8
  | 0 => []
  | k + 1 => low n k ++ [UInt8.ofNat (n / 256 ^ k % 256)]
theorem low_four (n : Nat) : low n 4 = four n := by
  unfold low low low low low four
  simp
set_option maxRecDepth 100000 in
set_option maxHeartbeats 1000000 in
theorem rfour_any (n : Nat) (hn : n < 4294967296) (w : World) : Calls Try.prog 32 #[.int .i64 (n : Int)] w fun e w' => e = .returned (.string (sb (four n))) ∧ Below w.heap.size w w' := by
  have HN := hide' hn
  clear hn
  go_enter Try.func32, Try.ntmps32
  go_wp2
  go_loopw [0, 3, 4] (fun m v i wx => ∃ (k M : Nat) (L : List UInt8) (ao : Option Addr) (cap : Nat), m = .int .i64 (M : Int) ∧ v = .slice ao L.length cap ∧ i = .int .i64 (k : Int) ∧ k ≤ 4 ∧ M = n / 256 ^ k ∧ L = low n k ∧ Own 1 5 ba w.heap.size (.slice ao L.length cap) L wx ∧ Below w.heap.size w wx) (fun _ _ i _ => 4 - (intOf i).toNat)
  case atStart => exact ⟨0, n, [], none, 0, rfl, rfl, rfl, Nat.zero_le _, by simp, rfl, own_nil 1 5 ba _ _, Below.refl _ _⟩
  case round =>
    obtain ⟨k, M, L, ao, cap, rfl, rfl, rfl, hk, hM, hL, hO, hB⟩ := hrel
    have HO := hide' (And.intro hO hB)
    have HM := hide' (And.intro hM hL)
    have hMl : M < 4294967296 := by rw [hM]; exact Nat.lt_of_le_of_lt (Nat.div_le_self _ _) HN.out
    have hLl : L.length = k := by
      rw [hL]
      clear hk hM hL hO hB HO HM hMl
      induction k with
      | zero => rfl
      | succ k ih => show (low n k ++ _).length = _; rw [List.length_append, ih]; rfl
    have HLl := hide' hLl
    clear hO hB hM hL hLl
    by_cases hlt : k < 4
    · have hlt' : (k : Int) < 4 := by omega
      have ek := hide' (wsucN k (by omega))
      have Hms := hide' (msr' hlt _ rfl)
      have Hlt := hide' hlt
      obtain ⟨X, hX⟩ : ∃ X : UInt8, X = UInt8.ofNat (M % 256) := ⟨_, rfl⟩
      have HX := hide' hX
      have e1 : Hid ((M : Int) % 256 % 256 = ((X.toNat : Nat) : Int) ∧ (M : Int) % 256 = ((X.toNat : Nat) : Int)) := hide' ⟨by rw [hX, ofNat_toNat (by omega)]; omega, by rw [hX, ofNat_toNat (by omega)]; omega⟩
      have e2 : wrap64 ((M : Int) / 256) = ((M / 256 : Nat) : Int) := by unfold wrap64; omega
      clear hk hlt hX hMl
      go_wp2_with (at_builtin; refine stay_app _ _ rfl ?_)
      unfold Stay
      first | rw [e1.out.1] | rw [e1.out.2]
      refine wpList_more (arr := ba) ha_b Try.underlying60 info5 rfl (by omega) wr rfl _ _ rfl (ro := ao) (rc := cap) (ss := L) HO.out.1 (by rw [HLl.out]; have := Hlt.out; unfold maxLen; omega) (by rw [HLl.out]; have := Hlt.out; omega) HO.out.2.size X (one_b X) 1 (by rfl) (by rfl) ?_
      intro g3 c3 w3 o3 t3 p3
      have K3 := hide' (And.intro o3 (HO.out.2.trans (HO.out.1.keep t3 HO.out.2.size)))
      clear o3 t3 p3
      go_wp2
      refine ⟨⟨k + 1, M / 256, L ++ [X], some ⟨g3, 0, none⟩, c3, ?_, by rw [List.length_append]; rfl, by first | rfl | rw [ek.out], Hlt.out, ?_, ?_, K3.out.1, K3.out.2⟩, by first | exact Hms.out | (rw [ek.out]; exact Hms.out)⟩
      · first | rw [e2] | rfl
      · rw [HM.out.1, Nat.div_div_eq_div_mul, Nat.pow_succ]
      · show _ = low n k ++ [UInt8.ofNat (n / 256 ^ k % 256)]
        rw [HM.out.2, HX.out, HM.out.1]
    · have hlt' : ¬ ((k : Int) < 4) := by omega
      obtain rfl : k = 4 := by omega
      have hc := conv HO.out.1 L.length cap (Nat.le_refl _)
      rw [List.take_length] at hc
      have HE : Hid (L = four n) := hide' (by rw [HM.out.2, low_four])
      clear hk hlt hlt' hMl
      go_wp2
      go_ret
      exact ⟨by rw [← HE.out]; rfl, HO.out.2⟩
end J
end Go.Proofs.Ytihdagehenmolaa
