import Derived.Test.YtpnkfbmdpgdbcaaDoorGpW
set_option linter.unusedVariables false
set_option linter.unusedSimpArgs false
namespace Go.Proofs.YtpnkfbmdpgdbcaaDoor
open Go.RowKit
namespace L
def tenS : ByteArray := ⟨#[48, 49, 50, 51, 52, 53, 54, 55, 56, 57]⟩
def dg1 (d : Nat) : UInt8 := tenS.data.getD d 0
theorem dg1_all : ∀ d : Fin 10, tenS.extract d.val (d.val + 1) = ⟨#[dg1 d.val]⟩ ∧ (dg1 d.val).toNat = 48 + d.val := by
  intro d
  have : ∀ d : Fin 10, (tenS.extract d.val (d.val + 1)).data = #[dg1 d.val] ∧ (dg1 d.val).toNat = 48 + d.val := by decide +kernel
  exact ⟨ByteArray.ext (this d).1, (this d).2⟩
/-- so many digits of a number, its last ones first -/
def dgL (K m : Nat) : List UInt8 := (List.range m).map fun j => dg1 (K / 10 ^ j % 10)
theorem dgL_len (K m : Nat) : (dgL K m).length = m := by simp [dgL]
theorem dg_step {K m d : Nat} {X : ByteArray} (hX : X = ⟨(48 :: 46 :: dgL K m).toArray⟩) (hd : d = K / 10 ^ m % 10) : X ++ tenS.extract d (d + 1) = ⟨(48 :: 46 :: dgL K (m + 1)).toArray⟩ := by
  have h := (dg1_all ⟨d, by omega⟩).1
  simp only at h
  rw [hX, h]
  apply ByteArray.ext
  rw [ByteArray.data_append]
  simp [dgL, List.range_succ, hd]
/-- a number's text -/
def deL (n : Int) : List UInt8 := if pik n 5 = 0 then [49] else if pik n 5 = 1 then [48] else 48 :: 46 :: dgL (pik n 1000000007).toNat (1 + (pik n 9).toNat)
def letS : ByteArray := ⟨#[97, 98, 99, 100, 101, 102, 103, 104, 105, 106, 107, 108, 109, 110, 111, 112, 113, 114, 115, 116, 117, 118, 119, 120, 121, 122, 65, 66, 67, 68, 69, 70, 71, 72, 73, 74, 75, 76, 77, 78, 79, 80, 81, 82, 83, 84, 85, 86, 87, 88, 89, 90, 95, 48, 49, 50, 51, 52, 53, 54, 55, 56, 57, 45]⟩
def le1 (d : Nat) : UInt8 := letS.data.getD d 0
theorem le1_all : ∀ d : Fin 64, letS.extract d.val (d.val + 1) = ⟨#[le1 d.val]⟩ := by
  intro d
  have : ∀ d : Fin 64, (letS.extract d.val (d.val + 1)).data = #[le1 d.val] := by decide +kernel
  exact ByteArray.ext (this d)
/-- a word's letters -/
def baL (s : ByteArray) (f : Int) : List UInt8 := le1 (pik f 53).toNat :: (s.data.toList.take 19).map fun c => le1 (c.toNat % 64)
theorem le_step {s X : ByteArray} {p i d : Nat} (h : i < s.size) (hX : X = ⟨(le1 p :: (s.data.toList.take i).map fun c => le1 (c.toNat % 64)).toArray⟩) (hd : d = bt s i % 64) : X ++ letS.extract d (d + 1) = ⟨(le1 p :: (s.data.toList.take (i + 1)).map fun c => le1 (c.toNat % 64)).toArray⟩ := by
  have e := le1_all ⟨d, by omega⟩
  simp only at e
  rw [hX, e, take_one s i h]
  apply ByteArray.ext
  rw [ByteArray.data_append]
  have := byte_at s i h
  simp [hd, this]
end L
set_option maxHeartbeats 400000 in
set_option maxRecDepth 100000 in
/-- a number's text -/
theorem decimal_any (n : Int) (hn : -9223372036854775808 ≤ n ∧ n ≤ 9223372036854775807) (w : World) :
    Calls Tryd.prog 15 #[.int .i64 n] w fun e w' => e = .returned (.string ⟨(L.deL n).toArray⟩) ∧ w' = w := by
  have HP := hide' (fun W => pick_any n 5 W hn (by omega))
  have HP9 := hide' (fun W => pick_any n 9 W hn (by omega))
  have HPT := hide' (fun W => pick_any n 1000000007 W hn (by omega))
  have hp5 := pik_bd n 5 (by omega)
  have HB9 := hide' (pik_bd n 9 (by omega))
  have HBT := hide' (pik_bd n 1000000007 (by omega))
  unfold L.deL
  obtain ⟨p, ep⟩ : ∃ p, pik n 5 = p := ⟨_, rfl⟩
  obtain ⟨c, ec⟩ : ∃ c : Nat, pik n 9 = (c : Int) := ⟨(pik n 9).toNat, by have := HB9.out; omega⟩
  obtain ⟨K, eK⟩ : ∃ K : Nat, pik n 1000000007 = (K : Int) := ⟨(pik n 1000000007).toNat, by have := HBT.out; omega⟩
  rw [ep] at HP hp5 ⊢
  rw [ec] at HP9 HB9 ⊢
  rw [eK] at HPT HBT ⊢
  clear ep ec eK hn
  have h1 : wrap64 (1 + (c : Int)) = ((1 + c : Nat) : Int) := by have := HB9.out; unfold wrap64; omega
  by_cases h0 : p = 0
  · subst h0
    clear hp5
    go_enter Tryd.func15, Tryd.ntmps15
    go_wp2_with (go_at_call 10; first | (refine (HP.out _).mono ?_; rintro e w5 ⟨rfl, rfl⟩) | (refine (HP9.out _).mono ?_; rintro e w5 ⟨rfl, rfl⟩) | (refine (HPT.out _).mono ?_; rintro e w5 ⟨rfl, rfl⟩))
    go_ret
    exact ⟨rfl, rfl⟩
  by_cases hp1 : p = 1
  · subst hp1
    clear hp5 h0
    go_enter Tryd.func15, Tryd.ntmps15
    go_wp2_with (go_at_call 10; first | (refine (HP.out _).mono ?_; rintro e w5 ⟨rfl, rfl⟩) | (refine (HP9.out _).mono ?_; rintro e w5 ⟨rfl, rfl⟩) | (refine (HPT.out _).mono ?_; rintro e w5 ⟨rfl, rfl⟩))
    go_ret
    exact ⟨rfl, rfl⟩
  rw [if_neg h0, if_neg hp1]
  have z0 : (p == 0) = false := by simpa using h0
  have z1 : (p == 1) = false := by simpa using hp1
  clear hp5
  go_enter Tryd.func15, Tryd.ntmps15
  go_wp2_with fail
  refine (HP.out _).mono ?_
  rintro e w5 ⟨rfl, rfl⟩
  go_wp2_with fail
  refine (HP.out _).mono ?_
  rintro e w6 ⟨rfl, rfl⟩
  go_wp2_with fail
  refine (HPT.out _).mono ?_
  rintro e w7 ⟨rfl, rfl⟩
  clear HP HPT
  go_wp2_with fail
  go_loopw [4, 5, 6] (fun sv kv iv wx => ∃ (i : Nat) (X : ByteArray) (V : World), V = wx ∧ sv = .string X ∧ kv = .int .i64 ((K / 10 ^ i : Nat) : Int) ∧ iv = .int .i64 (i : Int) ∧ i ≤ 1 + c ∧ X = ⟨(48 :: 46 :: L.dgL K i).toArray⟩ ∧ V = w7) (fun _ _ iv _ => 1 + c - (intOf iv).toNat)
  case atStart => exact ⟨0, _, _, rfl, rfl, by simp, rfl, by omega, rfl, rfl⟩
  case round =>
    obtain ⟨i, X, V, rfl, rfl, rfl, rfl, hi, hX, rfl⟩ := hrel
    have hXs : X.size = 2 + i := by rw [hX]; show (48 :: 46 :: L.dgL K i).toArray.size = _; simp [L.dgL_len]; omega
    have HX := hide' hX
    clear hX
    have hc9 := HB9.out.2
    by_cases hlt : i < 1 + c
    · have hlt' : (i : Int) < ((1 + c : Nat) : Int) := by omega
      obtain ⟨m, hm⟩ : ∃ m, m = K / 10 ^ i := ⟨_, rfl⟩
      have Hm := hide' hm
      rw [← hm]
      obtain ⟨d, hd⟩ : ∃ d, d = m % 10 := ⟨_, rfl⟩
      have Hd := hide' (show d = K / 10 ^ i % 10 by rw [hd, hm])
      have hmod : (m : Int) % 10 = (d : Int) := by omega
      have hd10 : d < 10 := by omega
      have ei : wrap64 ((i : Int) + 1) = ((i + 1 : Nat) : Int) := by unfold wrap64; omega
      have ho : ¬ 9223372036854775807 < X.size + (min (d + 1) 10 - d) := by omega
      have Hdiv : Hid (wrap64 ((m : Int) / 10) = ((K / 10 ^ (i + 1) : Nat) : Int)) := hide' (by
        have hK := HBT.out
        have e1 : K / 10 ^ (i + 1) = m / 10 := by rw [hm, Nat.pow_succ, Nat.div_div_eq_div_mul]
        have : m ≤ K := by rw [hm]; exact Nat.div_le_self _ _
        rw [e1]
        unfold wrap64
        omega)
      clear hd hm
      go_wp2_with fail
      refine (HP9.out _).mono ?_
      rintro e w8 ⟨rfl, rfl⟩
      go_wp2_with fail
      exact ⟨⟨i + 1, _, _, rfl, rfl, congrArg (Value.int .i64) Hdiv.out, rfl, hlt, L.dg_step HX.out Hd.out, rfl⟩, show 1 + c - (((i + 1 : Nat) : Int)).toNat < 1 + c - ((i : Int)).toNat by omega⟩
    · have hlt' : ¬ (i : Int) < ((1 + c : Nat) : Int) := by omega
      have ic : i = 1 + c := by omega
      clear hXs
      go_wp2_with fail
      refine (HP9.out _).mono ?_
      rintro e w8 ⟨rfl, rfl⟩
      go_wp2_with fail
      go_ret
      refine ⟨?_, rfl⟩
      show Ending.returned (.string X) = _
      rw [HX.out, ic]
      rfl
end Go.Proofs.YtpnkfbmdpgdbcaaDoor
