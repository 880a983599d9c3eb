import Derived.Test.YtgjdpgmffhihnaaBare
set_option linter.unusedVariables false
set_option linter.unusedSimpArgs false
namespace Go.Proofs.Ytgjdpgmffhihnaa
namespace N
def chC (s : ByteArray) (i : Nat) : Int := if non s i then 0 else rn s i
def chN (s : ByteArray) (i : Nat) : Int := if non s i then 0 else (wd s i : Int)

/-- the same over four bytes: is none there, which one, how many bytes -/
def nonN (n b0 b1 b2 b3 : Nat) : Prop := Lib.decodeN n b0 b1 b2 b3 = (65533, 1)
theorem ch_of (s : ByteArray) (i : Nat) (v k : Nat) (h : Lib.decodeN (s.size - i) (s.get! i).toNat (s.get! (i + 1)).toNat (s.get! (i + 2)).toNat (s.get! (i + 3)).toNat = (v, k)) (hn : ¬ (v = 65533 ∧ k = 1)) :
    chC s i = v ∧ chN s i = k := by
  have hd : Utf8.decode s i = (v, k) := by rw [Lib.decode_at, h]
  have hnon : non s i = false := by
    unfold non rn wd
    rw [hd]
    simp only [Bool.and_eq_false_iff, beq_eq_false_iff_ne]
    by_cases hv : v = 65533
    · exact Or.inr fun hk => hn ⟨hv, hk⟩
    · left; omega
  unfold chC chN
  rw [hnon]
  unfold rn wd
  rw [hd]
  exact ⟨rfl, rfl⟩
theorem ch_no (s : ByteArray) (i : Nat) (h : Lib.decodeN (s.size - i) (s.get! i).toNat (s.get! (i + 1)).toNat (s.get! (i + 2)).toNat (s.get! (i + 3)).toNat = (65533, 1)) :
    chC s i = 0 ∧ chN s i = 0 := by
  have hd : Utf8.decode s i = (65533, 1) := by rw [Lib.decode_at, h]
  have hnon : non s i = true := by
    unfold non rn wd
    rw [hd]
    rfl
  unfold chC chN
  rw [hnon]
  exact ⟨rfl, rfl⟩
theorem at0_lt (s : ByteArray) (i : Nat) : 0 ≤ at0 s i ∧ at0 s i < 256 := by
  have := (s.get! i).toNat_lt
  unfold at0; omega

theorem ch1 (s : ByteArray) (i : Nat) (h : at0 s i < 128) : chC s i = at0 s i ∧ chN s i = 1 := by
  unfold at0 at *
  refine ch_of s i (s.get! i).toNat 1 ?_ (by omega)
  unfold Lib.decodeN
  rw [if_pos (by omega)]
theorem chx (s : ByteArray) (i : Nat) (h : 128 ≤ at0 s i) (k : at0 s i < 192 ∨ 248 ≤ at0 s i) : chC s i = 0 ∧ chN s i = 0 := by
  unfold at0 at *
  apply ch_no
  have h0 := (s.get! i).toNat_lt
  generalize (s.get! i).toNat = b0 at *
  unfold Lib.decodeN
  repeat' split
  all_goals first | rfl | (exfalso; omega)
theorem ch2no (s : ByteArray) (i : Nat) (h1 : 192 ≤ at0 s i) (h2 : at0 s i < 224)
    (k : s.size < i + 2 ∨ at0 s (i + 1) < 128 ∨ 191 < at0 s (i + 1) ∨ 64 * (at0 s i - 192) + at0 s (i + 1) - 128 < 128) : chC s i = 0 ∧ chN s i = 0 := by
  unfold at0 at *
  apply ch_no
  have b1 := (s.get! (i + 1)).toNat_lt
  generalize (s.get! i).toNat = b0 at *
  generalize (s.get! (i + 1)).toNat = b1 at *
  unfold Lib.decodeN
  repeat' split
  all_goals first | rfl | (exfalso; omega)
theorem ch2 (s : ByteArray) (i : Nat) (h1 : 192 ≤ at0 s i) (h2 : at0 s i < 224) (h3 : i + 2 ≤ s.size) (h4 : 128 ≤ at0 s (i + 1)) (h5 : at0 s (i + 1) ≤ 191)
    (k : 128 ≤ 64 * (at0 s i - 192) + at0 s (i + 1) - 128) : chC s i = 64 * (at0 s i - 192) + at0 s (i + 1) - 128 ∧ chN s i = 2 := by
  unfold at0 at *
  have e := ch_of s i ((s.get! i).toNat % 32 * 64 + (s.get! (i + 1)).toNat % 64) 2
  generalize (s.get! i).toNat = b0 at *
  generalize (s.get! (i + 1)).toNat = b1 at *
  have e' := e (by
    unfold Lib.decodeN
    rw [if_neg (by omega), if_pos (by omega), if_pos (by omega)]) (by omega)
  refine ⟨?_, e'.2⟩
  rw [e'.1]
  omega
theorem ch3no (s : ByteArray) (i : Nat) (h1 : 224 ≤ at0 s i) (h2 : at0 s i < 240)
    (k : s.size < i + 3 ∨ at0 s (i + 1) < 128 ∨ 191 < at0 s (i + 1) ∨ at0 s (i + 2) < 128 ∨ 191 < at0 s (i + 2) ∨ 64 * (64 * (at0 s i - 224) + at0 s (i + 1) - 128) + at0 s (i + 2) - 128 < 2048
      ∨ (55296 ≤ 64 * (64 * (at0 s i - 224) + at0 s (i + 1) - 128) + at0 s (i + 2) - 128 ∧ 64 * (64 * (at0 s i - 224) + at0 s (i + 1) - 128) + at0 s (i + 2) - 128 ≤ 57343)) : chC s i = 0 ∧ chN s i = 0 := by
  unfold at0 at *
  apply ch_no
  have b1 := (s.get! (i + 1)).toNat_lt
  have b2 := (s.get! (i + 2)).toNat_lt
  generalize (s.get! i).toNat = b0 at *
  generalize (s.get! (i + 1)).toNat = b1 at *
  generalize (s.get! (i + 2)).toNat = b2 at *
  unfold Lib.decodeN
  repeat' split
  all_goals first | rfl | (exfalso; omega)
theorem ch3 (s : ByteArray) (i : Nat) (h1 : 224 ≤ at0 s i) (h2 : at0 s i < 240) (h3 : i + 3 ≤ s.size) (h4 : 128 ≤ at0 s (i + 1)) (h5 : at0 s (i + 1) ≤ 191) (h6 : 128 ≤ at0 s (i + 2)) (h7 : at0 s (i + 2) ≤ 191)
    (k : 2048 ≤ 64 * (64 * (at0 s i - 224) + at0 s (i + 1) - 128) + at0 s (i + 2) - 128)
    (m : 64 * (64 * (at0 s i - 224) + at0 s (i + 1) - 128) + at0 s (i + 2) - 128 < 55296 ∨ 57343 < 64 * (64 * (at0 s i - 224) + at0 s (i + 1) - 128) + at0 s (i + 2) - 128) :
    chC s i = 64 * (64 * (at0 s i - 224) + at0 s (i + 1) - 128) + at0 s (i + 2) - 128 ∧ chN s i = 3 := by
  unfold at0 at *
  have e := ch_of s i ((s.get! i).toNat % 16 * 4096 + (s.get! (i + 1)).toNat % 64 * 64 + (s.get! (i + 2)).toNat % 64) 3
  generalize (s.get! i).toNat = b0 at *
  generalize (s.get! (i + 1)).toNat = b1 at *
  generalize (s.get! (i + 2)).toNat = b2 at *
  have e' := e (by
    unfold Lib.decodeN
    rw [if_neg (by omega), if_neg (by omega), if_pos (by omega), if_pos (by omega)]) (by omega)
  refine ⟨?_, e'.2⟩
  rw [e'.1]
  omega
theorem ch4no (s : ByteArray) (i : Nat) (h1 : 240 ≤ at0 s i) (h2 : at0 s i < 248)
    (k : s.size < i + 4 ∨ at0 s (i + 1) < 128 ∨ 191 < at0 s (i + 1) ∨ at0 s (i + 2) < 128 ∨ 191 < at0 s (i + 2) ∨ at0 s (i + 3) < 128 ∨ 191 < at0 s (i + 3)
      ∨ 64 * (64 * (64 * (at0 s i - 240) + at0 s (i + 1) - 128) + at0 s (i + 2) - 128) + at0 s (i + 3) - 128 < 65536
      ∨ 1114111 < 64 * (64 * (64 * (at0 s i - 240) + at0 s (i + 1) - 128) + at0 s (i + 2) - 128) + at0 s (i + 3) - 128) : chC s i = 0 ∧ chN s i = 0 := by
  unfold at0 at *
  apply ch_no
  have b1 := (s.get! (i + 1)).toNat_lt
  have b2 := (s.get! (i + 2)).toNat_lt
  have b3 := (s.get! (i + 3)).toNat_lt
  generalize (s.get! i).toNat = b0 at *
  generalize (s.get! (i + 1)).toNat = b1 at *
  generalize (s.get! (i + 2)).toNat = b2 at *
  generalize (s.get! (i + 3)).toNat = b3 at *
  unfold Lib.decodeN
  repeat' split
  all_goals first | rfl | (exfalso; omega)
theorem ch4 (s : ByteArray) (i : Nat) (h1 : 240 ≤ at0 s i) (h2 : at0 s i < 248) (h3 : i + 4 ≤ s.size) (h4 : 128 ≤ at0 s (i + 1)) (h5 : at0 s (i + 1) ≤ 191) (h6 : 128 ≤ at0 s (i + 2)) (h7 : at0 s (i + 2) ≤ 191) (h8 : 128 ≤ at0 s (i + 3)) (h9 : at0 s (i + 3) ≤ 191)
    (k : 65536 ≤ 64 * (64 * (64 * (at0 s i - 240) + at0 s (i + 1) - 128) + at0 s (i + 2) - 128) + at0 s (i + 3) - 128)
    (m : 64 * (64 * (64 * (at0 s i - 240) + at0 s (i + 1) - 128) + at0 s (i + 2) - 128) + at0 s (i + 3) - 128 ≤ 1114111) :
    chC s i = 64 * (64 * (64 * (at0 s i - 240) + at0 s (i + 1) - 128) + at0 s (i + 2) - 128) + at0 s (i + 3) - 128 ∧ chN s i = 4 := by
  unfold at0 at *
  have e := ch_of s i ((s.get! i).toNat % 8 * 262144 + (s.get! (i + 1)).toNat % 64 * 4096 + (s.get! (i + 2)).toNat % 64 * 64 + (s.get! (i + 3)).toNat % 64) 4
  generalize (s.get! i).toNat = b0 at *
  generalize (s.get! (i + 1)).toNat = b1 at *
  generalize (s.get! (i + 2)).toNat = b2 at *
  generalize (s.get! (i + 3)).toNat = b3 at *
  have e' := e (by
    unfold Lib.decodeN
    rw [if_neg (by omega), if_neg (by omega), if_neg (by omega), if_pos (by omega), if_pos (by omega)]) (by omega)
  refine ⟨?_, e'.2⟩
  rw [e'.1]
  omega
end N
end Go.Proofs.Ytgjdpgmffhihnaa
