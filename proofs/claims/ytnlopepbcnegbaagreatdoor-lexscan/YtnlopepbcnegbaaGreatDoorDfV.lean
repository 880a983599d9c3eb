import Derived.Test.YtnlopepbcnegbaaGreatDoorJM
import Derived.Test.YtnlopepbcnegbaaGreatDoorJA
import Derived.WalkKit
import Derived.WalkSpells
import Derived.WalkLawsBesides
import Derived.LoopTactic
set_option linter.unusedVariables false
set_option linter.unusedSimpArgs false
namespace Go.Proofs.YtnlopepbcnegbaaGreatDoor
open Go.RowKit
theorem ret_tw {a b : Value} {c d : Value} (h : a = b) (k : c = d) : Ending.returned (.tuple #[a, c]) = .returned (.tuple #[b, d]) := by rw [h, k]
namespace N
def at0 (s : ByteArray) (i : Nat) : Int := ((s.get! i).toNat : Nat)
theorem at0_eq (s : ByteArray) (i : Nat) (h : i < s.size) : ((s[i]'h).toNat : Int) = at0 s i := by
  unfold at0
  have : s.get! i = s[i]'h := by
    simp [ByteArray.get!, getElem!_pos, h]
    rfl
  rw [this]
end N
/-! CharP -/

namespace N
def chC (s : ByteArray) (i : Nat) : Int := if non s i then 0 else rn s i
def chN (s : ByteArray) (i : Nat) : Int := if non s i then 0 else (wd s i : Int)

/-- the same over four bytes: is none there, which one, how many bytes -/
def nonN (n b0 b1 b2 b3 : Nat) : Prop := Lib.decodeN n b0 b1 b2 b3 = (65533, 1)
theorem ch_of (s : ByteArray) (i : Nat) (v k : Nat) (h : Lib.decodeN (s.size - i) (s.get! i).toNat (s.get! (i + 1)).toNat (s.get! (i + 2)).toNat (s.get! (i + 3)).toNat = (v, k)) (hn : ¬ (v = 65533 ∧ k = 1)) :
    chC s i = v ∧ chN s i = k := by
  have hd : Utf8.decode s i = (v, k) := by rw [Lib.decode_at, h]
  have hnon : non s i = false := by
    unfold non rn wd
    rw [hd]
    simp only [Bool.and_eq_false_iff, beq_eq_false_iff_ne]
    by_cases hv : v = 65533
    · exact Or.inr fun hk => hn ⟨hv, hk⟩
    · left; omega
  unfold chC chN
  rw [hnon]
  unfold rn wd
  rw [hd]
  exact ⟨rfl, rfl⟩
theorem ch_no (s : ByteArray) (i : Nat) (h : Lib.decodeN (s.size - i) (s.get! i).toNat (s.get! (i + 1)).toNat (s.get! (i + 2)).toNat (s.get! (i + 3)).toNat = (65533, 1)) :
    chC s i = 0 ∧ chN s i = 0 := by
  have hd : Utf8.decode s i = (65533, 1) := by rw [Lib.decode_at, h]
  have hnon : non s i = true := by
    unfold non rn wd
    rw [hd]
    rfl
  unfold chC chN
  rw [hnon]
  exact ⟨rfl, rfl⟩
theorem at0_lt (s : ByteArray) (i : Nat) : 0 ≤ at0 s i ∧ at0 s i < 256 := by
  have := (s.get! i).toNat_lt
  unfold at0; omega

theorem ch1 (s : ByteArray) (i : Nat) (h : at0 s i < 128) : chC s i = at0 s i ∧ chN s i = 1 := by
  unfold at0 at *
  refine ch_of s i (s.get! i).toNat 1 ?_ (by omega)
  unfold Lib.decodeN
  rw [if_pos (by omega)]
theorem chx (s : ByteArray) (i : Nat) (h : 128 ≤ at0 s i) (k : at0 s i < 192 ∨ 248 ≤ at0 s i) : chC s i = 0 ∧ chN s i = 0 := by
  unfold at0 at *
  apply ch_no
  have h0 := (s.get! i).toNat_lt
  generalize (s.get! i).toNat = b0 at *
  unfold Lib.decodeN
  repeat' split
  all_goals first | rfl | (exfalso; omega)
theorem ch2no (s : ByteArray) (i : Nat) (h1 : 192 ≤ at0 s i) (h2 : at0 s i < 224)
    (k : s.size < i + 2 ∨ at0 s (i + 1) < 128 ∨ 191 < at0 s (i + 1) ∨ 64 * (at0 s i - 192) + at0 s (i + 1) - 128 < 128) : chC s i = 0 ∧ chN s i = 0 := by
  unfold at0 at *
  apply ch_no
  have b1 := (s.get! (i + 1)).toNat_lt
  generalize (s.get! i).toNat = b0 at *
  generalize (s.get! (i + 1)).toNat = b1 at *
  unfold Lib.decodeN
  repeat' split
  all_goals first | rfl | (exfalso; omega)
theorem ch2 (s : ByteArray) (i : Nat) (h1 : 192 ≤ at0 s i) (h2 : at0 s i < 224) (h3 : i + 2 ≤ s.size) (h4 : 128 ≤ at0 s (i + 1)) (h5 : at0 s (i + 1) ≤ 191)
    (k : 128 ≤ 64 * (at0 s i - 192) + at0 s (i + 1) - 128) : chC s i = 64 * (at0 s i - 192) + at0 s (i + 1) - 128 ∧ chN s i = 2 := by
  unfold at0 at *
  have e := ch_of s i ((s.get! i).toNat % 32 * 64 + (s.get! (i + 1)).toNat % 64) 2
  generalize (s.get! i).toNat = b0 at *
  generalize (s.get! (i + 1)).toNat = b1 at *
  have e' := e (by
    unfold Lib.decodeN
    rw [if_neg (by omega), if_pos (by omega), if_pos (by omega)]) (by omega)
  refine ⟨?_, e'.2⟩
  rw [e'.1]
  omega
theorem ch3no (s : ByteArray) (i : Nat) (h1 : 224 ≤ at0 s i) (h2 : at0 s i < 240)
    (k : s.size < i + 3 ∨ at0 s (i + 1) < 128 ∨ 191 < at0 s (i + 1) ∨ at0 s (i + 2) < 128 ∨ 191 < at0 s (i + 2) ∨ 64 * (64 * (at0 s i - 224) + at0 s (i + 1) - 128) + at0 s (i + 2) - 128 < 2048
      ∨ (55296 ≤ 64 * (64 * (at0 s i - 224) + at0 s (i + 1) - 128) + at0 s (i + 2) - 128 ∧ 64 * (64 * (at0 s i - 224) + at0 s (i + 1) - 128) + at0 s (i + 2) - 128 ≤ 57343)) : chC s i = 0 ∧ chN s i = 0 := by
  unfold at0 at *
  apply ch_no
  have b1 := (s.get! (i + 1)).toNat_lt
  have b2 := (s.get! (i + 2)).toNat_lt
  generalize (s.get! i).toNat = b0 at *
  generalize (s.get! (i + 1)).toNat = b1 at *
  generalize (s.get! (i + 2)).toNat = b2 at *
  unfold Lib.decodeN
  repeat' split
  all_goals first | rfl | (exfalso; omega)
theorem ch3 (s : ByteArray) (i : Nat) (h1 : 224 ≤ at0 s i) (h2 : at0 s i < 240) (h3 : i + 3 ≤ s.size) (h4 : 128 ≤ at0 s (i + 1)) (h5 : at0 s (i + 1) ≤ 191) (h6 : 128 ≤ at0 s (i + 2)) (h7 : at0 s (i + 2) ≤ 191)
    (k : 2048 ≤ 64 * (64 * (at0 s i - 224) + at0 s (i + 1) - 128) + at0 s (i + 2) - 128)
    (m : 64 * (64 * (at0 s i - 224) + at0 s (i + 1) - 128) + at0 s (i + 2) - 128 < 55296 ∨ 57343 < 64 * (64 * (at0 s i - 224) + at0 s (i + 1) - 128) + at0 s (i + 2) - 128) :
    chC s i = 64 * (64 * (at0 s i - 224) + at0 s (i + 1) - 128) + at0 s (i + 2) - 128 ∧ chN s i = 3 := by
  unfold at0 at *
  have e := ch_of s i ((s.get! i).toNat % 16 * 4096 + (s.get! (i + 1)).toNat % 64 * 64 + (s.get! (i + 2)).toNat % 64) 3
  generalize (s.get! i).toNat = b0 at *
  generalize (s.get! (i + 1)).toNat = b1 at *
  generalize (s.get! (i + 2)).toNat = b2 at *
  have e' := e (by
    unfold Lib.decodeN
    rw [if_neg (by omega), if_neg (by omega), if_pos (by omega), if_pos (by omega)]) (by omega)
  refine ⟨?_, e'.2⟩
  rw [e'.1]
  omega
theorem ch4no (s : ByteArray) (i : Nat) (h1 : 240 ≤ at0 s i) (h2 : at0 s i < 248)
    (k : s.size < i + 4 ∨ at0 s (i + 1) < 128 ∨ 191 < at0 s (i + 1) ∨ at0 s (i + 2) < 128 ∨ 191 < at0 s (i + 2) ∨ at0 s (i + 3) < 128 ∨ 191 < at0 s (i + 3)
      ∨ 64 * (64 * (64 * (at0 s i - 240) + at0 s (i + 1) - 128) + at0 s (i + 2) - 128) + at0 s (i + 3) - 128 < 65536
      ∨ 1114111 < 64 * (64 * (64 * (at0 s i - 240) + at0 s (i + 1) - 128) + at0 s (i + 2) - 128) + at0 s (i + 3) - 128) : chC s i = 0 ∧ chN s i = 0 := by
  unfold at0 at *
  apply ch_no
  have b1 := (s.get! (i + 1)).toNat_lt
  have b2 := (s.get! (i + 2)).toNat_lt
  have b3 := (s.get! (i + 3)).toNat_lt
  generalize (s.get! i).toNat = b0 at *
  generalize (s.get! (i + 1)).toNat = b1 at *
  generalize (s.get! (i + 2)).toNat = b2 at *
  generalize (s.get! (i + 3)).toNat = b3 at *
  unfold Lib.decodeN
  repeat' split
  all_goals first | rfl | (exfalso; omega)
theorem ch4 (s : ByteArray) (i : Nat) (h1 : 240 ≤ at0 s i) (h2 : at0 s i < 248) (h3 : i + 4 ≤ s.size) (h4 : 128 ≤ at0 s (i + 1)) (h5 : at0 s (i + 1) ≤ 191) (h6 : 128 ≤ at0 s (i + 2)) (h7 : at0 s (i + 2) ≤ 191) (h8 : 128 ≤ at0 s (i + 3)) (h9 : at0 s (i + 3) ≤ 191)
    (k : 65536 ≤ 64 * (64 * (64 * (at0 s i - 240) + at0 s (i + 1) - 128) + at0 s (i + 2) - 128) + at0 s (i + 3) - 128)
    (m : 64 * (64 * (64 * (at0 s i - 240) + at0 s (i + 1) - 128) + at0 s (i + 2) - 128) + at0 s (i + 3) - 128 ≤ 1114111) :
    chC s i = 64 * (64 * (64 * (at0 s i - 240) + at0 s (i + 1) - 128) + at0 s (i + 2) - 128) + at0 s (i + 3) - 128 ∧ chN s i = 4 := by
  unfold at0 at *
  have e := ch_of s i ((s.get! i).toNat % 8 * 262144 + (s.get! (i + 1)).toNat % 64 * 4096 + (s.get! (i + 2)).toNat % 64 * 64 + (s.get! (i + 3)).toNat % 64) 4
  generalize (s.get! i).toNat = b0 at *
  generalize (s.get! (i + 1)).toNat = b1 at *
  generalize (s.get! (i + 2)).toNat = b2 at *
  generalize (s.get! (i + 3)).toNat = b3 at *
  have e' := e (by
    unfold Lib.decodeN
    rw [if_neg (by omega), if_neg (by omega), if_neg (by omega), if_pos (by omega), if_pos (by omega)]) (by omega)
  refine ⟨?_, e'.2⟩
  rw [e'.1]
  omega
end N

/-! Char -/


theorem ret_ch {a b c d : Int} (h : a = b) (k : c = d) : Ending.returned (.tuple #[.int .i64 a, .int .i64 c]) = .returned (.tuple #[.int .i64 b, .int .i64 d]) := by rw [h, k]

set_option maxRecDepth 100000 in
set_option maxHeartbeats 1000000 in
theorem char_1 (s : ByteArray) (i : Nat) (w : World) (hs : s.size ≤ 32) (hi : i < s.size) (h : N.at0 s i < 128) :
    Calls Tryz.prog 81 #[.string s, .int .i64 i] w fun e w' => e = .returned (.tuple #[.int .i64 (N.chC s i), .int .i64 (N.chN s i)]) ∧ w' = w := by
  have hc := N.ch1 s i h
  have ea := N.at0_eq s i hi
  have bd := N.at0_lt s i
  rw [← ea] at h bd hc
  have b1 := bd.1
  have b2 := bd.2
  have Hc : Hid (N.chC s i = ((s[i]'hi).toNat : Int) ∧ N.chN s i = 1) := hc
  clear hc bd ea
  have g1 : decide ((i : Int) < 0) = false := by simp
  have g2 : decide ((s.size : Int) - i < 1) = false := by simp; omega
  have g3 : decide (128 ≤ ((s[i]'hi).toNat : Int)) = false := by simp; omega
  go_enter Tryz.func81, Tryz.ntmps81
  go_wp2
  go_loop [9, 11] (fun v k => k = .int .i64 1 ∧ v = .int .i64 ((s[i]'hi).toNat : Int)) (fun _ _ => 0)
  case atStart => exact ⟨rfl, rfl⟩
  case round =>
    obtain ⟨rfl, rfl⟩ := hrel
    have g4 : decide (((s[i]'hi).toNat : Int) < 0) = false := by simp
    have g5 : decide (1114111 < ((s[i]'hi).toNat : Int)) = false := by simp; omega
    have g6 : decide (55296 ≤ ((s[i]'hi).toNat : Int)) = false := by simp; omega
    go_wp2
    go_ret2
    exact ⟨ret_tw (by rw [Hc.out.1]; rfl) (by rw [Hc.out.2]; rfl), rfl⟩

set_option maxRecDepth 100000 in
set_option maxHeartbeats 1000000 in
theorem char_x (s : ByteArray) (i : Nat) (w : World) (hs : s.size ≤ 32) (hi : i < s.size) (h : 128 ≤ N.at0 s i) (k : N.at0 s i < 192 ∨ 248 ≤ N.at0 s i) :
    Calls Tryz.prog 81 #[.string s, .int .i64 i] w fun e w' => e = .returned (.tuple #[.int .i64 (N.chC s i), .int .i64 (N.chN s i)]) ∧ w' = w := by
  have hc := N.chx s i h k
  have ea := N.at0_eq s i hi
  have bd := N.at0_lt s i
  rw [← ea] at h bd k
  have b1 := bd.1
  have b2 := bd.2
  have Hc : Hid (N.chC s i = 0 ∧ N.chN s i = 0) := hc
  clear hc bd ea
  rcases k with k | k
  all_goals
    go_enter Tryz.func81, Tryz.ntmps81
    go_wp2
    go_ret2
    exact ⟨ret_tw (by rw [Hc.out.1]; rfl) (by rw [Hc.out.2]; rfl), rfl⟩

set_option maxRecDepth 100000 in
set_option maxHeartbeats 1000000 in
theorem char_2short (s : ByteArray) (i : Nat) (w : World) (hs : s.size ≤ 32) (hi : i < s.size) (h : 192 ≤ N.at0 s i) (k : N.at0 s i < 224) (q : s.size < i + 2) :
    Calls Tryz.prog 81 #[.string s, .int .i64 i] w fun e w' => e = .returned (.tuple #[.int .i64 (N.chC s i), .int .i64 (N.chN s i)]) ∧ w' = w := by
  have hc := N.ch2no s i h k (.inl q)
  have ea := N.at0_eq s i hi
  rw [← ea] at h k
  have Hc : Hid (N.chC s i = 0 ∧ N.chN s i = 0) := hc
  clear hc ea
  go_enter Tryz.func81, Tryz.ntmps81
  go_wp2
  go_ret2
  exact ⟨ret_tw (by rw [Hc.out.1]; rfl) (by rw [Hc.out.2]; rfl), rfl⟩

set_option maxRecDepth 100000 in
set_option maxHeartbeats 2000000 in
theorem char_2 (s : ByteArray) (i : Nat) (w : World) (hs : s.size ≤ 32) (hi : i < s.size) (h : 192 ≤ N.at0 s i) (k : N.at0 s i < 224) (q : i + 2 ≤ s.size) :
    Calls Tryz.prog 81 #[.string s, .int .i64 i] w fun e w' => e = .returned (.tuple #[.int .i64 (N.chC s i), .int .i64 (N.chN s i)]) ∧ w' = w := by
  have p1 : i + 1 < s.size := by omega
  have hno := N.ch2no s i h k
  have hyes := N.ch2 s i h k q
  rw [← N.at0_eq s i hi] at h k
  rw [← N.at0_eq s i hi, ← N.at0_eq s (i + 1) p1] at hno hyes
  have z1 := N.at0_lt s (i + 1)
  rw [← N.at0_eq s (i + 1) p1] at z1
  have y1 := z1.2
  clear z1
  have Hno := hide' hno
  have Hyes := hide' hyes
  clear hno hyes
  have g1 : decide ((i : Int) < 0) = false := by simp
  have g2 : decide ((s.size : Int) - i < 1) = false := by simp; omega
  have g3 : decide ((s.size : Int) - i < 2) = false := by simp; omega
  go_enter Tryz.func81, Tryz.ntmps81
  go_wp2
  go_loop [9, 11] (fun v k => (k = .int .i64 1 ∧ v = .int .i64 (((s[i]'hi).toNat : Int) - 192)) ∨ (128 ≤ ((s[i + 1]'p1).toNat : Int) ∧ ((s[i + 1]'p1).toNat : Int) ≤ 191 ∧ k = .int .i64 2 ∧ v = .int .i64 (64 * (((s[i]'hi).toNat : Int) - 192) + ((s[i + 1]'p1).toNat : Int) - 128))) (fun _ k => 2 - (intOf k).toNat)
  case atStart => exact .inl ⟨rfl, rfl⟩
  case round =>
    rcases hrel with ⟨rfl, rfl⟩ | ⟨l1, m1, rfl, rfl⟩
    · by_cases c1 : ((s[i + 1]'p1).toNat : Int) < 128
      · go_wp2
        go_ret2
        have hx := Hno.out (.inr (.inl c1))
        exact ⟨ret_tw (by rw [hx.1]; rfl) (by rw [hx.2]; rfl), rfl⟩
      · by_cases c2 : 191 < ((s[i + 1]'p1).toNat : Int)
        · go_wp2
          go_ret2
          have hx := Hno.out (.inr (.inr (.inl c2)))
          exact ⟨ret_tw (by rw [hx.1]; rfl) (by rw [hx.2]; rfl), rfl⟩
        · go_wp2
          go_round
          case rel => exact .inr <| ⟨by omega, by omega, rfl, rfl⟩
          case measure => simp [intOf]
    · go_wp2
      all_goals
        go_ret2
        first
          | (have hx := Hno.out (by omega); exact ⟨ret_tw (by rw [hx.1]; rfl) (by rw [hx.2]; rfl), rfl⟩)
          | (have hx := Hyes.out (by omega) (by omega) (by omega); exact ⟨ret_tw (by rw [hx.1]; rfl) (by rw [hx.2]; rfl), rfl⟩)

set_option maxRecDepth 100000 in
set_option maxHeartbeats 1000000 in
theorem char_3short (s : ByteArray) (i : Nat) (w : World) (hs : s.size ≤ 32) (hi : i < s.size) (h : 224 ≤ N.at0 s i) (k : N.at0 s i < 240) (q : s.size < i + 3) :
    Calls Tryz.prog 81 #[.string s, .int .i64 i] w fun e w' => e = .returned (.tuple #[.int .i64 (N.chC s i), .int .i64 (N.chN s i)]) ∧ w' = w := by
  have hc := N.ch3no s i h k (.inl q)
  have ea := N.at0_eq s i hi
  rw [← ea] at h k
  have Hc : Hid (N.chC s i = 0 ∧ N.chN s i = 0) := hc
  clear hc ea
  go_enter Tryz.func81, Tryz.ntmps81
  go_wp2
  go_ret2
  exact ⟨ret_tw (by rw [Hc.out.1]; rfl) (by rw [Hc.out.2]; rfl), rfl⟩

set_option maxRecDepth 100000 in
set_option maxHeartbeats 2000000 in
theorem char_3 (s : ByteArray) (i : Nat) (w : World) (hs : s.size ≤ 32) (hi : i < s.size) (h : 224 ≤ N.at0 s i) (k : N.at0 s i < 240) (q : i + 3 ≤ s.size) :
    Calls Tryz.prog 81 #[.string s, .int .i64 i] w fun e w' => e = .returned (.tuple #[.int .i64 (N.chC s i), .int .i64 (N.chN s i)]) ∧ w' = w := by
  have p1 : i + 1 < s.size := by omega
  have p2 : i + 2 < s.size := by omega
  have hno := N.ch3no s i h k
  have hyes := N.ch3 s i h k q
  rw [← N.at0_eq s i hi] at h k
  rw [← N.at0_eq s i hi, ← N.at0_eq s (i + 1) p1, ← N.at0_eq s (i + 2) p2] at hno hyes
  have z1 := N.at0_lt s (i + 1)
  rw [← N.at0_eq s (i + 1) p1] at z1
  have y1 := z1.2
  clear z1
  have z2 := N.at0_lt s (i + 2)
  rw [← N.at0_eq s (i + 2) p2] at z2
  have y2 := z2.2
  clear z2
  have Hno := hide' hno
  have Hyes := hide' hyes
  clear hno hyes
  have g1 : decide ((i : Int) < 0) = false := by simp
  have g2 : decide ((s.size : Int) - i < 1) = false := by simp; omega
  have g3 : decide ((s.size : Int) - i < 3) = false := by simp; omega
  go_enter Tryz.func81, Tryz.ntmps81
  go_wp2
  go_loop [9, 11] (fun v k => (k = .int .i64 1 ∧ v = .int .i64 (((s[i]'hi).toNat : Int) - 224)) ∨ (128 ≤ ((s[i + 1]'p1).toNat : Int) ∧ ((s[i + 1]'p1).toNat : Int) ≤ 191 ∧ k = .int .i64 2 ∧ v = .int .i64 (64 * (((s[i]'hi).toNat : Int) - 224) + ((s[i + 1]'p1).toNat : Int) - 128)) ∨ (128 ≤ ((s[i + 1]'p1).toNat : Int) ∧ ((s[i + 1]'p1).toNat : Int) ≤ 191 ∧ 128 ≤ ((s[i + 2]'p2).toNat : Int) ∧ ((s[i + 2]'p2).toNat : Int) ≤ 191 ∧ k = .int .i64 3 ∧ v = .int .i64 (64 * (64 * (((s[i]'hi).toNat : Int) - 224) + ((s[i + 1]'p1).toNat : Int) - 128) + ((s[i + 2]'p2).toNat : Int) - 128))) (fun _ k => 3 - (intOf k).toNat)
  case atStart => exact .inl ⟨rfl, rfl⟩
  case round =>
    rcases hrel with ⟨rfl, rfl⟩ | ⟨l1, m1, rfl, rfl⟩ | ⟨l1, m1, l2, m2, rfl, rfl⟩
    · by_cases c1 : ((s[i + 1]'p1).toNat : Int) < 128
      · go_wp2
        go_ret2
        have hx := Hno.out (.inr (.inl c1))
        exact ⟨ret_tw (by rw [hx.1]; rfl) (by rw [hx.2]; rfl), rfl⟩
      · by_cases c2 : 191 < ((s[i + 1]'p1).toNat : Int)
        · go_wp2
          go_ret2
          have hx := Hno.out (.inr (.inr (.inl c2)))
          exact ⟨ret_tw (by rw [hx.1]; rfl) (by rw [hx.2]; rfl), rfl⟩
        · go_wp2
          go_round
          case rel => exact .inr <| .inl ⟨by omega, by omega, rfl, rfl⟩
          case measure => simp [intOf]
    · by_cases c1 : ((s[i + 2]'p2).toNat : Int) < 128
      · go_wp2
        go_ret2
        have hx := Hno.out (.inr (.inr (.inr (.inl c1))))
        exact ⟨ret_tw (by rw [hx.1]; rfl) (by rw [hx.2]; rfl), rfl⟩
      · by_cases c2 : 191 < ((s[i + 2]'p2).toNat : Int)
        · go_wp2
          go_ret2
          have hx := Hno.out (.inr (.inr (.inr (.inr (.inl c2)))))
          exact ⟨ret_tw (by rw [hx.1]; rfl) (by rw [hx.2]; rfl), rfl⟩
        · go_wp2
          go_round
          case rel => exact .inr <| .inr <| ⟨l1, m1, by omega, by omega, rfl, rfl⟩
          case measure => simp [intOf]
    · go_wp2
      all_goals
        go_ret2
        first
          | (have hx := Hno.out (by omega); exact ⟨ret_tw (by rw [hx.1]; rfl) (by rw [hx.2]; rfl), rfl⟩)
          | (have hx := Hyes.out (by omega) (by omega) (by omega) (by omega) (by omega) (by omega); exact ⟨ret_tw (by rw [hx.1]; rfl) (by rw [hx.2]; rfl), rfl⟩)

/-! CharF -/


set_option maxRecDepth 100000 in
set_option maxHeartbeats 1000000 in
theorem char_4short (s : ByteArray) (i : Nat) (w : World) (hs : s.size ≤ 32) (hi : i < s.size) (h : 240 ≤ N.at0 s i) (k : N.at0 s i < 248) (q : s.size < i + 4) :
    Calls Tryz.prog 81 #[.string s, .int .i64 i] w fun e w' => e = .returned (.tuple #[.int .i64 (N.chC s i), .int .i64 (N.chN s i)]) ∧ w' = w := by
  have hc := N.ch4no s i h k (.inl q)
  have ea := N.at0_eq s i hi
  rw [← ea] at h k
  have Hc : Hid (N.chC s i = 0 ∧ N.chN s i = 0) := hc
  clear hc ea
  go_enter Tryz.func81, Tryz.ntmps81
  go_wp2
  go_ret2
  exact ⟨ret_tw (by rw [Hc.out.1]; rfl) (by rw [Hc.out.2]; rfl), rfl⟩

set_option maxRecDepth 100000 in
set_option maxHeartbeats 2000000 in
theorem char_4 (s : ByteArray) (i : Nat) (w : World) (hs : s.size ≤ 32) (hi : i < s.size) (h : 240 ≤ N.at0 s i) (k : N.at0 s i < 248) (q : i + 4 ≤ s.size) :
    Calls Tryz.prog 81 #[.string s, .int .i64 i] w fun e w' => e = .returned (.tuple #[.int .i64 (N.chC s i), .int .i64 (N.chN s i)]) ∧ w' = w := by
  have p1 : i + 1 < s.size := by omega
  have p2 : i + 2 < s.size := by omega
  have p3 : i + 3 < s.size := by omega
  have hno := N.ch4no s i h k
  have hyes := N.ch4 s i h k q
  rw [← N.at0_eq s i hi] at h k
  rw [← N.at0_eq s i hi, ← N.at0_eq s (i + 1) p1, ← N.at0_eq s (i + 2) p2, ← N.at0_eq s (i + 3) p3] at hno hyes
  have z1 := N.at0_lt s (i + 1)
  rw [← N.at0_eq s (i + 1) p1] at z1
  have y1 := z1.2
  clear z1
  have z2 := N.at0_lt s (i + 2)
  rw [← N.at0_eq s (i + 2) p2] at z2
  have y2 := z2.2
  clear z2
  have z3 := N.at0_lt s (i + 3)
  rw [← N.at0_eq s (i + 3) p3] at z3
  have y3 := z3.2
  clear z3
  have Hno := hide' hno
  have Hyes := hide' hyes
  clear hno hyes
  have g1 : decide ((i : Int) < 0) = false := by simp
  have g2 : decide ((s.size : Int) - i < 1) = false := by simp; omega
  have g3 : decide ((s.size : Int) - i < 4) = false := by simp; omega
  have g4 : decide (((s[i]'hi).toNat : Int) ≤ 247) = true := by simp; omega
  go_enter Tryz.func81, Tryz.ntmps81
  go_wp2
  go_loop [9, 11] (fun v k => (k = .int .i64 1 ∧ v = .int .i64 (((s[i]'hi).toNat : Int) - 240)) ∨ (128 ≤ ((s[i + 1]'p1).toNat : Int) ∧ ((s[i + 1]'p1).toNat : Int) ≤ 191 ∧ k = .int .i64 2 ∧ v = .int .i64 (64 * (((s[i]'hi).toNat : Int) - 240) + ((s[i + 1]'p1).toNat : Int) - 128)) ∨ (128 ≤ ((s[i + 1]'p1).toNat : Int) ∧ ((s[i + 1]'p1).toNat : Int) ≤ 191 ∧ 128 ≤ ((s[i + 2]'p2).toNat : Int) ∧ ((s[i + 2]'p2).toNat : Int) ≤ 191 ∧ k = .int .i64 3 ∧ v = .int .i64 (64 * (64 * (((s[i]'hi).toNat : Int) - 240) + ((s[i + 1]'p1).toNat : Int) - 128) + ((s[i + 2]'p2).toNat : Int) - 128)) ∨ (128 ≤ ((s[i + 1]'p1).toNat : Int) ∧ ((s[i + 1]'p1).toNat : Int) ≤ 191 ∧ 128 ≤ ((s[i + 2]'p2).toNat : Int) ∧ ((s[i + 2]'p2).toNat : Int) ≤ 191 ∧ 128 ≤ ((s[i + 3]'p3).toNat : Int) ∧ ((s[i + 3]'p3).toNat : Int) ≤ 191 ∧ k = .int .i64 4 ∧ v = .int .i64 (64 * (64 * (64 * (((s[i]'hi).toNat : Int) - 240) + ((s[i + 1]'p1).toNat : Int) - 128) + ((s[i + 2]'p2).toNat : Int) - 128) + ((s[i + 3]'p3).toNat : Int) - 128))) (fun _ k => 4 - (intOf k).toNat)
  case atStart => exact .inl ⟨rfl, rfl⟩
  case round =>
    rcases hrel with ⟨rfl, rfl⟩ | ⟨l1, m1, rfl, rfl⟩ | ⟨l1, m1, l2, m2, rfl, rfl⟩ | ⟨l1, m1, l2, m2, l3, m3, rfl, rfl⟩
    · by_cases c1 : ((s[i + 1]'p1).toNat : Int) < 128
      · go_wp2
        go_ret2
        have hx := Hno.out (.inr (.inl c1))
        exact ⟨ret_tw (by rw [hx.1]; rfl) (by rw [hx.2]; rfl), rfl⟩
      · by_cases c2 : 191 < ((s[i + 1]'p1).toNat : Int)
        · go_wp2
          go_ret2
          have hx := Hno.out (.inr (.inr (.inl c2)))
          exact ⟨ret_tw (by rw [hx.1]; rfl) (by rw [hx.2]; rfl), rfl⟩
        · go_wp2
          go_round
          case rel => exact .inr <| .inl ⟨by omega, by omega, rfl, rfl⟩
          case measure => simp [intOf]
    · by_cases c1 : ((s[i + 2]'p2).toNat : Int) < 128
      · go_wp2
        go_ret2
        have hx := Hno.out (.inr (.inr (.inr (.inl c1))))
        exact ⟨ret_tw (by rw [hx.1]; rfl) (by rw [hx.2]; rfl), rfl⟩
      · by_cases c2 : 191 < ((s[i + 2]'p2).toNat : Int)
        · go_wp2
          go_ret2
          have hx := Hno.out (.inr (.inr (.inr (.inr (.inl c2)))))
          exact ⟨ret_tw (by rw [hx.1]; rfl) (by rw [hx.2]; rfl), rfl⟩
        · go_wp2
          go_round
          case rel => exact .inr <| .inr <| .inl ⟨l1, m1, by omega, by omega, rfl, rfl⟩
          case measure => simp [intOf]
    · by_cases c1 : ((s[i + 3]'p3).toNat : Int) < 128
      · go_wp2
        go_ret2
        have hx := Hno.out (.inr (.inr (.inr (.inr (.inr (.inl c1))))))
        exact ⟨ret_tw (by rw [hx.1]; rfl) (by rw [hx.2]; rfl), rfl⟩
      · by_cases c2 : 191 < ((s[i + 3]'p3).toNat : Int)
        · go_wp2
          go_ret2
          have hx := Hno.out (.inr (.inr (.inr (.inr (.inr (.inr (.inl c2)))))))
          exact ⟨ret_tw (by rw [hx.1]; rfl) (by rw [hx.2]; rfl), rfl⟩
        · go_wp2
          go_round
          case rel => exact .inr <| .inr <| .inr <| ⟨l1, m1, l2, m2, by omega, by omega, rfl, rfl⟩
          case measure => simp [intOf]
    · go_wp2
      all_goals
        go_ret2
        first
          | (have hx := Hno.out (by omega); exact ⟨ret_tw (by rw [hx.1]; rfl) (by rw [hx.2]; rfl), rfl⟩)
          | (have hx := Hyes.out (by omega) (by omega) (by omega) (by omega) (by omega) (by omega) (by omega) (by omega); exact ⟨ret_tw (by rw [hx.1]; rfl) (by rw [hx.2]; rfl), rfl⟩)

/-! RefV -/


theorem char_any (s : ByteArray) (i : Nat) (w : World) (hs : s.size ≤ 32) (hi : i < s.size) :
    Calls Tryz.prog 81 #[.string s, .int .i64 i] w fun e w' => e = .returned (.tuple #[.int .i64 (N.chC s i), .int .i64 (N.chN s i)]) ∧ w' = w := by
  by_cases h1 : N.at0 s i < 128
  · exact char_1 s i w hs hi h1
  by_cases h2 : N.at0 s i < 192
  · exact char_x s i w hs hi (by omega) (.inl h2)
  by_cases h3 : N.at0 s i < 224
  · by_cases q : i + 2 ≤ s.size
    · exact char_2 s i w hs hi (by omega) h3 q
    · exact char_2short s i w hs hi (by omega) h3 (by omega)
  by_cases h4 : N.at0 s i < 240
  · by_cases q : i + 3 ≤ s.size
    · exact char_3 s i w hs hi (by omega) h4 q
    · exact char_3short s i w hs hi (by omega) h4 (by omega)
  by_cases h5 : N.at0 s i < 248
  · by_cases q : i + 4 ≤ s.size
    · exact char_4 s i w hs hi (by omega) h5 q
    · exact char_4short s i w hs hi (by omega) h5 (by omega)
  exact char_x s i w hs hi (by omega) (.inr (by omega))

namespace N
theorem wd_le (s : ByteArray) (i : Nat) : wd s i ≤ 4 := by
  unfold wd Utf8.decode
  simp only
  repeat' split
  all_goals omega
theorem bad_ctl (s : ByteArray) (i : Nat) (h : rn s i < 32 ∨ (127 ≤ rn s i ∧ rn s i ≤ 159)) : bad s i = true := by
  have hk : ctl (rn s i) = true := by simp [ctl]; omega
  simp [bad, hk]
theorem bad_not (s : ByteArray) (i : Nat) (hn : non s i = false) (h : 32 ≤ rn s i ∧ (rn s i < 127 ∨ 159 < rn s i)) : bad s i = false := by
  have hk : ctl (rn s i) = false := by simp [ctl]; omega
  simp [bad, hk, hn]
end N

theorem char_none (s : ByteArray) (i : Nat) (w : World) (hs : s.size ≤ 32) (hi : i < s.size) (h : N.non s i = true) :
    Calls Tryz.prog 81 #[.string s, .int .i64 i] w fun e w' => e = .returned (.tuple #[.int .i64 0, .int .i64 0]) ∧ w' = w := by
  have c := char_any s i w hs hi
  unfold N.chC N.chN at c
  rw [h] at c
  exact c
theorem char_some (s : ByteArray) (i : Nat) (w : World) (hs : s.size ≤ 32) (hi : i < s.size) (h : N.non s i = false) :
    Calls Tryz.prog 81 #[.string s, .int .i64 i] w fun e w' => e = .returned (.tuple #[.int .i64 (N.rn s i), .int .i64 (N.wd s i : Nat)]) ∧ w' = w := by
  have c := char_any s i w hs hi
  unfold N.chC N.chN at c
  rw [h] at c
  exact c

set_option maxRecDepth 100000 in
set_option maxHeartbeats 1000000 in
theorem refValid_any (s : ByteArray) (w : World) (hs : s.size ≤ maxLen) :
    Calls Tryz.prog 64 #[.string s] w fun e w' => e = .returned (.bool (N.valid s)) ∧ w' = w := by
  unfold maxLen at hs
  by_cases h1 : s.size < 1
  · go_enter Tryz.func64, Tryz.ntmps64
    go_wp2
    go_ret
    exact ⟨ret_bool (by simp [N.valid]; omega), rfl⟩
  by_cases h2 : 32 < s.size
  · go_enter Tryz.func64, Tryz.ntmps64
    go_wp2
    go_ret
    exact ⟨ret_bool (by simp [N.valid]; omega), rfl⟩
  have Hv : Hid (N.valid s = N.scan s s.size 0) := (show N.valid s = N.scan s s.size 0 by simp [N.valid]; omega)
  have h32 : s.size ≤ 32 := by omega
  have g1 : decide ((s.size : Int) < 1) = false := by simp; omega
  have g2 : decide ((32 : Int) < (s.size : Int)) = false := by simp; omega
  go_enter Tryz.func64, Tryz.ntmps64
  go_wp2
  go_loop [3] (fun a => ∃ (pos f : Nat), a = .int .i64 pos ∧ pos ≤ 64 ∧ N.scan s f pos = N.scan s s.size 0 ∧ s.size ≤ pos + f) (fun a => s.size - (intOf a).toNat)
  case atStart => exact ⟨0, s.size, rfl, by omega, rfl, by omega⟩
  case round =>
    obtain ⟨pos, f, rfl, hp64, hc, hf⟩ := hrel
    have Hc : Hid (N.scan s f pos = N.scan s s.size 0) := hc
    clear hc
    by_cases hp : pos < s.size
    · have hw1 := N.wd_pos s pos
      have hw2 := N.wd_le s pos
      have hr := N.rn_le s pos
      have hr1 := hr.1
      have hr2 := hr.2
      clear hr
      cases hn : N.non s pos with
      | true =>
        go_wp2_with (go_at_call 81; refine (char_none s pos _ h32 hp hn).mono ?_; rintro e w' ⟨rfl, rfl⟩)
        go_ret
        exact ⟨ret_bool (by rw [Hv.out, ← Hc.out, N.scan_no s f pos hp hf (by simp [N.bad, hn])]), rfl⟩
      | false =>
        have hz : ((N.wd s pos : Int) == 0) = false := by simp; omega
        go_wp2_with (go_at_call 81; refine (char_some s pos _ h32 hp hn).mono ?_; rintro e w' ⟨rfl, rfl⟩)
        · go_ret
          exact ⟨ret_bool (by rw [Hv.out, ← Hc.out, N.scan_no s f pos hp hf (N.bad_ctl s pos (by omega))]), rfl⟩
        · obtain ⟨g, hg1, hg2⟩ := N.scan_go s f pos hp hf (N.bad_not s pos hn (by omega))
          exact ⟨⟨pos + N.wd s pos, g, by go_num, by omega, by rw [← hg1]; exact Hc.out, hg2⟩, by simp [intOf]; omega⟩
        · obtain ⟨g, hg1, hg2⟩ := N.scan_go s f pos hp hf (N.bad_not s pos hn (by omega))
          exact ⟨⟨pos + N.wd s pos, g, by go_num, by omega, by rw [← hg1]; exact Hc.out, hg2⟩, by simp [intOf]; omega⟩
        · go_ret
          exact ⟨ret_bool (by rw [Hv.out, ← Hc.out, N.scan_no s f pos hp hf (N.bad_ctl s pos (by omega))]), rfl⟩
    · go_wp2
      go_ret
      exact ⟨ret_bool (by rw [Hv.out, ← Hc.out, N.scan_end s f pos hp]), rfl⟩

end Go.Proofs.YtnlopepbcnegbaaGreatDoor
