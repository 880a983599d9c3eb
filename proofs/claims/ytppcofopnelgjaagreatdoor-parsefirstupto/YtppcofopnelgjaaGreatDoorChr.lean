import GoSem.Core.Utf8
import Derived.Lib.DecodeN
import Derived.Lib.Strings
set_option linter.unusedVariables false
set_option linter.unusedSimpArgs false
namespace Go.Proofs.YtppcofopnelgjaaGreatDoor
namespace L

/-- the character at a place, and its bytes, as ranging over the text has them -/
def rn (s : ByteArray) (i : Nat) : Int := ((Utf8.decode s i).1 : Nat)
def wd (s : ByteArray) (i : Nat) : Nat := (Utf8.decode s i).2
def bt (s : ByteArray) (i : Nat) : Nat := (s.get! i).toNat
theorem bt_lt (s : ByteArray) (i : Nat) : bt s i < 256 := (s.get! i).toNat_lt
theorem dec_at (s : ByteArray) (i : Nat) : Utf8.decode s i = Lib.decodeN (s.size - i) (bt s i) (bt s (i + 1)) (bt s (i + 2)) (bt s (i + 3)) := Lib.decode_at s i
theorem rn_eq (s : ByteArray) (i : Nat) : rn s i = ((Lib.decodeN (s.size - i) (bt s i) (bt s (i + 1)) (bt s (i + 2)) (bt s (i + 3))).1 : Nat) := by unfold rn; rw [dec_at]
theorem wd_eq (s : ByteArray) (i : Nat) : wd s i = (Lib.decodeN (s.size - i) (bt s i) (bt s (i + 1)) (bt s (i + 2)) (bt s (i + 3))).2 := by unfold wd; rw [dec_at]

theorem wd_pos (s : ByteArray) (i : Nat) : 1 ≤ wd s i := by
  rw [wd_eq]
  unfold Lib.decodeN
  repeat' split
  all_goals simp
theorem wd_in (s : ByteArray) (i : Nat) (h : i < s.size) : i + wd s i ≤ s.size := by
  rw [wd_eq]
  unfold Lib.decodeN
  repeat' split
  all_goals simp only
  all_goals omega
theorem rn_ge (s : ByteArray) (i : Nat) (h : 128 ≤ bt s i) : 128 ≤ rn s i := by
  rw [rn_eq]
  have := bt_lt s i
  generalize bt s i = b0 at *
  generalize bt s (i + 1) = b1 at *
  generalize bt s (i + 2) = b2 at *
  generalize bt s (i + 3) = b3 at *
  unfold Lib.decodeN
  repeat' split
  all_goals simp only
  all_goals omega
theorem rn_lt (s : ByteArray) (i : Nat) (h : bt s i < 128) : rn s i = bt s i ∧ wd s i = 1 := by
  rw [rn_eq, wd_eq]
  unfold Lib.decodeN
  rw [if_pos h]
  exact ⟨rfl, rfl⟩
theorem rn_bd (s : ByteArray) (i : Nat) : 0 ≤ rn s i ∧ rn s i ≤ 1114111 := by
  rw [rn_eq]
  have h0 := bt_lt s i
  have h1 := bt_lt s (i + 1)
  have h2 := bt_lt s (i + 2)
  have h3 := bt_lt s (i + 3)
  generalize bt s i = b0 at *
  generalize bt s (i + 1) = b1 at *
  generalize bt s (i + 2) = b2 at *
  generalize bt s (i + 3) = b3 at *
  unfold Lib.decodeN
  repeat' split
  all_goals simp only
  all_goals omega
theorem rn_ten (s : ByteArray) (i : Nat) : rn s i = 10 ↔ bt s i = 10 := by
  by_cases h : bt s i < 128
  · rw [(rn_lt s i h).1]; omega
  · have := rn_ge s i (by omega); omega

/-- of a letter's first byte: the bounds of its second, and its bytes -/
def lo (b : Nat) : Nat := if b < 128 then 0 else if 194 ≤ b ∧ b ≤ 223 then 128 else if b = 224 then 160 else if b = 237 then 128 else if 225 ≤ b ∧ b ≤ 239 then 128 else if b = 240 then 144 else if 241 ≤ b ∧ b ≤ 243 then 128 else if b = 244 then 128 else 0
def hi (b : Nat) : Nat := if b < 128 then 0 else if 194 ≤ b ∧ b ≤ 223 then 191 else if b = 224 then 191 else if b = 237 then 159 else if 225 ≤ b ∧ b ≤ 239 then 191 else if b = 240 then 191 else if 241 ≤ b ∧ b ≤ 243 then 191 else if b = 244 then 143 else 0
def nn (b : Nat) : Nat := if b < 128 then 1 else if 194 ≤ b ∧ b ≤ 223 then 2 else if b = 224 then 3 else if b = 237 then 3 else if 225 ≤ b ∧ b ≤ 239 then 3 else if b = 240 then 4 else if 241 ≤ b ∧ b ≤ 243 then 4 else if b = 244 then 4 else 0
theorem nn_le (b : Nat) : nn b ≤ 4 := by
  unfold nn; repeat' split
  all_goals omega
def wth (s : ByteArray) (k l h : Nat) : Bool := decide (k < s.size) && (decide (l ≤ bt s k) && decide (bt s k ≤ h))

theorem dec_slow (s : ByteArray) (i : Nat) (hi' : i < s.size) (h1 : 1 < nn (bt s i)) :
    Utf8.decode s i = Lib.slowN (s.size - i) (bt s i) (bt s (i + 1)) (bt s (i + 2)) (bt s (i + 3)) (nn (bt s i)) (lo (bt s i)) (hi (bt s i)) := by
  rw [dec_at]
  have k1 := bt_lt s (i + 1)
  have k2 := bt_lt s (i + 2)
  have k3 := bt_lt s (i + 3)
  have hn : 1 ≤ s.size - i := by omega
  generalize s.size - i = n at *
  generalize bt s i = b0 at *
  generalize bt s (i + 1) = b1 at *
  generalize bt s (i + 2) = b2 at *
  generalize bt s (i + 3) = b3 at *
  unfold nn lo hi at *
  by_cases c1 : b0 < 128
  · simp [c1] at h1
  by_cases c2 : 194 ≤ b0 ∧ b0 ≤ 223
  · simp only [c1, c2, if_true, if_false, and_self]; exact (Lib.slow_C2 n b0 b1 b2 b3 hn k1 k2 k3 (by omega)).symm
  by_cases c3 : b0 = 224
  · simp only [c1, c2, c3, if_true, if_false]; simp; exact (Lib.slow_E0 n 224 b1 b2 b3 hn k1 k2 k3 rfl).symm
  by_cases c4 : b0 = 237
  · simp only [c1, c2, c3, c4, if_true, if_false]; simp; exact (Lib.slow_ED n 237 b1 b2 b3 hn k1 k2 k3 rfl).symm
  by_cases c5 : 225 ≤ b0 ∧ b0 ≤ 239
  · simp only [c1, c2, c3, c4, c5, if_true, if_false, and_self]; exact (Lib.slow_E1 n b0 b1 b2 b3 hn k1 k2 k3 (by omega)).symm
  by_cases c6 : b0 = 240
  · simp only [c1, c2, c3, c4, c5, c6, if_true, if_false]; simp; exact (Lib.slow_F0 n 240 b1 b2 b3 hn k1 k2 k3 rfl).symm
  by_cases c7 : 241 ≤ b0 ∧ b0 ≤ 243
  · simp only [c1, c2, c3, c4, c5, c6, c7, if_true, if_false, and_self]; exact (Lib.slow_F1 n b0 b1 b2 b3 hn k1 k2 k3 (by omega)).symm
  by_cases c8 : b0 = 244
  · simp only [c1, c2, c3, c4, c5, c6, c7, c8, if_true, if_false]; simp; exact (Lib.slow_F4 n 244 b1 b2 b3 hn k1 k2 k3 rfl).symm
  · simp [c1, c2, c3, c4, c5, c6, c7, c8] at h1

/-- it is no first byte -/
theorem wd_zero (s : ByteArray) (i : Nat) (h : nn (bt s i) = 0) : wd s i = 1 := by
  rw [wd_eq]
  have h0 := bt_lt s i
  have h1 := bt_lt s (i + 1)
  have h2 := bt_lt s (i + 2)
  have h3 := bt_lt s (i + 3)
  generalize bt s i = b0 at *
  generalize bt s (i + 1) = b1 at *
  generalize bt s (i + 2) = b2 at *
  generalize bt s (i + 3) = b3 at *
  have hb : (128 ≤ b0 ∧ b0 < 194) ∨ 244 < b0 := by
    unfold nn at h
    by_cases c1 : b0 < 128
    · simp [c1] at h
    by_cases c2 : 194 ≤ b0 ∧ b0 ≤ 223
    · simp [c1, c2] at h
    by_cases c3 : b0 = 224
    · subst c3; simp at h
    by_cases c4 : b0 = 237
    · subst c4; simp at h
    by_cases c5 : 225 ≤ b0 ∧ b0 ≤ 239
    · simp [c1, c2, c3, c4, c5] at h
    by_cases c6 : b0 = 240
    · subst c6; simp at h
    by_cases c7 : 241 ≤ b0 ∧ b0 ≤ 243
    · simp [c1, c2, c3, c4, c5, c6, c7] at h
    by_cases c8 : b0 = 244
    · subst c8; simp at h
    omega
  clear h
  unfold Lib.decodeN
  repeat' split
  all_goals simp only
  all_goals omega
def lowAt (b j : Nat) : Nat := if j = 1 then lo b else 128
def highAt (b j : Nat) : Nat := if j = 1 then hi b else 191
/-- one of its bytes is amiss -/
theorem wd_bad (s : ByteArray) (i j : Nat) (hi' : i < s.size) (h1 : 1 ≤ j) (hj : j < nn (bt s i)) (h : wth s (i + j) (lowAt (bt s i) j) (highAt (bt s i) j) = false) : wd s i = 1 := by
  unfold wd
  rw [dec_slow s i hi' (by omega)]
  have hn := nn_le (bt s i)
  unfold Lib.slowN
  generalize nn (bt s i) = m at *
  unfold wth lowAt highAt at h
  generalize lo (bt s i) = l at *
  generalize hi (bt s i) = g at *
  obtain rfl | rfl | rfl : j = 1 ∨ j = 2 ∨ j = 3 := by omega
  all_goals
    simp only [Bool.and_eq_false_iff, decide_eq_false_iff_not] at h
    simp at h
    repeat' split
    all_goals first | rfl | (exfalso; omega)
/-- none is -/
theorem wd_all (s : ByteArray) (i : Nat) (hi' : i < s.size) (h0 : nn (bt s i) ≠ 0) (h : ∀ j, 1 ≤ j → j < nn (bt s i) → wth s (i + j) (lowAt (bt s i) j) (highAt (bt s i) j) = true) : wd s i = nn (bt s i) := by
  by_cases h1 : nn (bt s i) = 1
  · rw [h1, wd_eq]
    have hb : bt s i < 128 := by
      unfold nn at h1
      generalize bt s i = b0 at *
      by_cases c1 : b0 < 128
      · exact c1
      · exfalso
        simp only [c1, if_false] at h1
        repeat' split at h1
        all_goals omega
    unfold Lib.decodeN
    rw [if_pos hb]
  unfold wd
  rw [dec_slow s i hi' (by omega)]
  have hn := nn_le (bt s i)
  have a1 := h 1 (by omega) (by omega)
  have a2 := h 2 (by omega)
  have a3 := h 3 (by omega)
  unfold Lib.slowN
  generalize nn (bt s i) = m at *
  unfold wth lowAt highAt at a1 a2 a3
  generalize lo (bt s i) = l at *
  generalize hi (bt s i) = g at *
  simp only [Bool.and_eq_true, decide_eq_true_eq] at a1 a2 a3
  simp at a1 a2 a3
  obtain rfl | rfl | rfl : m = 2 ∨ m = 3 ∨ m = 4 := by omega
  · simp at a2 a3
    rw [if_neg (by omega), if_neg (by omega), if_pos (by omega)]
  · simp at a2 a3
    rw [if_neg (by omega), if_neg (by omega), if_neg (by omega), if_neg (by omega), if_pos (by omega)]
  · simp at a2 a3
    rw [if_neg (by omega), if_neg (by omega), if_neg (by omega), if_neg (by omega), if_neg (by omega), if_neg (by omega)]

/-- the place behind a character -/
def nxt (p : Int × Int) (r : Int) : Int × Int := if r = 10 then (p.1 + 1, 1) else (p.1, p.2 + 1)
/-- the place of a byte, from a character on that stands at a place -/
def find (s : ByteArray) (a : Nat) : Nat → Nat → Int × Int → Int × Int
  | 0, _, n => n
  | f + 1, p, n => if p < s.size then (if a < p + wd s p then n else find s a f (p + wd s p) (nxt n (rn s p))) else n
theorem find_end (s : ByteArray) (a f p : Nat) (n : Int × Int) (h : ¬ p < s.size) : find s a f p n = n := by
  cases f with
  | zero => rfl
  | succ f => simp [find, h]
theorem find_here (s : ByteArray) (a f p : Nat) (n : Int × Int) (hf : s.size ≤ p + f) (h : p < s.size) (ha : a < p + wd s p) : find s a f p n = n := by
  cases f with
  | zero => omega
  | succ f => simp [find, h, ha]
theorem find_on (s : ByteArray) (a f p : Nat) (n : Int × Int) (hf : s.size ≤ p + f) (h : p < s.size) (ha : ¬ a < p + wd s p) :
    ∃ g, find s a f p n = find s a g (p + wd s p) (nxt n (rn s p)) ∧ s.size ≤ p + wd s p + g := by
  cases f with
  | zero => omega
  | succ f =>
    have := wd_pos s p
    exact ⟨f, by simp [find, h, ha], by omega⟩
end L
end Go.Proofs.YtppcofopnelgjaaGreatDoor
