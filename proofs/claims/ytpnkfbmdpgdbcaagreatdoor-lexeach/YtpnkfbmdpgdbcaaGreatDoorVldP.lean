import GoSem.Core.Utf8
import Derived.Lib.DecodeN
import Derived.Lib.Strings
set_option linter.unusedVariables false
set_option linter.unusedSimpArgs false
namespace Go.Proofs.YtpnkfbmdpgdbcaaGreatDoor
namespace N

def ctl (r : Int) : Bool := decide (r < 32) || (decide (127 ≤ r) && decide (r ≤ 159))
def beg (c : Int) : Bool := (decide (97 ≤ c) && decide (c ≤ 122)) || (decide (65 ≤ c) && decide (c ≤ 90)) || c == 95
def fol (c : Int) : Bool := beg c || (decide (48 ≤ c) && decide (c ≤ 57)) || c == 45

/-- the character at a place, and its bytes, as ranging over the text has them -/
def rn (s : ByteArray) (i : Nat) : Int := ((Utf8.decode s i).1 : Nat)
def wd (s : ByteArray) (i : Nat) : Nat := (Utf8.decode s i).2
/-- no character stands there -/
def non (s : ByteArray) (i : Nat) : Bool := rn s i == 65533 && wd s i == 1
/-- what a name may not have stands there -/
def bad (s : ByteArray) (i : Nat) : Bool := ctl (rn s i) || non s i
def scan (s : ByteArray) : Nat → Nat → Bool
  | 0, _ => true
  | f + 1, i => if i < s.size then (!bad s i) && scan s f (i + wd s i) else true
def valid (s : ByteArray) : Bool := decide (1 ≤ s.size) && decide (s.size ≤ 32) && scan s s.size 0

theorem scan_end (s : ByteArray) (f i : Nat) (h : ¬ i < s.size) : scan s f i = true := by
  cases f with
  | zero => rfl
  | succ f => simp [scan, h]

theorem wd_pos (s : ByteArray) (i : Nat) : 1 ≤ wd s i := by
  unfold wd Utf8.decode
  simp only
  repeat' split
  all_goals omega

theorem rn_le (s : ByteArray) (i : Nat) : 0 ≤ rn s i ∧ rn s i ≤ 1114111 := by
  unfold rn
  rw [Lib.decode_at]
  have h0 := (s.get! i).toNat_lt
  have h1 := (s.get! (i + 1)).toNat_lt
  have h2 := (s.get! (i + 2)).toNat_lt
  have h3 := (s.get! (i + 3)).toNat_lt
  generalize (s.get! i).toNat = b0 at *
  generalize (s.get! (i + 1)).toNat = b1 at *
  generalize (s.get! (i + 2)).toNat = b2 at *
  generalize (s.get! (i + 3)).toNat = b3 at *
  unfold Lib.decodeN
  repeat' split
  all_goals simp only
  all_goals omega

theorem scan_no (s : ByteArray) (f i : Nat) (h : i < s.size) (hf : s.size ≤ i + f) (hb : bad s i = true) : scan s f i = false := by
  cases f with
  | zero => omega
  | succ f => simp [scan, h, hb]

theorem scan_go (s : ByteArray) (f i : Nat) (h : i < s.size) (hf : s.size ≤ i + f) (hb : bad s i = false) : ∃ g, scan s f i = scan s g (i + wd s i) ∧ s.size ≤ i + wd s i + g := by
  cases f with
  | zero => omega
  | succ f => exact ⟨f, by simp [scan, h, hb], by have := wd_pos s i; omega⟩

theorem decN_pre (n b0 b1 b2 b3 : Nat) (h0 : b0 < 256) (h1 : b1 < 256) (h2 : b2 < 256) (h3 : b3 < 256) (hr : (Lib.decodeN n b0 b1 b2 b3).1 = 65533) :
    (Lib.decodeN n b0 b1 b2 b3).2 = 1 ↔ ¬ (3 ≤ n ∧ b0 = 239 ∧ b1 = 191 ∧ b2 = 189) := by
  revert hr
  unfold Lib.decodeN
  repeat' split
  all_goals simp only
  all_goals intro hr
  all_goals constructor
  all_goals first | omega | (intros; trivial)

theorem get_list (s : ByteArray) (i : Nat) (h : i < s.size) : s.data.toList[i]? = some (s.get! i) := by
  have h' : i < s.data.size := h
  show s.data.toList[i]? = some s.data[i]!
  rw [getElem!_pos s.data i h']
  simp

theorem pre_iff (s : ByteArray) (i : Nat) (h : i < s.size) :
    Lib.hasPrefix (s.data.toList.drop i) [239, 191, 189] = true ↔ (3 ≤ s.size - i ∧ (s.get! i).toNat = 239 ∧ (s.get! (i + 1)).toNat = 191 ∧ (s.get! (i + 2)).toNat = 189) := by
  have hl : s.data.toList.length = s.size := Array.length_toList
  have e0 := get_list s i h
  have u : ∀ (a : UInt8) (n : Nat), n < 256 → ((UInt8.ofNat n == a) = true ↔ a.toNat = n) := by
    intro a n hn
    rw [beq_iff_eq]
    constructor
    · intro e; rw [← e]; simp; omega
    · intro e; rw [← e]; simp
  by_cases h1 : i + 1 < s.size
  · have e1 := get_list s (i + 1) h1
    by_cases h2 : i + 2 < s.size
    · have e2 := get_list s (i + 2) h2
      have hd : s.data.toList.drop i = s.get! i :: s.get! (i + 1) :: s.get! (i + 2) :: s.data.toList.drop (i + 3) := by
        rw [List.drop_eq_getElem_cons (by omega), List.drop_eq_getElem_cons (by omega), List.drop_eq_getElem_cons (by omega)]
        rw [List.getElem?_eq_getElem (by omega)] at e0 e1 e2
        simp only [Option.some.injEq] at e0 e1 e2
        rw [e0, e1, e2]
      rw [hd]
      simp only [Lib.hasPrefix, List.isPrefixOf, Bool.and_eq_true, Bool.and_true]
      have a0 := u (s.get! i) 239 (by omega)
      have a1 := u (s.get! (i + 1)) 191 (by omega)
      have a2 := u (s.get! (i + 2)) 189 (by omega)
      have a0' : ((239 : UInt8) == s.get! i) = true ↔ (s.get! i).toNat = 239 := a0
      have a1' : ((191 : UInt8) == s.get! (i + 1)) = true ↔ (s.get! (i + 1)).toNat = 191 := a1
      have a2' : ((189 : UInt8) == s.get! (i + 2)) = true ↔ (s.get! (i + 2)).toNat = 189 := a2
      rw [a0', a1', a2']
      constructor
      · rintro ⟨x, y, z⟩; exact ⟨by omega, x, y, z⟩
      · rintro ⟨_, x, y, z⟩; exact ⟨x, y, z⟩
    · constructor
      · intro hp
        have := List.IsPrefix.length_le (List.isPrefixOf_iff_prefix.1 hp)
        simp at this
        omega
      · omega
  · constructor
    · intro hp
      have := List.IsPrefix.length_le (List.isPrefixOf_iff_prefix.1 hp)
      simp at this
      omega
    · omega

/-- U+FFFD written out, against a byte that belongs to none -/
theorem non_pre (s : ByteArray) (i : Nat) (h : i < s.size) (hr : rn s i = 65533) : non s i = !Lib.hasPrefix (s.data.toList.drop i) [239, 191, 189] := by
  have hp := pre_iff s i h
  unfold rn at hr
  have hd := decN_pre (s.size - i) (s.get! i).toNat (s.get! (i + 1)).toNat (s.get! (i + 2)).toNat (s.get! (i + 3)).toNat (s.get! i).toNat_lt (s.get! (i + 1)).toNat_lt (s.get! (i + 2)).toNat_lt (s.get! (i + 3)).toNat_lt
  rw [← Lib.decode_at] at hd
  have hd' := hd (by omega)
  rw [← hp] at hd'
  unfold non rn wd
  rw [Bool.eq_iff_iff]
  simp only [Bool.and_eq_true, beq_iff_eq, Bool.not_eq_true', Bool.not_eq_true] at hd' ⊢
  rw [hd']
  constructor
  · rintro ⟨_, x⟩; exact x
  · intro x; exact ⟨hr, x⟩
theorem non_rn (s : ByteArray) (i : Nat) (hr : rn s i ≠ 65533) : non s i = false := by
  simp [non, hr]

/-! ### keywords -/
end N
end Go.Proofs.YtpnkfbmdpgdbcaaGreatDoor
