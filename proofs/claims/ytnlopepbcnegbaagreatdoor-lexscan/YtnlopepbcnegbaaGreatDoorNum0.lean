import Derived.Test.YtnlopepbcnegbaaGreatDoorRes
import Derived.Lib.Bytes2
set_option linter.unusedVariables false
set_option linter.unusedSimpArgs false
namespace Go.Proofs.YtnlopepbcnegbaaGreatDoor
open Go.RowKit
namespace L
/-- are all characters of a text digits? -/
def allD (s : ByteArray) : Nat → Nat → Bool
  | 0, _ => true
  | f + 1, i => if i < s.size then isDigit (rn s i) && allD s f (i + wd s i) else true
theorem allD_end (s : ByteArray) (f i : Nat) (h : ¬ i < s.size) : allD s f i = true := by
  cases f with
  | zero => rfl
  | succ f => simp [allD, h]
theorem allD_no (s : ByteArray) (f i : Nat) (h : i < s.size) (hf : s.size ≤ i + f) (hd : isDigit (rn s i) = false) : allD s f i = false := by
  cases f with
  | zero => omega
  | succ f => simp [allD, h, hd]
theorem allD_on (s : ByteArray) (f i : Nat) (h : i < s.size) (hf : s.size ≤ i + f) (hd : isDigit (rn s i) = true) : ∃ g, allD s f i = allD s g (i + wd s i) ∧ s.size ≤ i + wd s i + g := by
  cases f with
  | zero => omega
  | succ f =>
    have := wd_pos s i
    exact ⟨f, by simp [allD, h, hd], by omega⟩
def isNum (t : ByteArray) : Bool := (t.toList == [48]) || ((t.toList == [49]) || (Lib.hasPrefix t.data.toList [48, 46] && (decide (3 ≤ t.size) && (decide (t.size ≤ 11) && allD (t.extract 2 t.size) (t.size - 2) 0))))
end L
set_option maxRecDepth 100000 in
theorem cutPrefix_any (s p : ByteArray) (w : World) (hp : Lib.hasPrefix s.data.toList p.data.toList = true → p.size ≤ s.size) (hs : s.size ≤ 65536) :
    Calls Tryz.prog 84 #[.string s, .string p] w fun e w' => e = .returned (.tuple #[.string (if Lib.hasPrefix s.data.toList p.data.toList then s.extract p.size s.size else s), .bool (Lib.hasPrefix s.data.toList p.data.toList)]) ∧ w' = w := by
  have inner : Calls Tryz.prog 89 #[.string s, .string p] w fun e w' => e = .returned (.tuple #[.string (if Lib.hasPrefix s.data.toList p.data.toList then s.extract p.size s.size else s), .bool (Lib.hasPrefix s.data.toList p.data.toList)]) ∧ w' = w := by
    have HP := hide' fun w => sh.stringslite_HasPrefix s p w
    cases h : Lib.hasPrefix s.data.toList p.data.toList
    · rw [h] at HP
      go_enter Tryz.func89, Tryz.ntmps89
      go_wp2_with (go_at_call 66; refine (HP.out _).mono ?_; rintro e w1 ⟨rfl, hw1⟩; replace hw1 := hw1.symm; subst hw1)
      go_ret2
      exact ⟨rfl, rfl⟩
    · rw [h] at HP
      have hps := hp h
      clear hp
      go_enter Tryz.func89, Tryz.ntmps89
      go_wp2_with (go_at_call 66; refine (HP.out _).mono ?_; rintro e w1 ⟨rfl, hw1⟩; replace hw1 := hw1.symm; subst hw1)
      go_ret2
      exact ⟨rfl, rfl⟩
  have HI := hide' inner
  clear inner
  generalize (if Lib.hasPrefix s.data.toList p.data.toList then s.extract p.size s.size else s) = r at *
  generalize Lib.hasPrefix s.data.toList p.data.toList = q at *
  go_enter Tryz.func84, Tryz.ntmps84
  go_wp2_with (go_at_call 89; refine HI.out.mono ?_; rintro e w1 ⟨rfl, hw1⟩; replace hw1 := hw1.symm; subst hw1)
  go_ret2
  exact ⟨rfl, rfl⟩
theorem hasPrefix_size (s : ByteArray) (l : List UInt8) (h : Lib.hasPrefix s.data.toList l = true) : l.length ≤ s.size := by
  have := Lib.hasPrefix_le h
  rw [Array.length_toList] at this; exact this

end Go.Proofs.YtnlopepbcnegbaaGreatDoor
