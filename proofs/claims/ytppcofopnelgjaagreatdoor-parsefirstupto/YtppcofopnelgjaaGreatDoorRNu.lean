import Derived.Test.YtppcofopnelgjaaGreatDoorRNs
import Derived.Test.YtppcofopnelgjaaGreatDoorGrV
set_option linter.unusedVariables false
set_option linter.unusedSimpArgs false
namespace Go.Proofs.YtppcofopnelgjaaGreatDoor
open Go.RowKit
set_option maxRecDepth 100000 in
theorem rCut_any (s p : ByteArray) (w : World) (hp : Lib.hasPrefix s.data.toList p.data.toList = true → p.size ≤ s.size) :
    Calls Tryz.prog 138 #[.string s, .string p] w fun e w' => e = .returned (.tuple #[.string (if Lib.hasPrefix s.data.toList p.data.toList then s.extract p.size s.size else s), .bool (Lib.hasPrefix s.data.toList p.data.toList)]) ∧ w' = w := by
  have inner : Calls Tryz.prog 145 #[.string s, .string p] w fun e w' => e = .returned (.tuple #[.string (if Lib.hasPrefix s.data.toList p.data.toList then s.extract p.size s.size else s), .bool (Lib.hasPrefix s.data.toList p.data.toList)]) ∧ w' = w := by
    have HP := hide' fun w => sh.stringslite_HasPrefix s p w
    cases h : Lib.hasPrefix s.data.toList p.data.toList
    · rw [h] at HP
      go_enter Tryz.func145, Tryz.ntmps145
      go_wp2_with (go_at_call 153; refine (HP.out _).mono ?_; rintro e w1 ⟨rfl, hw1⟩; replace hw1 := hw1.symm; subst hw1)
      go_ret2
      exact ⟨rfl, rfl⟩
    · rw [h] at HP
      have hps := hp h
      clear hp
      go_enter Tryz.func145, Tryz.ntmps145
      go_wp2_with (go_at_call 153; refine (HP.out _).mono ?_; rintro e w1 ⟨rfl, hw1⟩; replace hw1 := hw1.symm; subst hw1)
      go_ret2
      exact ⟨rfl, rfl⟩
  have HI := hide' inner
  clear inner
  generalize (if Lib.hasPrefix s.data.toList p.data.toList then s.extract p.size s.size else s) = r at *
  generalize Lib.hasPrefix s.data.toList p.data.toList = q at *
  go_enter Tryz.func138, Tryz.ntmps138
  go_wp2_with (go_at_call 145; refine HI.out.mono ?_; rintro e w1 ⟨rfl, hw1⟩; replace hw1 := hw1.symm; subst hw1)
  go_ret2
  exact ⟨rfl, rfl⟩
set_option maxRecDepth 100000 in
set_option maxHeartbeats 4000000 in
theorem rNumber_any (t : ByteArray) (w : World) (ht : t.size ≤ 1099511627776) :
    Calls Tryz.prog 132 #[.string t] w fun e w' => e = .returned (.bool (L.isNum t)) ∧ Below w.heap.size w w' := by
  cases q0 : (t.toList == [48])
  case true =>
    go_enter Tryz.func132, Tryz.ntmps132
    go_wp2
    go_ret
    exact ⟨ret_bool (by simp [L.isNum, q0]), Below.refl _ _⟩
  cases q1 : (t.toList == [49])
  case true =>
    go_enter Tryz.func132, Tryz.ntmps132
    go_wp2
    go_ret
    exact ⟨ret_bool (by simp [L.isNum, q1]), Below.refl _ _⟩
  have hcp := rCut_any t ⟨#[48, 46]⟩
  have hpl := hasPrefix_size t [48, 46]
  cases hp : Lib.hasPrefix t.data.toList [48, 46]
  · have hn : Hid (L.isNum t = false) := (by show L.isNum t = false; simp only [L.isNum, hp, q0, q1, Bool.false_or, Bool.false_and])
    have HC := hide' fun w => hcp w (fun h => by have := hpl h; exact this)
    rw [show (⟨#[48, 46]⟩ : ByteArray).data.toList = [48, 46] from rfl, hp] at HC
    clear hcp hpl
    rw [hn.out]
    go_enter Tryz.func132, Tryz.ntmps132
    go_wp2_with (go_at_call 138; refine (HC.out _).mono ?_; rintro e w1 ⟨rfl, hw1⟩; replace hw1 := hw1.symm; subst hw1)
    go_ret
    exact ⟨rfl, Below.refl _ _⟩
  · have hsz := hpl hp
    have HC := hide' fun w => hcp w (fun h => by have := hpl h; exact this)
    rw [show (⟨#[48, 46]⟩ : ByteArray).data.toList = [48, 46] from rfl, hp] at HC
    simp only [if_true] at HC
    clear hcp hpl
    obtain ⟨d, hd⟩ : ∃ d, t.extract (⟨#[48, 46]⟩ : ByteArray).size t.size = d := ⟨_, rfl⟩
    have hds : d.size = t.size - 2 := by rw [← hd, ByteArray.size_extract]; show min t.size t.size - 2 = t.size - 2; omega
    rw [hd] at HC
    have hnum : Hid (L.isNum t = (decide (1 ≤ d.size) && (decide (d.size ≤ 9) && L.allD d d.size 0))) := by
      show _ = _
      simp only [L.isNum, hp, q0, q1, Bool.false_or, Bool.true_and]
      have e1 : decide (3 ≤ t.size) = decide (1 ≤ d.size) := by simp; omega
      have e2 : decide (t.size ≤ 11) = decide (d.size ≤ 9) := by simp; omega
      rw [e1, e2, ← hds, ← hd]; rfl
    clear hd hds hsz hp
    by_cases g1 : d.size < 1
    · have e1 : decide ((d.size : Int) < 1) = true := by simp; omega
      go_enter Tryz.func132, Tryz.ntmps132
      go_wp2_with (go_at_call 138; refine (HC.out _).mono ?_; rintro e w1 ⟨rfl, hw1⟩; replace hw1 := hw1.symm; subst hw1)
      go_ret
      exact ⟨ret_bool (by rw [hnum.out]; simp only [Bool.false_eq, Bool.and_eq_false_iff, decide_eq_false_iff_not]; omega), Below.refl _ _⟩
    have e1 : decide ((d.size : Int) < 1) = false := by simp; omega
    by_cases g2 : 9 < d.size
    · have e2 : decide ((9 : Int) < (d.size : Int)) = true := by simp; omega
      go_enter Tryz.func132, Tryz.ntmps132
      go_wp2_with (go_at_call 138; refine (HC.out _).mono ?_; rintro e w1 ⟨rfl, hw1⟩; replace hw1 := hw1.symm; subst hw1)
      go_ret
      exact ⟨ret_bool (by rw [hnum.out]; simp only [Bool.false_eq, Bool.and_eq_false_iff, decide_eq_false_iff_not]; omega), Below.refl _ _⟩
    have e2 : decide ((9 : Int) < (d.size : Int)) = false := by simp; omega
    have hnum2 : Hid (L.isNum t = L.allD d d.size 0) := by
      show _ = _
      have k1 : decide (1 ≤ d.size) = true := by simp; omega
      have k2 : decide (d.size ≤ 9) = true := by simp; omega
      rw [hnum.out, k1, k2]; rfl
    clear hnum
    go_enter Tryz.func132, Tryz.ntmps132
    go_wp2_with (go_at_call 138; refine (HC.out _).mono ?_; rintro e w1 ⟨rfl, hw1⟩; replace hw1 := hw1.symm; subst hw1)
    go_loopw [] (fun w' => ∃ (pos f : Nat), w' = w.iter d pos ∧ L.allD d f pos = L.allD d d.size 0 ∧ d.size ≤ pos + f) (fun w' => d.size - w'.iterPos w.heap.size)
    case atStart => exact ⟨0, d.size, rfl, rfl, by omega⟩
    case round =>
      obtain ⟨pos, f, rfl, hc, hf⟩ := hrel
      have Hc := hide' hc
      clear hc
      by_cases hp : pos < d.size
      · have hnx : ∀ ty, (Instr.next (.pointer (some ⟨w.heap.size, 0, none⟩)) true ty).run Tryz.prog (w.iter d pos) = .ok (.tuple #[.bool true, .int .i64 pos, .int .i32 (L.rn d pos)]) (w.iter d (pos + L.wd d pos)) := fun ty => run_next_any w d pos ty hp
        by_cases q1 : L.rn d pos < 48
        · have hdg : Hid (L.isDigit (L.rn d pos) = false) := by show _ = _; simp [L.isDigit]; omega
          go_wp2
          go_ret
          exact ⟨ret_bool (by rw [hnum2.out, ← Hc.out, L.allD_no d f pos hp hf hdg.out]), (Below.refl _ _).alloc (Nat.le_refl _) _⟩
        · by_cases q2 : 57 < L.rn d pos
          · have hdg : Hid (L.isDigit (L.rn d pos) = false) := by show _ = _; simp [L.isDigit]; omega
            go_wp2
            go_ret
            exact ⟨ret_bool (by rw [hnum2.out, ← Hc.out, L.allD_no d f pos hp hf hdg.out]), (Below.refl _ _).alloc (Nat.le_refl _) _⟩
          · have hdg : Hid (L.isDigit (L.rn d pos) = true) := by show _ = _; simp [L.isDigit]; omega
            go_wp2
            obtain ⟨g, k1, k2⟩ := L.allD_on d f pos hp hf hdg.out
            have hw := L.wd_pos d pos
            exact ⟨⟨_, g, rfl, by rw [← k1]; exact Hc.out, k2⟩, by simp; omega⟩
      · have hnx : ∀ ty, (Instr.next (.pointer (some ⟨w.heap.size, 0, none⟩)) true ty).run Tryz.prog (w.iter d pos) = _ := fun ty => run_next_end w d pos ty hp
        go_wp2
        go_ret
        exact ⟨ret_bool (by rw [hnum2.out, ← Hc.out, L.allD_end d f pos hp]), (Below.refl _ _).alloc (Nat.le_refl _) _⟩
end Go.Proofs.YtppcofopnelgjaaGreatDoor
