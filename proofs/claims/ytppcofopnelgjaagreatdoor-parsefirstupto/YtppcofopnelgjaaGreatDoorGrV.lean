import Derived.Test.YtppcofopnelgjaaGreatDoorGrSa
import Derived.Lib.Bytes2
set_option linter.unusedVariables false
set_option linter.unusedSimpArgs false
namespace Go.Proofs.YtppcofopnelgjaaGreatDoor
open Go.RowKit
namespace L
/-- are all characters of a text digits? -/
def allD (s : ByteArray) : Nat → Nat → Bool
  | 0, _ => true
  | f + 1, i => if i < s.size then isDigit (rn s i) && allD s f (i + wd s i) else true
theorem allD_end (s : ByteArray) (f i : Nat) (h : ¬ i < s.size) : allD s f i = true := by
  cases f with
  | zero => rfl
  | succ f => simp [allD, h]
theorem allD_no (s : ByteArray) (f i : Nat) (h : i < s.size) (hf : s.size ≤ i + f) (hd : isDigit (rn s i) = false) : allD s f i = false := by
  cases f with
  | zero => omega
  | succ f => simp [allD, h, hd]
theorem allD_on (s : ByteArray) (f i : Nat) (h : i < s.size) (hf : s.size ≤ i + f) (hd : isDigit (rn s i) = true) : ∃ g, allD s f i = allD s g (i + wd s i) ∧ s.size ≤ i + wd s i + g := by
  cases f with
  | zero => omega
  | succ f =>
    have := wd_pos s i
    exact ⟨f, by simp [allD, h, hd], by omega⟩
def isNum (t : ByteArray) : Bool := (t.toList == [48]) || ((t.toList == [49]) || (Lib.hasPrefix t.data.toList [48, 46] && (decide (3 ≤ t.size) && (decide (t.size ≤ 11) && allD (t.extract 2 t.size) (t.size - 2) 0))))
end L
set_option maxRecDepth 100000 in
theorem cutPrefix_any (s p : ByteArray) (w : World) (hp : Lib.hasPrefix s.data.toList p.data.toList = true → p.size ≤ s.size) (hs : s.size ≤ 65536) :
    Calls Tryz.prog 138 #[.string s, .string p] w fun e w' => e = .returned (.tuple #[.string (if Lib.hasPrefix s.data.toList p.data.toList then s.extract p.size s.size else s), .bool (Lib.hasPrefix s.data.toList p.data.toList)]) ∧ w' = w := by
  have inner : Calls Tryz.prog 145 #[.string s, .string p] w fun e w' => e = .returned (.tuple #[.string (if Lib.hasPrefix s.data.toList p.data.toList then s.extract p.size s.size else s), .bool (Lib.hasPrefix s.data.toList p.data.toList)]) ∧ w' = w := by
    have HP := hide' fun w => sh.stringslite_HasPrefix s p w
    cases h : Lib.hasPrefix s.data.toList p.data.toList
    · rw [h] at HP
      go_enter Tryz.func145, Tryz.ntmps145
      go_wp2_with (go_at_call 153; refine (HP.out _).mono ?_; rintro e w1 ⟨rfl, hw1⟩; replace hw1 := hw1.symm; subst hw1)
      go_ret2
      exact ⟨rfl, rfl⟩
    · rw [h] at HP
      have hps := hp h
      clear hp
      go_enter Tryz.func145, Tryz.ntmps145
      go_wp2_with (go_at_call 153; refine (HP.out _).mono ?_; rintro e w1 ⟨rfl, hw1⟩; replace hw1 := hw1.symm; subst hw1)
      go_ret2
      exact ⟨rfl, rfl⟩
  have HI := hide' inner
  clear inner
  generalize (if Lib.hasPrefix s.data.toList p.data.toList then s.extract p.size s.size else s) = r at *
  generalize Lib.hasPrefix s.data.toList p.data.toList = q at *
  go_enter Tryz.func138, Tryz.ntmps138
  go_wp2_with (go_at_call 145; refine HI.out.mono ?_; rintro e w1 ⟨rfl, hw1⟩; replace hw1 := hw1.symm; subst hw1)
  go_ret2
  exact ⟨rfl, rfl⟩
theorem hasPrefix_size (s : ByteArray) (l : List UInt8) (h : Lib.hasPrefix s.data.toList l = true) : l.length ≤ s.size := by
  have := Lib.hasPrefix_le h
  rw [Array.length_toList] at this; exact this

end Go.Proofs.YtppcofopnelgjaaGreatDoor
set_option linter.unusedVariables false
set_option linter.unusedSimpArgs false
namespace Go.Proofs.YtppcofopnelgjaaGreatDoor
open Go.RowKit
set_option maxRecDepth 100000 in
set_option maxHeartbeats 1000000 in
theorem isNumber_any (t : ByteArray) (w : World) (ht : t.size ≤ 65536) :
    Calls Tryz.prog 124 #[.string t] w fun e w' => e = .returned (.bool (L.isNum t)) ∧ Below w.heap.size w w' := by
  cases q0 : (t.toList == [48])
  case true =>
    go_enter Tryz.func124, Tryz.ntmps124
    go_wp2
    go_ret
    exact ⟨ret_bool (by simp [L.isNum, q0]), Below.refl _ _⟩
  cases q1 : (t.toList == [49])
  case true =>
    go_enter Tryz.func124, Tryz.ntmps124
    go_wp2
    go_ret
    exact ⟨ret_bool (by simp [L.isNum, q1]), Below.refl _ _⟩
  have hcp := cutPrefix_any t ⟨#[48, 46]⟩
  have hpl := hasPrefix_size t [48, 46]
  cases hp : Lib.hasPrefix t.data.toList [48, 46]
  · have hn : Hid (L.isNum t = false) := (by show L.isNum t = false; simp only [L.isNum, hp, q0, q1, Bool.false_or, Bool.false_and])
    have HC := hide' fun w => hcp w (fun h => by have := hpl h; exact this) ht
    rw [show (⟨#[48, 46]⟩ : ByteArray).data.toList = [48, 46] from rfl, hp] at HC
    clear hcp hpl
    rw [hn.out]
    go_enter Tryz.func124, Tryz.ntmps124
    go_wp2_with (go_at_call 138; refine (HC.out _).mono ?_; rintro e w1 ⟨rfl, hw1⟩; replace hw1 := hw1.symm; subst hw1)
    go_ret
    exact ⟨rfl, Below.refl _ _⟩
  · have hsz := hpl hp
    have HC := hide' fun w => hcp w (fun h => by have := hpl h; exact this) ht
    rw [show (⟨#[48, 46]⟩ : ByteArray).data.toList = [48, 46] from rfl, hp] at HC
    simp only [if_true] at HC
    clear hcp hpl
    obtain ⟨d, hd⟩ : ∃ d, t.extract (⟨#[48, 46]⟩ : ByteArray).size t.size = d := ⟨_, rfl⟩
    have hds : d.size = t.size - 2 := by rw [← hd, ByteArray.size_extract]; show min t.size t.size - 2 = t.size - 2; omega
    rw [hd] at HC
    have hnum : Hid (L.isNum t = (decide (1 ≤ d.size) && (decide (d.size ≤ 9) && L.allD d d.size 0))) := by
      show _ = _
      simp only [L.isNum, hp, q0, q1, Bool.false_or, Bool.true_and]
      have e1 : decide (3 ≤ t.size) = decide (1 ≤ d.size) := by simp; omega
      have e2 : decide (t.size ≤ 11) = decide (d.size ≤ 9) := by simp; omega
      rw [e1, e2, ← hds, ← hd]; rfl
    have hdl : d.size ≤ 65536 := by omega
    clear hd hds hsz hp
    by_cases g1 : d.size < 1
    · have e1 : decide ((d.size : Int) < 1) = true := by simp; omega
      go_enter Tryz.func124, Tryz.ntmps124
      go_wp2_with (go_at_call 138; refine (HC.out _).mono ?_; rintro e w1 ⟨rfl, hw1⟩; replace hw1 := hw1.symm; subst hw1)
      go_ret
      exact ⟨ret_bool (by rw [hnum.out]; simp only [Bool.false_eq, Bool.and_eq_false_iff, decide_eq_false_iff_not]; omega), Below.refl _ _⟩
    have e1 : decide ((d.size : Int) < 1) = false := by simp; omega
    by_cases g2 : 9 < d.size
    · have e2 : decide ((9 : Int) < (d.size : Int)) = true := by simp; omega
      go_enter Tryz.func124, Tryz.ntmps124
      go_wp2_with (go_at_call 138; refine (HC.out _).mono ?_; rintro e w1 ⟨rfl, hw1⟩; replace hw1 := hw1.symm; subst hw1)
      go_ret
      exact ⟨ret_bool (by rw [hnum.out]; simp only [Bool.false_eq, Bool.and_eq_false_iff, decide_eq_false_iff_not]; omega), Below.refl _ _⟩
    have e2 : decide ((9 : Int) < (d.size : Int)) = false := by simp; omega
    have hnum2 : Hid (L.isNum t = L.allD d d.size 0) := by
      show _ = _
      have k1 : decide (1 ≤ d.size) = true := by simp; omega
      have k2 : decide (d.size ≤ 9) = true := by simp; omega
      rw [hnum.out, k1, k2]; rfl
    clear hnum
    go_enter Tryz.func124, Tryz.ntmps124
    go_wp2_with (go_at_call 138; refine (HC.out _).mono ?_; rintro e w1 ⟨rfl, hw1⟩; replace hw1 := hw1.symm; subst hw1)
    go_loopw [] (fun w' => ∃ (pos f : Nat), w' = w.iter d pos ∧ L.allD d f pos = L.allD d d.size 0 ∧ d.size ≤ pos + f) (fun w' => d.size - w'.iterPos w.heap.size)
    case atStart => exact ⟨0, d.size, rfl, rfl, by omega⟩
    case round =>
      obtain ⟨pos, f, rfl, hc, hf⟩ := hrel
      have Hc := hide' hc
      clear hc
      by_cases hp : pos < d.size
      · have hnx : ∀ ty, (Instr.next (.pointer (some ⟨w.heap.size, 0, none⟩)) true ty).run Tryz.prog (w.iter d pos) = .ok (.tuple #[.bool true, .int .i64 pos, .int .i32 (L.rn d pos)]) (w.iter d (pos + L.wd d pos)) := fun ty => run_next_any w d pos ty hp
        cases hdg : L.isDigit (L.rn d pos)
        · go_wp2_with (go_at_call 98; refine (isDigit_any _ _).mono ?_; rintro e w1 ⟨rfl, hw1⟩; replace hw1 := hw1.symm; subst hw1)
          go_ret
          exact ⟨ret_bool (by rw [hnum2.out, ← Hc.out, L.allD_no d f pos hp hf hdg]), (Below.refl _ _).alloc (Nat.le_refl _) _⟩
        · go_wp2_with (go_at_call 98; refine (isDigit_any _ _).mono ?_; rintro e w1 ⟨rfl, hw1⟩; replace hw1 := hw1.symm; subst hw1)
          obtain ⟨g, k1, k2⟩ := L.allD_on d f pos hp hf hdg
          have hw := L.wd_pos d pos
          exact ⟨⟨_, g, rfl, by rw [← k1]; exact Hc.out, k2⟩, by simp; omega⟩
      · have hnx : ∀ ty, (Instr.next (.pointer (some ⟨w.heap.size, 0, none⟩)) true ty).run Tryz.prog (w.iter d pos) = _ := fun ty => run_next_end w d pos ty hp
        go_wp2
        go_ret
        exact ⟨ret_bool (by rw [hnum2.out, ← Hc.out, L.allD_end d f pos hp]), (Below.refl _ _).alloc (Nat.le_refl _) _⟩
end Go.Proofs.YtppcofopnelgjaaGreatDoor
set_option linter.unusedVariables false
set_option linter.unusedSimpArgs false
namespace Go.Proofs.YtppcofopnelgjaaGreatDoor
open Go.RowKit
/-- the number at a place -/
def Tx.numberR (T : Tx) (i : Nat) : Res := if L.isNum (T.txt i (T.skp L.inRun i)) then .tok 3 (T.txt i (T.skp L.inRun i)) (T.g i).l (T.g i).c (T.skp L.inRun i) else .flt 23 (T.g i).l (T.g i).c (T.txt i (T.skp L.inRun i))
set_option maxRecDepth 100000 in
set_option maxHeartbeats 1000000 in
theorem number_any {T : Tx} {b i : Nat} {w : World} (h : Scn T b i w) (hi : i < T.N) :
    Calls Tryz.prog 99 #[.pointer (some ⟨b, 0, none⟩)] w fun e w' => ∃ v, e = .returned v ∧ (T.numberR i).Is T b w v w' ∧ Turn (fun k => k = b) w w' := by
  have c4 := h.c4
  have c5 := h.c5
  have lt := h.lt
  have hold := h.old (Nat.le_refl w.heap.size)
  have H := hide' (And.intro h hold)
  obtain ⟨t, ht⟩ : ∃ t, T.txt i (T.skp L.inRun i) = t := ⟨_, rfl⟩
  obtain ⟨j, hj⟩ : ∃ j, T.skp L.inRun i = j := ⟨_, rfl⟩
  have HP := hide' fun (w : World) (h : Scn T b i w) => takeWhile_any h tells_run
  unfold Tx.numberR
  have hts : t.size ≤ 65536 := by rw [← ht]; unfold Tx.txt; rw [ByteArray.size_extract]; have := h.ok.small; omega
  rw [ht, hj]
  rw [ht, hj] at HP
  clear h ht hj hold
  cases hsz : L.isNum t
  · rw [if_neg (by simp)]
    go_enter Tryz.func99, Tryz.ntmps99
    go_wp2_with (first | (go_at_call 121; refine (HP.out _ ((H.out.1.below ((Below.refl _ _).alloc (Nat.le_refl _) _)).below ((Below.refl _ _).alloc (Nat.le_refl _) _))).mono ?_; rintro e w1 ⟨rfl, s1, t1⟩; obtain ⟨h0, h1, hz1, t1'⟩ := after2 lt t1; obtain ⟨p0, p1⟩ := two_cells h1; have K := hide' (And.intro (Tk.of_cells h0) (And.intro s1 t1')); clear h0 h1 s1 t1 t1') | (go_at_call 124; refine (isNumber_any _ _ hts).mono ?_; rintro e w1' ⟨rfl, b1'⟩; have p0' := below_keeps b1' p0; have p1' := below_keeps b1' p1; have hz1' := b1'.size; have K' := hide' (And.intro (K.out.1.below b1') (And.intro (K.out.2.1.below b1') (K.out.2.2.trans (turn_below b1')))); clear p0 p1) | (go_at_call 103; refine (pfault_any _ _ _ _ _).mono ?_; rintro e w2 ⟨fb, rfl, hfb, hflt, b2⟩; have k2 := K'.out.1.below b2; have kc0 := k2.c0; have kc1 := k2.c1; have kc2 := k2.c2; have kc3 := k2.c3; obtain ⟨z0, z1, z2, z3⟩ := k2.frz; have K2 := hide' (And.intro k2 (And.intro hflt b2)); clear k2 hflt b2))
    refine bodyPost_ret_by (results4 rfl _ _ w.heap.size _ _ _ _ rfl (K2.out.1.set _ _ _ _)) rfl ?_
    exact ⟨_, rfl, Res.fin_flt (Nat.le_refl _) (by omega) (by omega) K2.out.2.1 _ _ _ _, (K'.out.2.2.trans (turn_below K2.out.2.2)).set4 (Nat.le_refl _) _ _ _ _⟩
  · rw [if_pos rfl]
    go_enter Tryz.func99, Tryz.ntmps99
    go_wp2_with (first | (go_at_call 121; refine (HP.out _ ((H.out.1.below ((Below.refl _ _).alloc (Nat.le_refl _) _)).below ((Below.refl _ _).alloc (Nat.le_refl _) _))).mono ?_; rintro e w1 ⟨rfl, s1, t1⟩; obtain ⟨h0, h1, hz1, t1'⟩ := after2 lt t1; obtain ⟨p0, p1⟩ := two_cells h1; have K := hide' (And.intro (Tk.of_cells h0) (And.intro s1 t1')); clear h0 h1 s1 t1 t1') | (go_at_call 124; refine (isNumber_any _ _ hts).mono ?_; rintro e w1' ⟨rfl, b1'⟩; have p0' := below_keeps b1' p0; have p1' := below_keeps b1' p1; have hz1' := b1'.size; have K' := hide' (And.intro (K.out.1.below b1') (And.intro (K.out.2.1.below b1') (K.out.2.2.trans (turn_below b1')))); clear p0 p1) | (go_at_call 95; refine (ptoken_any _ _ _ _ _).mono ?_; rintro e w2 ⟨rfl, b2⟩; have k2 := K'.out.1.below b2; have kc0 := k2.c0; have kc1 := k2.c1; have kc2 := k2.c2; have kc3 := k2.c3; obtain ⟨z0, z1, z2, z3⟩ := k2.frz; have K2 := hide' (And.intro k2 b2); clear k2 b2; unfold tokV))
    refine bodyPost_ret_by (results4 rfl _ _ w.heap.size _ _ _ _ rfl (K2.out.1.set _ _ _ _)) rfl ?_
    refine ⟨_, rfl, ⟨rfl, ?_⟩, (K'.out.2.2.trans (turn_below K2.out.2)).set4 (Nat.le_refl _) _ _ _ _⟩
    exact (K'.out.2.1.below K2.out.2).turn1 (turn4 _ _ _ _ _ _) H.out.2.1 (H.out.2.2.1 (by omega)) H.out.2.2.2

end Go.Proofs.YtppcofopnelgjaaGreatDoor
