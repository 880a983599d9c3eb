import Derived.Test.YtnlopepbcnegbaaGreatDoorFun
import Derived.Lib.Strings
import Derived.WalkKit
import Derived.WalkSpells
import Derived.WalkLawsBesides
import Derived.Below
import Derived.Laws.RangeAny
import Derived.LoopTactic
import Derived.OwnWalk
import Derived.Deep.AppendLies
import Derived.Lib.ConvBytes
set_option linter.unusedVariables false
set_option linter.unusedSimpArgs false
namespace Go.Proofs.YtnlopepbcnegbaaGreatDoor
open Go.RowKit
/-- the number of a text of one byte -/
def ob (S : ByteArray) : Int := if S.size = 1 then (L.bt S 0 : Int) else -1
theorem df_bt (s : ByteArray) (k : Nat) (h : k < s.size) : ((s[k]'h).toNat : Int) = (L.bt s k : Int) := by
  unfold L.bt
  show _ = (((s.data[k]!).toNat : Nat) : Int)
  rw [getElem!_pos s.data k h]
  rfl
theorem one_list (S : ByteArray) (c : UInt8) : (S.toList == [c]) = (ob S == (c.toNat : Int)) := by
  have e : S.toList = S.data.toList := ByteArray.toList_eq S
  rw [e]
  have hl : S.data.toList.length = S.size := Array.length_toList
  by_cases h : S.size = 1
  · have hb := df_bt S 0 (by omega)
    have e2 : S.data.toList = [S[0]'(by omega)] := by
      apply List.ext_getElem
      · simp [hl, h]
      · intro i h1 h2
        obtain rfl : i = 0 := by simp at h2; omega
        rfl
    unfold ob
    rw [if_pos h, e2, ← hb]
    rw [Bool.eq_iff_iff, beq_iff_eq, beq_iff_eq]
    refine ⟨fun y => ?_, fun y => ?_⟩
    · injection y with y
      rw [y]
    · have : S[0]'(by omega) = c := UInt8.toNat_inj.1 (by omega)
      rw [this]
  · unfold ob
    rw [if_neg h]
    have h1 : ¬ S.data.toList = [c] := fun q => by rw [q] at hl; exact h hl.symm
    have h2 : ¬ (-1 : Int) = (c.toNat : Int) := by omega
    rw [Bool.eq_iff_iff, beq_iff_eq, beq_iff_eq]
    exact ⟨fun y => absurd y h1, fun y => absurd y h2⟩
theorem no_list (S : ByteArray) : (S.toList == []) = decide (S.size = 0) := by
  have e : S.toList = S.data.toList := ByteArray.toList_eq S
  rw [e]
  have hl : S.data.toList.length = S.size := Array.length_toList
  by_cases h : S.size = 0
  · have : S.data.toList = [] := List.eq_nil_of_length_eq_zero (hl.trans h)
    simp [this, h]
  · have : ¬ S.data.toList = [] := fun q => by rw [q] at hl; exact h hl.symm
    rw [Bool.eq_iff_iff, beq_iff_eq, decide_eq_true_eq]
    exact ⟨fun y => absurd y this, fun y => absurd y h⟩
set_option maxRecDepth 100000 in
set_option maxHeartbeats 1000000 in
theorem rblank_any (S : ByteArray) (w : World) : Calls Tryz.prog 38 #[.string S] w fun e w' => e = .returned (.bool (L.isBlank (ob S))) ∧ w' = w := by
  have h0 : L.isBlank (ob S) = ((S.toList == [32]) || ((S.toList == [9]) || ((S.toList == [13]) || (S.toList == [10])))) := by simp only [one_list]; rfl
  rw [h0]
  go_enter Tryz.func38, Tryz.ntmps38
  go_wp2
  all_goals go_ret
  all_goals refine ⟨ret_bool ?_, rfl⟩
  all_goals first | (simp only [Bool.or_assoc]; done) | simp [*]
set_option maxRecDepth 100000 in
set_option maxHeartbeats 1000000 in
theorem rsigns_any (S : ByteArray) (w : World) : Calls Tryz.prog 39 #[.string S] w fun e w' => e = .returned (.bool (L.isSign (ob S))) ∧ w' = w := by
  have h0 : L.isSign (ob S) = ((S.toList == [44]) || ((S.toList == [58]) || ((S.toList == [59]) || (S.toList == [42])))) := by simp only [one_list]; rfl
  rw [h0]
  go_enter Tryz.func39, Tryz.ntmps39
  go_wp2
  all_goals go_ret
  all_goals refine ⟨ret_bool ?_, rfl⟩
  all_goals first | (simp only [Bool.or_assoc]; done) | simp [*]
set_option maxRecDepth 100000 in
set_option maxHeartbeats 1000000 in
theorem rletter_any (S : ByteArray) (w : World) : Calls Tryz.prog 40 #[.string S] w fun e w' => e = .returned (.bool (L.isLetter (ob S))) ∧ w' = w := by
  by_cases h : S.size = 1
  · have h0 : 0 < S.size := by omega
    have hb := df_bt S 0 h0
    have ho : ob S = (L.bt S 0 : Int) := by unfold ob; rw [if_pos h]
    rw [ho]
    generalize L.bt S 0 = b at *
    clear ho
    go_enter Tryz.func40, Tryz.ntmps40
    go_wp2
    all_goals go_ret
    all_goals refine ⟨ret_bool ?_, rfl⟩
    all_goals unfold L.isLetter
    all_goals (rw [Bool.eq_iff_iff]; simp only [Bool.or_eq_true, Bool.and_eq_true, decide_eq_true_eq, beq_iff_eq, true_iff, false_iff, eq_self, Bool.false_eq_true]; omega)
  · have ho : ob S = -1 := by unfold ob; rw [if_neg h]
    rw [ho]
    clear ho
    have h1 : ¬ (S.size : Int) = 1 := by omega
    go_enter Tryz.func40, Tryz.ntmps40
    go_wp2
    all_goals go_ret
    all_goals exact ⟨rfl, rfl⟩
set_option maxRecDepth 100000 in
set_option maxHeartbeats 1000000 in
theorem rdigit_any (S : ByteArray) (w : World) : Calls Tryz.prog 43 #[.string S] w fun e w' => e = .returned (.bool (L.isDigit (ob S))) ∧ w' = w := by
  by_cases h : S.size = 1
  · have h0 : 0 < S.size := by omega
    have hb := df_bt S 0 h0
    have ho : ob S = (L.bt S 0 : Int) := by unfold ob; rw [if_pos h]
    rw [ho]
    generalize L.bt S 0 = b at *
    clear ho
    go_enter Tryz.func43, Tryz.ntmps43
    go_wp2
    all_goals go_ret
    all_goals refine ⟨ret_bool ?_, rfl⟩
    all_goals unfold L.isDigit
    all_goals (rw [Bool.eq_iff_iff]; simp only [Bool.or_eq_true, Bool.and_eq_true, decide_eq_true_eq, beq_iff_eq, true_iff, false_iff, eq_self, Bool.false_eq_true]; omega)
  · have ho : ob S = -1 := by unfold ob; rw [if_neg h]
    rw [ho]
    clear ho
    have h1 : ¬ (S.size : Int) = 1 := by omega
    go_enter Tryz.func43, Tryz.ntmps43
    go_wp2
    all_goals go_ret
    all_goals exact ⟨rfl, rfl⟩
end Go.Proofs.YtnlopepbcnegbaaGreatDoor
set_option linter.unusedVariables false
set_option linter.unusedSimpArgs false
namespace Go.Proofs.YtnlopepbcnegbaaGreatDoor
open Go.RowKit
theorem ret_sec {a b c d e f : Int} (h : a = d) (k : b = e) (l : c = f) : Ending.returned (.tuple #[.int .u8 a, .int .u8 b, .int .i64 c]) = .returned (.tuple #[.int .u8 d, .int .u8 e, .int .i64 f]) := by rw [h, k, l]
set_option maxRecDepth 100000 in
set_option maxHeartbeats 4000000 in
theorem second_any (b : Nat) (w : World) (hb : b < 256) :
    Calls Tryz.prog 62 #[.int .u8 (b : Int)] w fun e w' => e = .returned (.tuple #[.int .u8 (L.lo b : Int), .int .u8 (L.hi b : Int), .int .i64 (L.nn b : Int)]) ∧ w' = w := by
  obtain ⟨c, hc⟩ : ∃ c : Int, c = (b : Int) := ⟨_, rfl⟩
  have Hc := hide' (And.intro hc hb)
  rw [← hc]
  clear hc hb
  go_enter Tryz.func62, Tryz.ntmps62
  go_wp2
  all_goals go_ret3
  all_goals
    obtain ⟨hc, hb⟩ := Hc.out
    refine ⟨ret_sec ?_ ?_ ?_, rfl⟩
    all_goals
      clear Hc
      try simp only [decide_eq_true_eq, decide_eq_false_iff_not, beq_iff_eq, beq_eq_false_iff_ne, Bool.and_eq_true, Bool.and_eq_false_iff, ne_eq] at *
      simp only [L.lo, L.hi, L.nn]
      repeat' split
      all_goals first | rfl | (exfalso; omega)

theorem bt_at (s : ByteArray) (k : Nat) (h : k < s.size) : (s[k]'h).toNat = L.bt s k := by
  exact_mod_cast df_bt s k h
theorem bt_atI (s : ByteArray) (k : Nat) (h : k < s.size) : ((s[k]'h).toNat : Int) = (L.bt s k : Int) := by rw [bt_at]
theorem wth_at (s : ByteArray) (k l h : Nat) (c : k < s.size) : L.wth s k l h = (decide (l ≤ L.bt s k) && decide (L.bt s k ≤ h)) := by simp [L.wth, c]
set_option maxRecDepth 100000 in
set_option maxHeartbeats 1000000 in
theorem within_any (s : ByteArray) (k l h : Nat) (w : World) :
    Calls Tryz.prog 63 #[.string s, .int .i64 (k : Int), .int .u8 (l : Int), .int .u8 (h : Int)] w fun e w' => e = .returned (.bool (L.wth s k l h)) ∧ w' = w := by
  by_cases c1 : k < s.size
  · go_enter Tryz.func63, Tryz.ntmps63
    go_wp2
    all_goals go_ret
    all_goals
      refine ⟨ret_bool ?_, rfl⟩
      rw [wth_at s k l h c1]
      simp_all [bt_at]
      try omega
  · go_enter Tryz.func63, Tryz.ntmps63
    go_wp2
    go_ret
    exact ⟨ret_bool (by simp [L.wth, c1]), rfl⟩


theorem ret_size {a b : Int} {c : Bool} (h : a = b) : Ending.returned (.tuple #[.int .i64 a, .bool c]) = .returned (.tuple #[.int .i64 b, .bool c]) := by rw [h]
set_option maxRecDepth 100000 in
set_option maxHeartbeats 1000000 in
theorem size_any (s : ByteArray) (k : Nat) (w : World) (hs : s.size ≤ 1048576) (hk : k < s.size) :
    Calls Tryz.prog 37 #[.string s, .int .i64 (k : Int)] w fun e w' => (∃ b, e = .returned (.tuple #[.int .i64 (L.wd s k : Int), .bool b])) ∧ w' = w := by
  have hb := L.bt_lt s k
  have hat := bt_at s k hk
  by_cases h0 : L.nn (L.bt s k) = 0
  · have hw : Hid (L.wd s k = 1) := L.wd_zero s k h0
    go_enter Tryz.func37, Tryz.ntmps37
    go_wp2_with (go_at_call 62; refine (second_any _ _ hb).mono ?_; rintro e w1 ⟨rfl, hw1⟩; replace hw1 := hw1.symm; subst hw1)
    go_ret2
    exact ⟨⟨_, ret_size (by rw [hw.out]; rfl)⟩, rfl⟩
  · have hbad := fun j a b c => L.wd_bad s k j hk a b c
    have hall := L.wd_all s k hk h0
    have hn4 := L.nn_le (L.bt s k)
    have Hh := hide' (And.intro hbad hall)
    have hne : ((L.nn (L.bt s k) : Int) == 0) = false := by simp; omega
    clear hbad hall
    go_enter Tryz.func37, Tryz.ntmps37
    go_wp2_with (go_at_call 62; refine (second_any _ _ hb).mono ?_; rintro e w1 ⟨rfl, hw1⟩; replace hw1 := hw1.symm; subst hw1)
    go_loopw [6, 7, 9] (fun x y i w' => w' = w ∧ ∃ j : Nat, 1 ≤ j ∧ i = .int .i64 (j : Int) ∧ x = .int .u8 (L.lowAt (L.bt s k) j : Int) ∧ y = .int .u8 (L.highAt (L.bt s k) j : Int) ∧ ∀ q, 1 ≤ q → q < j → L.wth s (k + q) (L.lowAt (L.bt s k) q) (L.highAt (L.bt s k) q) = true) (fun _ _ i _ => 5 - (intOf i).toNat)
    case atStart => exact ⟨rfl, 1, by omega, rfl, by simp [L.lowAt], by simp [L.highAt], fun q a b => by omega⟩
    case round =>
      obtain ⟨rfl, j, hj1, rfl, rfl, rfl, hq⟩ := hrel
      have Hq := hide' hq
      clear hq
      by_cases hjn : j < L.nn (L.bt s k)
      · have e1 : decide ((j : Int) < (L.nn (L.bt s k) : Int)) = true := by simp; omega
        have hsum : IntKind.i64.wrap ((k : Int) + (j : Int)) = ((k + j : Nat) : Int) := by rw [IntKind.wrap_i64]; omega
        cases hwt : L.wth s (k + j) (L.lowAt (L.bt s k) j) (L.highAt (L.bt s k) j)
        · have hw : Hid (L.wd s k = 1) := Hh.out.1 j hj1 hjn hwt
          go_wp2_with (go_at_call 63; refine (within_any _ _ _ _ _).mono ?_; rintro e w1 ⟨rfl, hw1⟩; replace hw1 := hw1.symm; subst hw1)
          go_ret2
          exact ⟨⟨_, ret_size (by rw [hw.out]; rfl)⟩, rfl⟩
        · go_wp2_with (go_at_call 63; refine (within_any _ _ _ _ _).mono ?_; rintro e w1 ⟨rfl, hw1⟩; replace hw1 := hw1.symm; subst hw1)
          refine ⟨⟨trivial, j + 1, by omega, by go_num, ?_, ?_, ?_⟩, by simp [intOf]; omega⟩
          · rw [L.lowAt, if_neg (by omega)]; rfl
          · rw [L.highAt, if_neg (by omega)]; rfl
          · intro q a b
            by_cases c : q = j
            · rw [c]; exact hwt
            · exact Hq.out q a (by omega)
      · have e1 : decide ((j : Int) < (L.nn (L.bt s k) : Int)) = false := by simp; omega
        have hw : Hid (L.wd s k = L.nn (L.bt s k)) := Hh.out.2 fun q a b => Hq.out q a (by omega)
        go_wp2
        go_ret2
        exact ⟨⟨_, ret_size (by rw [hw.out])⟩, rfl⟩


end Go.Proofs.YtnlopepbcnegbaaGreatDoor
set_option linter.unusedVariables false
set_option linter.unusedSimpArgs false
namespace Go.Proofs.YtnlopepbcnegbaaGreatDoor
open Go.RowKit
namespace L
/-- a character of a text: its bytes, its place, its first byte's number -/
structure Ch where
  S : ByteArray
  l : Int
  c : Int
  a : Nat
def Ch.cells (x : Ch) : List Value := [.string x.S, .int .i64 x.l, .int .i64 x.c, .int .i64 x.a]
def chs (s : ByteArray) : Nat → Nat → Int × Int → List Ch
  | 0, p, n => [⟨ByteArray.empty, n.1, n.2, p⟩]
  | f + 1, p, n => if p < s.size then ⟨s.extract p (p + wd s p), n.1, n.2, p⟩ :: chs s f (p + wd s p) (nxt n (rn s p)) else [⟨ByteArray.empty, n.1, n.2, p⟩]
def chars (s : ByteArray) : List Ch := chs s s.size 0 (1, 1)
theorem chs_end (s : ByteArray) (f p : Nat) (n : Int × Int) (h : ¬ p < s.size) : chs s f p n = [⟨ByteArray.empty, n.1, n.2, p⟩] := by
  cases f with
  | zero => rfl
  | succ f => simp [chs, h]
theorem chs_on (s : ByteArray) (f p : Nat) (n : Int × Int) (hf : s.size ≤ p + f) (h : p < s.size) :
    ∃ g, chs s f p n = ⟨s.extract p (p + wd s p), n.1, n.2, p⟩ :: chs s g (p + wd s p) (nxt n (rn s p)) ∧ s.size ≤ p + wd s p + g := by
  cases f with
  | zero => omega
  | succ f =>
    have := wd_pos s p
    exact ⟨f, by simp [chs, h], by omega⟩
theorem chs_len (s : ByteArray) (f p : Nat) (n : Int × Int) (hf : s.size ≤ p + f) : (chs s f p n).length ≤ s.size - p + 1 := by
  induction f generalizing p n with
  | zero => simp [chs]
  | succ f ih =>
    unfold chs
    split
    · have := wd_pos s p
      have := ih (p + wd s p) (nxt n (rn s p)) (by omega)
      simp only [List.length_cons]; omega
    · simp
theorem flat_len (xs : List Ch) : (xs.flatMap Ch.cells).length = xs.length * 4 := by
  induction xs with
  | nil => rfl
  | cons x xs ih => rw [List.flatMap_cons, List.length_append, ih]; simp [Ch.cells]; omega
theorem flat_at (xs : List Ch) (i : Nat) (x : Ch) (h : xs[i]? = some x) :
    (xs.flatMap Ch.cells)[i * 4]? = some (.string x.S) ∧ (xs.flatMap Ch.cells)[i * 4 + 1]? = some (.int .i64 x.l) ∧ (xs.flatMap Ch.cells)[i * 4 + 2]? = some (.int .i64 x.c) ∧ (xs.flatMap Ch.cells)[i * 4 + 3]? = some (.int .i64 x.a) := by
  induction xs generalizing i with
  | nil => simp at h
  | cons y ys ih =>
    cases i with
    | zero =>
      simp only [List.getElem?_cons_zero, Option.some.injEq] at h
      subst h
      simp [Ch.cells]
    | succ i =>
      rw [List.getElem?_cons_succ] at h
      have := ih i h
      have e : ∀ k, k < 4 → ((y :: ys).flatMap Ch.cells)[(i + 1) * 4 + k]? = (ys.flatMap Ch.cells)[i * 4 + k]? := by
        intro k hk
        rw [List.flatMap_cons, List.getElem?_append_right (by simp [Ch.cells]; omega)]
        congr 1
        simp [Ch.cells]; omega
      exact ⟨(e 0 (by omega)).trans this.1, (e 1 (by omega)).trans this.2.1, (e 2 (by omega)).trans this.2.2.1, (e 3 (by omega)).trans this.2.2.2⟩
end L

theorem info95 : (Tryz.prog.info? 95).map (fun i => (i.zero, i.size, i.bytes)) = some (some (.agg #[.string ByteArray.empty, .int .i64 0, .int .i64 0, .int .i64 0]), 4, 40) := by kernel_rfl
set_option maxRecDepth 100000 in
set_option maxHeartbeats 1000000 in
theorem chars_any (s : ByteArray) (w : World) (hs : s.size ≤ 1048576) :
    Calls Tryz.prog 22 #[.string s] w fun e w' => ∃ v, e = .returned v ∧ w'.ownsRow w.heap.size 95 4 v (L.chars s).length ((L.chars s).flatMap L.Ch.cells) ∧ Below w.heap.size w w' := by
  obtain ⟨i0, hi, hz0, hz1, hz2⟩ := info_parts info95
  obtain ⟨B, hB⟩ : ∃ B, w.heap.size = B := ⟨_, rfl⟩
  go_enter Tryz.func22, Tryz.ntmps22
  go_wp2
  go_loopw [3, 4, 5, 6] (fun v l c a wx => ∃ (pos g : Nat) (m : Int × Int) (acc : List L.Ch), l = .int .i64 m.1 ∧ c = .int .i64 m.2 ∧ a = .int .i64 (pos : Int) ∧ wx.ownsRow B 95 4 v acc.length (acc.flatMap L.Ch.cells) ∧ Below B w wx ∧ acc ++ L.chs s g pos m = L.chars s ∧ s.size ≤ pos + g ∧ pos ≤ s.size ∧ acc.length ≤ pos ∧ (0 ≤ m.1 ∧ m.1 ≤ pos + 1) ∧ (0 ≤ m.2 ∧ m.2 ≤ pos + 1)) (fun _ _ _ a _ => s.size - (intOf a).toNat)
  case atStart => exact ⟨0, s.size, (1, 1), [], rfl, rfl, rfl, World.ownsRow_nil _ _ _ _, Below.refl _ _, rfl, by omega, by omega, by simp, by simp, by simp⟩
  case round =>
    obtain ⟨pos, g, ⟨m1, m2⟩, acc, rfl, rfl, rfl, hrow, bel, hacc, hg, hp, hal, b1, b2⟩ := hrel
    have Hacc := hide' hacc
    clear hacc
    by_cases hps : pos < s.size
    · have e1 : decide ((pos : Int) < (s.size : Int)) = true := by simpa using hps
      have hwp := L.wd_pos s pos
      have hwi := L.wd_in s pos hps
      have Hrow := hide' hrow
      have n1 : Hid (acc.length + 1 ≤ maxLen) := (show acc.length + 1 ≤ maxLen by unfold maxLen; omega)
      have n2 : Hid ((acc.length + 1) * 40 ≤ 140737488355328) := (show (acc.length + 1) * 40 ≤ 140737488355328 by omega)
      have hBw : Hid (B ≤ wr.heap.size) := (show B ≤ wr.heap.size by rw [← hB]; exact bel.size)
      clear hrow
      cases h10 : decide (L.bt s pos = 10)
      · have e2 : ((L.bt s pos : Int) == 10) = false := by simp at h10 ⊢; omega
        have hat := bt_at s pos hps
        have hnx : Hid (L.nxt (m1, m2) (L.rn s pos) = (m1, m2 + 1)) := by
          have : ¬ L.rn s pos = 10 := fun h => by have := (L.rn_ten s pos).1 h; simp [this] at h10
          show _ = _
          simp [L.nxt, this]
        clear h10
        go_wp2_with (first | (go_at_call 37; refine (size_any _ _ _ hs hps).mono ?_; rintro e w1 ⟨⟨bb, rfl⟩, hw1⟩; replace hw1 := hw1.symm; subst hw1) | (at_builtin; refine wpList_append_lies _ rfl _ _ 61 rfl B 95 i0 _ 4 40 Tryz.underlying61 hi hz0 hz1 hz2 rfl (by decide) _ acc.length (acc.flatMap L.Ch.cells) rfl (Hrow.out.alloc _) ⟨wr.heap.size, 0, none⟩ 1 1 [.string (s.extract pos (pos + L.wd s pos)), .int .i64 m1, .int .i64 m2, .int .i64 pos] rfl rfl (four_new _ _ _ _ _ _) (by simp [Value.oneCell']) (by decide) n1.out n2.out (by have := hBw.out; simp; omega) (wr.heap.size + 1) (by simp) ?_; intro gg rc w3 hrow3 hgrow3 hat3 hlt3; have Hr3 := hide' (And.intro hrow3 hgrow3); clear hrow3 hgrow3))
        have hgr : (wr.alloc (.cells #[.string (s.extract pos (pos + L.wd s pos)), .int .i64 m1, .int .i64 m2, .int .i64 pos] 95)).grownBy w3 u3.ownBlock := Hr3.out.2
        have hrw := Hr3.out.1
        obtain ⟨g', q1, q2⟩ := L.chs_on s g pos (m1, m2) hg hps
        have hbl : Below B w w3 := (bel.alloc hBw.out _).grown hgr (by have := hBw.out; simp; omega) (fun k hk => (Hrow.out.lt k hk).1)
        refine ⟨⟨pos + L.wd s pos, g', (m1, m2 + 1), acc ++ [⟨s.extract pos (pos + L.wd s pos), m1, m2, pos⟩], rfl, rfl, by simp, ?_, hbl, ?_, q2, hwi, by simp; omega, ?_, ?_⟩, by simp [intOf]; omega⟩
        · rw [List.length_append, List.flatMap_append]; simpa [L.Ch.cells] using hrw
        · rw [List.append_assoc, ← Hacc.out, q1, hnx.out]; rfl
        · simp; omega
        · simp; omega
      · have e2 : ((L.bt s pos : Int) == 10) = true := by simp at h10 ⊢; omega
        have hat := bt_at s pos hps
        have hnx : Hid (L.nxt (m1, m2) (L.rn s pos) = (m1 + 1, 1)) := by
          have : L.rn s pos = 10 := (L.rn_ten s pos).2 (by simpa using h10)
          show _ = _
          simp [L.nxt, this]
        clear h10
        go_wp2_with (first | (go_at_call 37; refine (size_any _ _ _ hs hps).mono ?_; rintro e w1 ⟨⟨bb, rfl⟩, hw1⟩; replace hw1 := hw1.symm; subst hw1) | (at_builtin; refine wpList_append_lies _ rfl _ _ 61 rfl B 95 i0 _ 4 40 Tryz.underlying61 hi hz0 hz1 hz2 rfl (by decide) _ acc.length (acc.flatMap L.Ch.cells) rfl (Hrow.out.alloc _) ⟨wr.heap.size, 0, none⟩ 1 1 [.string (s.extract pos (pos + L.wd s pos)), .int .i64 m1, .int .i64 m2, .int .i64 pos] rfl rfl (four_new _ _ _ _ _ _) (by simp [Value.oneCell']) (by decide) n1.out n2.out (by have := hBw.out; simp; omega) (wr.heap.size + 1) (by simp) ?_; intro gg rc w3 hrow3 hgrow3 hat3 hlt3; have Hr3 := hide' (And.intro hrow3 hgrow3); clear hrow3 hgrow3))
        have hgr : (wr.alloc (.cells #[.string (s.extract pos (pos + L.wd s pos)), .int .i64 m1, .int .i64 m2, .int .i64 pos] 95)).grownBy w3 u3.ownBlock := Hr3.out.2
        have hrw := Hr3.out.1
        obtain ⟨g', q1, q2⟩ := L.chs_on s g pos (m1, m2) hg hps
        have hbl : Below B w w3 := (bel.alloc hBw.out _).grown hgr (by have := hBw.out; simp; omega) (fun k hk => (Hrow.out.lt k hk).1)
        refine ⟨⟨pos + L.wd s pos, g', (m1 + 1, 1), acc ++ [⟨s.extract pos (pos + L.wd s pos), m1, m2, pos⟩], rfl, rfl, by simp, ?_, hbl, ?_, q2, hwi, by simp; omega, ?_, ?_⟩, by simp [intOf]; omega⟩
        · rw [List.length_append, List.flatMap_append]; simpa [L.Ch.cells] using hrw
        · rw [List.append_assoc, ← Hacc.out, q1, hnx.out]; rfl
        · simp; omega
        · simp; omega
    · have e1 : decide ((pos : Int) < (s.size : Int)) = false := by simpa using hps
      have Hrow := hide' hrow
      have n1 : Hid (acc.length + 1 ≤ maxLen) := (show acc.length + 1 ≤ maxLen by unfold maxLen; omega)
      have n2 : Hid ((acc.length + 1) * 40 ≤ 140737488355328) := (show (acc.length + 1) * 40 ≤ 140737488355328 by omega)
      have hBw : Hid (B ≤ wr.heap.size) := (show B ≤ wr.heap.size by rw [← hB]; exact bel.size)
      clear hrow
      go_wp2_with (at_builtin; refine wpList_append_lies _ rfl _ _ 61 rfl B 95 i0 _ 4 40 Tryz.underlying61 hi hz0 hz1 hz2 rfl (by decide) _ acc.length (acc.flatMap L.Ch.cells) rfl (Hrow.out.alloc _) ⟨wr.heap.size, 0, none⟩ 1 1 [.string ByteArray.empty, .int .i64 m1, .int .i64 m2, .int .i64 pos] rfl rfl (four_new _ _ _ _ _ _) (by simp [Value.oneCell']) (by decide) n1.out n2.out (by have := hBw.out; simp; omega) (wr.heap.size + 1) (by simp) ?_; intro gg rc w3 hrow3 hgrow3 hat3 hlt3; have Hr3 := hide' (And.intro hrow3 hgrow3); clear hrow3 hgrow3)
      have hgr : (wr.alloc (.cells #[.string ByteArray.empty, .int .i64 m1, .int .i64 m2, .int .i64 pos] 95)).grownBy w3 u3.ownBlock := Hr3.out.2
      have hrw := Hr3.out.1
      have hbl : Below B w w3 := (bel.alloc hBw.out _).grown hgr (by have := hBw.out; simp; omega) (fun k hk => (Hrow.out.lt k hk).1)
      go_ret
      refine ⟨_, rfl, ?_, by first | exact hbl | (rw [hB]; exact hbl)⟩
      rw [← Hacc.out, L.chs_end s g pos (m1, m2) hps, List.length_append, List.flatMap_append]
      simpa [L.Ch.cells] using hrw
end Go.Proofs.YtnlopepbcnegbaaGreatDoor
set_option linter.unusedVariables false
set_option linter.unusedSimpArgs false
namespace Go.Proofs.YtnlopepbcnegbaaGreatDoor
open Go.RowKit
/-- a character's text and its number -/
def Rl (S : ByteArray) (r : Int) : Prop := (r < 128 ∧ ob S = r) ∨ (128 ≤ r ∧ (ob S = -1 ∨ 128 ≤ ob S))
theorem Rl.cls {S : ByteArray} {r : Int} (h : Rl S r) (P : Int → Bool) (h1 : P (-1) = false) (h2 : ∀ z, 128 ≤ z → P z = false) : P (ob S) = P r := by
  rcases h with ⟨_, h⟩ | ⟨h, q | q⟩
  · rw [h]
  · rw [q, h1, h2 _ h]
  · rw [h2 _ q, h2 _ h]
theorem Rl.one {S : ByteArray} {r : Int} (h : Rl S r) (c : UInt8) (n : Int) (hn : (c.toNat : Int) = n) (hc : n < 128) : (S.toList == [c]) = (r == n) := by
  rw [one_list]
  subst hn
  exact h.cls (fun z => z == (c.toNat : Int)) (by rw [beq_eq_false_iff_ne]; omega) (fun z hz => by rw [beq_eq_false_iff_ne]; omega)
theorem Rl.yes {S : ByteArray} {r : Int} (h : Rl S r) (c : UInt8) (n : Int) (hn : (c.toNat : Int) = n) (hc : n < 128) (e : r = n) : (S.toList == [c]) = true ∧ S.toList = [c] := by
  have := h.one c n hn hc
  rw [e, beq_self_eq_true] at this
  exact ⟨this, by simpa using this⟩
theorem Rl.no {S : ByteArray} {r : Int} (h : Rl S r) (c : UInt8) (n : Int) (hn : (c.toNat : Int) = n) (hc : n < 128) (e : r ≠ n) : (S.toList == [c]) = false ∧ ¬ S.toList = [c] := by
  have := h.one c n hn hc
  rw [beq_eq_false_iff_ne.2 e] at this
  exact ⟨this, by simpa using this⟩
theorem Rl.blank {S : ByteArray} {r : Int} (h : Rl S r) : L.isBlank (ob S) = L.isBlank r := h.cls _ rfl (fun z hz => by unfold L.isBlank; simp only [Bool.or_eq_false_iff, beq_eq_false_iff_ne]; omega)
theorem Rl.sign {S : ByteArray} {r : Int} (h : Rl S r) : L.isSign (ob S) = L.isSign r := h.cls _ rfl (fun z hz => by unfold L.isSign; simp only [Bool.or_eq_false_iff, beq_eq_false_iff_ne]; omega)
theorem Rl.letter {S : ByteArray} {r : Int} (h : Rl S r) : L.isLetter (ob S) = L.isLetter r := h.cls _ rfl (fun z hz => by unfold L.isLetter; simp only [Bool.or_eq_false_iff, Bool.and_eq_false_iff, decide_eq_false_iff_not, beq_eq_false_iff_ne]; omega)
theorem Rl.digit {S : ByteArray} {r : Int} (h : Rl S r) : L.isDigit (ob S) = L.isDigit r := h.cls _ rfl (fun z hz => by unfold L.isDigit; simp only [Bool.and_eq_false_iff, decide_eq_false_iff_not]; omega)
theorem Rl.hex {S : ByteArray} {r : Int} (h : Rl S r) : L.isHex (ob S) = L.isHex r := h.cls _ rfl (fun z hz => by unfold L.isHex L.isDigit; simp only [Bool.or_eq_false_iff, Bool.and_eq_false_iff, decide_eq_false_iff_not]; omega)
theorem ext1_ob (s : ByteArray) (a n : Nat) (h : a + n ≤ s.size) : ob (s.extract a (a + n)) = if n = 1 then (L.bt s a : Int) else -1 := by
  have hz : (s.extract a (a + n)).size = n := by rw [ByteArray.size_extract]; omega
  unfold ob
  rw [hz]
  by_cases h1 : n = 1
  · subst h1
    rw [if_pos rfl, if_pos rfl]
    have := df_bt (s.extract a (a + 1)) 0 (by rw [hz]; omega)
    rw [← this, ← df_bt s a (by omega)]
    congr 2
    show (s.extract a (a + 1)).data[0]'_ = s.data[a]'_
    simp [ByteArray.data_extract]
  · rw [if_neg h1, if_neg h1]
section
variable {T : Tx} {s : ByteArray}
theorem rl_at (G : L.Good s T.C T.N 0 (1, 1)) {j : Nat} (hj : j ≤ T.N) : Rl (T.g j).S (T.g j).r := by
  rcases Nat.lt_or_ge j T.N with h | h
  · obtain ⟨c1, c2, c3, c4⟩ := G.char j h
    obtain ⟨s1, s2, s3, _⟩ := G.step j h
    have e : (T.g j).S = s.extract (L.g T.C j).a ((L.g T.C j).a + L.wd s (L.g T.C j).a) := by rw [← s1]; exact s3
    have er : (T.g j).r = L.rn s (L.g T.C j).a := c3
    rw [e, er]
    have hob := ext1_ob s (L.g T.C j).a (L.wd s (L.g T.C j).a) (by omega)
    unfold Rl
    rw [hob]
    clear hob s1 s2 s3 e er c3
    generalize (L.g T.C j).a = a at *
    rcases Nat.lt_or_ge (L.bt s a) 128 with y | y
    · obtain ⟨r1, r2⟩ := L.rn_lt s a y
      left
      rw [r1, r2]
      exact ⟨by omega, by simp⟩
    · have := L.rn_ge s a y
      right
      refine ⟨this, ?_⟩
      split
      · right; omega
      · left; rfl
  · obtain rfl : j = T.N := by omega
    have e1 : (T.g T.N).r = -1 := G.last.1
    have e2 : (T.g T.N).S = ByteArray.empty := G.last.2.2
    rw [e1, e2]
    exact .inl ⟨by omega, rfl⟩
theorem nil_at (G : L.Good s T.C T.N 0 (1, 1)) {j : Nat} (hj : j ≤ T.N) : ((T.g j).S.toList == []) = ((T.g j).r == -1) := by
  rw [no_list, Bool.eq_iff_iff, decide_eq_true_eq, beq_iff_eq]
  rcases Nat.lt_or_ge j T.N with h | h
  · obtain ⟨c1, c2, c3, c4⟩ := G.char j h
    obtain ⟨s1, s2, s3, _⟩ := G.step j h
    have e : (T.g j).S = s.extract (L.g T.C j).a (L.g T.C (j + 1)).a := s3
    have hw := L.wd_pos s (L.g T.C j).a
    have hz : (T.g j).S.size = L.wd s (L.g T.C j).a := by rw [e, ByteArray.size_extract]; omega
    have c1' : 0 ≤ (T.g j).r := c1
    omega
  · obtain rfl : j = T.N := by omega
    have e1 : (T.g T.N).r = -1 := G.last.1
    have e2 : (T.g T.N).S = ByteArray.empty := G.last.2.2
    rw [e1, e2]
    exact ⟨fun _ => rfl, fun _ => rfl⟩
end
theorem nil_yes {T : Tx} {s : ByteArray} (G : L.Good s T.C T.N 0 (1, 1)) {j : Nat} (hj : j ≤ T.N) (e : (T.g j).r = -1) : ((T.g j).S.toList == []) = true ∧ (T.g j).S.toList = [] := by
  have := nil_at G hj
  rw [e, beq_self_eq_true] at this
  exact ⟨this, by simpa using this⟩
theorem nil_no {T : Tx} {s : ByteArray} (G : L.Good s T.C T.N 0 (1, 1)) {j : Nat} (hj : j ≤ T.N) (e : (T.g j).r ≠ -1) : ((T.g j).S.toList == []) = false ∧ ¬ (T.g j).S.toList = [] := by
  have := nil_at G hj
  rw [beq_eq_false_iff_ne.2 e] at this
  exact ⟨this, by simpa using this⟩
/-- the document's characters of a text, as they lie -/
structure Chs (T : Tx) (g : Nat) (w : World) : Prop where
  lt : g < w.heap.size
  at_ : ∀ j, j ≤ T.N → w.cell? ⟨g, j * 4, none⟩ = some (.string (T.g j).S) ∧ w.cell? ⟨g, j * 4 + 1, none⟩ = some (.int .i64 (T.g j).l) ∧ w.cell? ⟨g, j * 4 + 2, none⟩ = some (.int .i64 (T.g j).c) ∧ w.cell? ⟨g, j * 4 + 3, none⟩ = some (.int .i64 ((T.g j).a : Int))
theorem Chs.below {T : Tx} {g : Nat} {w w' : World} (h : Chs T g w) (b : Below w.heap.size w w') : Chs T g w' :=
  ⟨Nat.lt_of_lt_of_le h.lt b.size, fun j hj => by
    obtain ⟨a0, a1, a2, a3⟩ := h.at_ j hj
    exact ⟨(b.cell (p := ⟨g, j * 4, none⟩) h.lt).trans a0, (b.cell (p := ⟨g, j * 4 + 1, none⟩) h.lt).trans a1, (b.cell (p := ⟨g, j * 4 + 2, none⟩) h.lt).trans a2, (b.cell (p := ⟨g, j * 4 + 3, none⟩) h.lt).trans a3⟩⟩
/-- both lists of characters are one -/
theorem chs_cxs (s : ByteArray) : ∀ f p n, L.chs s f p n = (L.cxs s f p n).map fun x => ⟨x.S, x.l, x.c, x.a⟩ := by
  intro f
  induction f with
  | zero => intro p n; rfl
  | succ f ih =>
    intro p n
    unfold L.chs L.cxs
    split
    · rw [ih]; rfl
    · rfl
theorem chars_cx (s : ByteArray) : L.chars s = (L.cx s).map fun x => ⟨x.S, x.l, x.c, x.a⟩ := chs_cxs s _ _ _
/-- the document's characters of a text -/
theorem rchars_any (s : ByteArray) (w : World) (hs : s.size ≤ 65536) :
    Calls Tryz.prog 22 #[.string s] w fun e w' => ∃ (T : Tx) (g cap : Nat), T.s = s ∧ T.C = L.cx s ∧ L.Good s T.C T.N 0 (1, 1) ∧ T.N ≤ 65536 ∧ e = .returned (.slice (some ⟨g, 0, none⟩) (T.N + 1) cap) ∧ w.heap.size ≤ g ∧ Chs T g w' ∧ Below w.heap.size w w' := by
  refine (chars_any s w (by omega)).mono ?_
  rintro e w' ⟨v, rfl, hrow, hb⟩
  obtain ⟨N, G⟩ := L.good_cx s
  have hl : (L.chars s).length = N + 1 := by rw [chars_cx, List.length_map]; exact G.len
  rcases hrow.2 with ⟨_, h2⟩ | ⟨g, cap, cur, hv, hB, hg, hc, hrest⟩
  · omega
  · subst hv
    have hcells := hrow.cells rfl
    have hlt := (hrow.lt g rfl).2
    refine ⟨⟨s, L.cx s, N, none, 0, 0, 0⟩, g, cap, rfl, rfl, G, by have := G.few; show N ≤ 65536; omega, by rw [hl], hB, ⟨hlt, fun j hj => ?_⟩, hb⟩
    have hjl : j < (L.cx s).length := by have := G.len; show j < _; have hj' : j ≤ N := hj; omega
    have hx : (L.chars s)[j]? = some ⟨(L.g (L.cx s) j).S, (L.g (L.cx s) j).l, (L.g (L.cx s) j).c, (L.g (L.cx s) j).a⟩ := by
      rw [chars_cx, List.getElem?_map, List.getElem?_eq_getElem hjl]
      have : L.g (L.cx s) j = (L.cx s)[j] := by unfold L.g; rw [List.getD_eq_getElem?_getD, List.getElem?_eq_getElem hjl]; rfl
      rw [this]; rfl
    obtain ⟨f0, f1, f2, f3⟩ := L.flat_at _ _ _ hx
    have g0 := hcells (j * 4) _ f0
    have g1 := hcells (j * 4 + 1) _ f1
    have g2 := hcells (j * 4 + 2) _ f2
    have g3 := hcells (j * 4 + 3) _ f3
    rw [addr_add] at g0 g1 g2 g3
    exact ⟨g0, g1, g2, g3⟩
end Go.Proofs.YtnlopepbcnegbaaGreatDoor
set_option linter.unusedVariables false
set_option linter.unusedSimpArgs false
namespace Go.Proofs.YtnlopepbcnegbaaGreatDoor
open Go.RowKit
section
variable {T : Tx} {s : ByteArray}
theorem end_r (G : L.Good s T.C T.N 0 (1, 1)) : (L.g T.C T.N).r = -1 := G.last.1
theorem lt_r (G : L.Good s T.C T.N 0 (1, 1)) {i : Nat} (hi : i ≤ T.N) (h : (T.g i).r ≠ -1) : i < T.N := by
  rcases Nat.lt_or_ge i T.N with y | y
  · exact y
  · obtain rfl : i = T.N := by omega
    exact absurd (end_r G) h
theorem skp_bd (G : L.Good s T.C T.N 0 (1, 1)) (p : Int → Bool) (hp : p (-1) = false) {i : Nat} (hi : i ≤ T.N) : i ≤ T.skp p i ∧ T.skp p i ≤ T.N :=
  L.skp_le T.C p T.N T.N i hi (by rw [end_r G]; exact hp)
theorem skp_stop (p : Int → Bool) {i : Nat} (h : p (T.g i).r = false) : T.skp p i = i := L.skp_no T.C p T.N i h
theorem skp_step (G : L.Good s T.C T.N 0 (1, 1)) (p : Int → Bool) (hp : p (-1) = false) {i : Nat} (hi : i ≤ T.N) (h : p (T.g i).r = true) : i < T.N ∧ T.skp p i = T.skp p (i + 1) := by
  have hlt : i < T.N := lt_r G hi (fun e => by rw [e, hp] at h; cases h)
  refine ⟨hlt, ?_⟩
  have q1 : T.skp p i = L.skp T.C p (T.N - 1) (i + 1) := by
    have := L.skp_yes T.C p (T.N - 1) i h
    rw [show T.N - 1 + 1 = T.N by omega] at this; exact this
  rw [q1]
  exact L.skp_more T.C p T.N (T.N - 1) T.N (i + 1) (by omega) (by rw [end_r G]; exact hp) (by omega) (by omega)
theorem gapL_fuel (G : L.Good s T.C T.N 0 (1, 1)) : ∀ f f' i, i ≤ T.N → T.N < i + f → T.N < i + f' → L.gapL T.C T.N f i = L.gapL T.C T.N f' i := by
  intro f
  induction f with
  | zero => intro f' i h1 h2 h3; omega
  | succ f ih =>
    intro f' i h1 h2 h3
    obtain ⟨f', rfl⟩ : ∃ k, f' = k + 1 := ⟨f' - 1, by omega⟩
    by_cases h : (L.g T.C i).r = 35
    · rw [gapL_yes _ _ _ _ h, gapL_yes _ _ _ _ h]
      obtain ⟨a1, a2⟩ := skp_step G L.inLine rfl h1 (by show L.inLine (L.g T.C i).r = true; rw [h]; rfl)
      have b1 := skp_bd G L.inLine rfl (i := i + 1) (by omega)
      have b2 := skp_bd G L.isBlank rfl (i := T.skp L.inLine (i + 1)) b1.2
      rw [← a2] at b1 b2
      have e : L.skp T.C L.isBlank T.N (L.skp T.C L.inLine T.N i) = T.skp L.isBlank (T.skp L.inLine i) := rfl
      rw [e]
      exact ih f' _ b2.2 (by omega) (by omega)
    · rw [gapL_no _ _ _ _ h, gapL_no _ _ _ _ h]
theorem gap_blank (G : L.Good s T.C T.N 0 (1, 1)) {i : Nat} (hi : i ≤ T.N) (h : L.isBlank (T.g i).r = true) : i < T.N ∧ T.gap (i + 1) = T.gap i := by
  obtain ⟨a1, a2⟩ := skp_step G L.isBlank rfl hi h
  refine ⟨a1, ?_⟩
  unfold Tx.gap
  rw [a2]
theorem gap_note (G : L.Good s T.C T.N 0 (1, 1)) {i : Nat} (hi : i ≤ T.N) (h : (T.g i).r = 35) : i < T.skp L.inLine i ∧ T.gap (T.skp L.inLine i) = T.gap i := by
  obtain ⟨a1, a2⟩ := skp_step G L.inLine rfl hi (by rw [h]; rfl)
  have b1 := skp_bd G L.inLine rfl (i := i + 1) (by omega)
  rw [← a2] at b1
  have b2 := skp_bd G L.isBlank rfl (i := T.skp L.inLine i) b1.2
  refine ⟨by omega, ?_⟩
  have e0 : T.skp L.isBlank i = i := skp_stop _ (by rw [h]; rfl)
  unfold Tx.gap
  rw [e0, gapL_yes _ _ _ _ (show (L.g T.C i).r = 35 from h)]
  have e : L.skp T.C L.isBlank T.N (L.skp T.C L.inLine T.N i) = T.skp L.isBlank (T.skp L.inLine i) := rfl
  rw [e]
  exact gapL_fuel G _ _ _ b2.2 (by omega) (by omega)
theorem gap_stop {i : Nat} (h1 : L.isBlank (T.g i).r = false) (h2 : (T.g i).r ≠ 35) : T.gap i = i := by
  unfold Tx.gap
  rw [skp_stop _ h1]
  exact gapL_no _ _ _ _ h2
theorem gap_leG (G : L.Good s T.C T.N 0 (1, 1)) {i : Nat} (hi : i ≤ T.N) : i ≤ T.gap i ∧ T.gap i ≤ T.N := by
  have b := skp_bd G L.isBlank rfl hi
  have go : ∀ f j, j ≤ T.N → j ≤ L.gapL T.C T.N f j ∧ L.gapL T.C T.N f j ≤ T.N := by
    intro f
    induction f with
    | zero => intro j hj; exact ⟨Nat.le_refl _, hj⟩
    | succ f ih =>
      intro j hj
      by_cases h : (L.g T.C j).r = 35
      · rw [gapL_yes _ _ _ _ h]
        have b1 := skp_bd G L.inLine rfl hj
        have b2 := skp_bd G L.isBlank rfl b1.2
        have := ih _ b2.2
        have e : L.skp T.C L.isBlank T.N (L.skp T.C L.inLine T.N j) = T.skp L.isBlank (T.skp L.inLine j) := rfl
        rw [e]
        omega
      · rw [gapL_no _ _ _ _ h]; exact ⟨Nat.le_refl _, hj⟩
  have := go (T.N + 1) _ b.2
  unfold Tx.gap
  omega
theorem txt_on (hs : T.s = s) (G : L.Good s T.C T.N 0 (1, 1)) {i k : Nat} (hik : i ≤ k) (hk : k < T.N) (ha : (T.g i).a ≤ (T.g k).a) : T.txt i k ++ (T.g k).S = T.txt i (k + 1) := by
  obtain ⟨s1, s2, s3, _⟩ := G.step k hk
  have e : (T.g k).S = s.extract (T.g k).a (T.g (k + 1)).a := s3
  have hw := L.wd_pos s (T.g k).a
  have s1' : (T.g (k + 1)).a = (T.g k).a + L.wd s (T.g k).a := s1
  have s2' : (T.g (k + 1)).a ≤ s.size := s2
  unfold Tx.txt
  rw [hs, e]
  apply ByteArray.ext
  simp only [ByteArray.data_append, ByteArray.data_extract]
  have hd : s.data.size = s.size := rfl
  apply Array.ext'
  simp only [Array.toList_append, Array.toList_extract]
  generalize (T.g i).a = a at *
  generalize (T.g k).a = b at *
  generalize (T.g (k + 1)).a = c at *
  simp only [List.extract_eq_take_drop]
  have hl : s.data.toList.length = s.size := Array.length_toList
  rw [show b - a = b - a from rfl]
  have e3 : (s.data.toList.drop a).take (c - a) = (s.data.toList.drop a).take (b - a) ++ ((s.data.toList.drop a).drop (b - a)).take (c - b) := by
    rw [show c - a = (b - a) + (c - b) by omega, List.take_add]
  rw [e3, List.drop_drop, show a + (b - a) = b by omega]
theorem a_mono (G : L.Good s T.C T.N 0 (1, 1)) {i k : Nat} (hik : i ≤ k) (hk : k ≤ T.N) : (T.g i).a ≤ (T.g k).a := by
  induction k with
  | zero => obtain rfl : i = 0 := by omega
            exact Nat.le_refl _
  | succ k ih =>
    by_cases e : i = k + 1
    · rw [e]; exact Nat.le_refl _
    · have := ih (by omega) (by omega)
      have st : (T.g (k + 1)).a = (T.g k).a + L.wd s (T.g k).a := (G.step k (by omega)).1
      omega
theorem a_le (G : L.Good s T.C T.N 0 (1, 1)) {k : Nat} (hk : k ≤ T.N) : (T.g k).a ≤ s.size := by
  have h1 := a_mono G hk (Nat.le_refl T.N)
  have : (T.g T.N).a = s.size := G.last.2.1
  omega
end
set_option maxRecDepth 100000 in
set_option maxHeartbeats 2000000 in
/-- the document's gap -/
theorem rpassed_any {T : Tx} {s : ByteArray} (G : L.Good s T.C T.N 0 (1, 1)) (hN : T.N ≤ 65536) {g cap i : Nat} {w : World} (hC : Chs T g w) (hi : i ≤ T.N) :
    Calls Tryz.prog 23 #[.slice (some ⟨g, 0, none⟩) (T.N + 1) cap, .int .i64 (i : Int)] w fun e w' => e = .returned (.int .i64 (T.gap i : Int)) ∧ w' = w := by
  have HC := hide' (And.intro hC G)
  obtain ⟨N, hn⟩ : ∃ N, N = T.N := ⟨_, rfl⟩
  have HN := hide' hn
  rw [← hn] at hi hN ⊢
  obtain ⟨J, hJ⟩ : ∃ J, J = T.gap i := ⟨_, rfl⟩
  have HJ := hide' hJ
  rw [← hJ]
  clear hC G hn hJ
  go_enter Tryz.func23, Tryz.ntmps23
  go_wp2_with fail
  go_loopw [1] (fun iv wx => ∃ (j : Nat) (V : World), V = wx ∧ iv = .int .i64 (j : Int) ∧ j ≤ N ∧ T.gap j = J ∧ V = w) (fun iv _ => N + 1 - (intOf iv).toNat)
  case atStart => exact ⟨i, _, rfl, rfl, hi, HJ.out.symm, rfl⟩
  case round =>
    obtain ⟨j, V, rfl, rfl, hj, hg, rfl⟩ := hrel
    have hj' : j ≤ T.N := by rw [← HN.out]; exact hj
    obtain ⟨y0, y1, y2, y3⟩ := HC.out.1.at_ j hj'
    have hR := rl_at HC.out.2 hj'
    have C1 := hide' (fun W => rblank_any (T.g j).S W)
    rw [hR.blank] at C1
    have hjl : (j : Int) < ((N + 1 : Nat) : Int) := Int.ofNat_lt.2 (Nat.lt_succ_of_le hj)
    have ek : wrap64 ((j : Int) + 1) = ((j + 1 : Nat) : Int) := by unfold wrap64; omega
    have Hj := hide' (And.intro hj hj')
    have Hg := hide' hg
    clear y1 y2 y3 hg
    cases hb : L.isBlank (T.g j).r
    · rw [hb] at C1
      by_cases h3 : (T.g j).r = 35
      · obtain ⟨z1, z2⟩ := hR.yes 35 35 rfl (by decide) h3
        have hgn := gap_note HC.out.2 hj' h3
        have Hgn := hide' hgn
        obtain ⟨S, hS⟩ : ∃ S, S = (T.g j).S := ⟨_, rfl⟩
        rw [← hS] at y0 C1 z1 z2
        clear hgn hj' hS hR h3 hb
        go_wp2_with (go_at_call 38; refine (C1.out _).mono ?_; rintro e w5 ⟨rfl, hw5⟩; obtain rfl := hw5.symm)
        clear C1 y0 z1 z2 ek hjl
        go_loopw [1] (fun iv wx => ∃ (k : Nat) (V2 : World), V2 = wx ∧ iv = .int .i64 (k : Int) ∧ k ≤ N ∧ T.skp L.inLine k = T.skp L.inLine j ∧ V2 = V) (fun iv _ => N + 1 - (intOf iv).toNat)
        case atStart => exact ⟨j, _, rfl, rfl, hj, rfl, rfl⟩
        case round =>
          obtain ⟨k, V2, rfl, rfl, hk, hs2, rfl⟩ := hrel
          have hk' : k ≤ T.N := by rw [← HN.out]; exact hk
          obtain ⟨y0, y1, y2, y3⟩ := HC.out.1.at_ k hk'
          have hR := rl_at HC.out.2 hk'
          have hkl : (k : Int) < ((N + 1 : Nat) : Int) := Int.ofNat_lt.2 (Nat.lt_succ_of_le hk)
          have ek : wrap64 ((k : Int) + 1) = ((k + 1 : Nat) : Int) := by unfold wrap64; omega
          have Hk := hide' (And.intro hk hk')
          have Hs2 := hide' hs2
          clear y1 y2 y3 hs2
          by_cases hend : (T.g k).r = -1
          · obtain ⟨z1, z2⟩ := nil_yes HC.out.2 hk' hend
            have hst : T.skp L.inLine k = k := skp_stop _ (by rw [hend]; rfl)
            have Hst := hide' (hst.symm.trans Hs2.out)
            obtain ⟨S, hS⟩ : ∃ S, S = (T.g k).S := ⟨_, rfl⟩
            rw [← hS] at y0 z1 z2
            clear hst hS hR hend hk'
            go_wp2_with fail
            exact ⟨⟨k, _, rfl, rfl, Hk.out.1, by rw [Hst.out, Hgn.out.2]; exact Hg.out, rfl⟩, by show N + 1 - ((k : Int)).toNat < N + 1 - ((j : Int)).toNat; have h1 := Hgn.out.1; have h2 := Hst.out; have h3 := Hk.out.1; clear ek; omega⟩
          · obtain ⟨z1, z2⟩ := nil_no HC.out.2 hk' hend
            by_cases h10 : (T.g k).r = 10
            · obtain ⟨z3, z4⟩ := hR.yes 10 10 rfl (by decide) h10
              have hst : T.skp L.inLine k = k := skp_stop _ (by rw [h10]; rfl)
              have Hst := hide' (hst.symm.trans Hs2.out)
              obtain ⟨S, hS⟩ : ∃ S, S = (T.g k).S := ⟨_, rfl⟩
              rw [← hS] at y0 z1 z2 z3 z4
              clear hst hS hR hend h10 hk'
              go_wp2_with fail
              exact ⟨⟨k, _, rfl, rfl, Hk.out.1, by rw [Hst.out, Hgn.out.2]; exact Hg.out, rfl⟩, by show N + 1 - ((k : Int)).toNat < N + 1 - ((j : Int)).toNat; have h1 := Hgn.out.1; have h2 := Hst.out; have h3 := Hk.out.1; clear ek; omega⟩
            · obtain ⟨z3, z4⟩ := hR.no 10 10 rfl (by decide) h10
              have hst := skp_step HC.out.2 L.inLine rfl hk' (by unfold L.inLine; simp only [Bool.and_eq_true, bne_iff_ne, ne_eq]; exact ⟨h10, hend⟩)
              have Hst := hide' hst
              obtain ⟨S, hS⟩ : ∃ S, S = (T.g k).S := ⟨_, rfl⟩
              rw [← hS] at y0 z1 z2 z3 z4
              clear hst hS hR hend h10 hk'
              go_wp2_with fail
              exact ⟨⟨k + 1, _, rfl, rfl, by rw [HN.out]; exact Hst.out.1, by rw [← Hst.out.2]; exact Hs2.out, rfl⟩, by show N + 1 - (((k + 1 : Nat) : Int)).toNat < N + 1 - ((k : Int)).toNat; have h3 := Hk.out.1; clear ek; omega⟩
      · obtain ⟨z1, z2⟩ := hR.no 35 35 rfl (by decide) h3
        have hst := gap_stop hb h3
        rw [Hg.out] at hst
        have Hst := hide' hst
        obtain ⟨S, hS⟩ : ∃ S, S = (T.g j).S := ⟨_, rfl⟩
        rw [← hS] at y0 C1 z1 z2
        clear hst hj' hS hR h3 hb
        go_wp2_with (go_at_call 38; refine (C1.out _).mono ?_; rintro e w5 ⟨rfl, hw5⟩; obtain rfl := hw5.symm)
        go_ret
        exact ⟨by rw [Hst.out]; rfl, rfl⟩
    · rw [hb] at C1
      have hgb := gap_blank HC.out.2 hj' hb
      have Hgb := hide' hgb
      obtain ⟨S, hS⟩ : ∃ S, S = (T.g j).S := ⟨_, rfl⟩
      rw [← hS] at y0 C1
      clear hgb hj' hS hR hb
      go_wp2_with (go_at_call 38; refine (C1.out _).mono ?_; rintro e w5 ⟨rfl, hw5⟩; obtain rfl := hw5.symm)
      exact ⟨⟨j + 1, _, rfl, rfl, by rw [HN.out]; exact Hgb.out.1, Hgb.out.2.trans Hg.out, rfl⟩, by show N + 1 - (((j + 1 : Nat) : Int)).toNat < N + 1 - ((j : Int)).toNat; have := Hj.out.1; clear ek; omega⟩
end Go.Proofs.YtnlopepbcnegbaaGreatDoor
set_option linter.unusedVariables false
set_option linter.unusedSimpArgs false
namespace Go.Proofs.YtnlopepbcnegbaaGreatDoor
open Go.RowKit
def clsP (pt : Bool) (r : Int) : Bool := L.inWord r || (pt && r == 46)
theorem clsP_eq (pt : Bool) : clsP pt = if pt then L.inRun else L.inWord := by
  funext r
  cases pt
  · simp [clsP]
  · simp [clsP, L.inRun]
theorem txt_size {T : Tx} {s : ByteArray} (hs : T.s = s) (G : L.Good s T.C T.N 0 (1, 1)) {i k : Nat} (hk : k ≤ T.N) : (T.txt i k).size ≤ s.size := by
  have := a_le G hk
  unfold Tx.txt
  rw [hs, ByteArray.size_extract]
  omega
theorem S_size {T : Tx} {s : ByteArray} (G : L.Good s T.C T.N 0 (1, 1)) {k : Nat} (hk : k ≤ T.N) : (T.g k).S.size ≤ s.size := by
  rcases Nat.lt_or_ge k T.N with h | h
  · obtain ⟨s1, s2, s3, _⟩ := G.step k h
    have e : (T.g k).S = s.extract (L.g T.C k).a (L.g T.C (k + 1)).a := s3
    rw [e, ByteArray.size_extract]
    omega
  · obtain rfl : k = T.N := by omega
    have e2 : (T.g T.N).S = ByteArray.empty := G.last.2.2
    rw [e2]; exact Nat.zero_le _
theorem no_over {a b : Nat} (ha : a ≤ 65536) (hb : b ≤ 65536) : ¬ 9223372036854775807 < a + b := by omega
theorem wk1 {k : Nat} (h : k ≤ 65536) : wrap64 ((k : Int) + 1) = ((k + 1 : Nat) : Int) := by unfold wrap64; omega
theorem ms1 {k N : Nat} (h : k ≤ N) : N + 1 - (intOf (.int .i64 ((k : Int) + 1))).toNat < N + 1 - (intOf (.int .i64 (k : Int))).toNat := by
  show N + 1 - ((k : Int) + 1).toNat < N + 1 - ((k : Int)).toNat
  omega
set_option maxRecDepth 100000 in
set_option maxHeartbeats 2000000 in
/-- the document's run -/
theorem rrun_any {T : Tx} {s : ByteArray} (hs : T.s = s) (G : L.Good s T.C T.N 0 (1, 1)) (hN : T.N ≤ 65536) (hz : s.size ≤ 65536) {g cap i : Nat} {w : World} (hC : Chs T g w) (hi : i ≤ T.N) (pt : Bool) :
    Calls Tryz.prog 41 #[.slice (some ⟨g, 0, none⟩) (T.N + 1) cap, .int .i64 (i : Int), .bool pt] w fun e w' => e = .returned (.string (T.txt i (T.skp (clsP pt) i))) ∧ w' = w := by
  have HC := hide' (And.intro hC (And.intro G (And.intro hs hz)))
  obtain ⟨N, hn⟩ : ∃ N, N = T.N := ⟨_, rfl⟩
  have HN := hide' hn
  rw [← hn] at hi hN ⊢
  have hp1 : clsP pt (-1) = false := by cases pt <;> rfl
  have HP := hide' hp1
  have e0 : (ByteArray.empty : ByteArray) = T.txt i i := by
    unfold Tx.txt
    apply ByteArray.ext
    simp [ByteArray.data_extract]
  clear hC G hn hs hz hp1
  go_enter Tryz.func41, Tryz.ntmps41
  go_wp2_with fail
  go_loopw [1, 7] (fun iv sv wx => ∃ (k : Nat) (X : ByteArray) (V : World), V = wx ∧ iv = .int .i64 (k : Int) ∧ sv = .string X ∧ X = T.txt i k ∧ i ≤ k ∧ k ≤ N ∧ T.skp (clsP pt) k = T.skp (clsP pt) i ∧ V = w) (fun iv _ _ => N + 1 - (intOf iv).toNat)
  case atStart => exact ⟨i, _, _, rfl, rfl, rfl, e0, Nat.le_refl _, hi, rfl, rfl⟩
  case round =>
    obtain ⟨k, X, V, rfl, rfl, rfl, hX, hik, hk, hsk, rfl⟩ := hrel
    have hk' : k ≤ T.N := by rw [← HN.out]; exact hk
    obtain ⟨y0, y1, y2, y3⟩ := HC.out.1.at_ k hk'
    have hR := rl_at HC.out.2.1 hk'
    have C1 := hide' (fun W => rletter_any (T.g k).S W)
    have C2 := hide' (fun W => rdigit_any (T.g k).S W)
    rw [hR.letter] at C1
    rw [hR.digit] at C2
    have hkl : (k : Int) < ((N + 1 : Nat) : Int) := Int.ofNat_lt.2 (Nat.lt_succ_of_le hk)
    have hXs : X.size ≤ 65536 := by rw [hX]; exact Nat.le_trans (txt_size HC.out.2.2.1 HC.out.2.1 hk') HC.out.2.2.2
    have hSs : (T.g k).S.size ≤ 65536 := Nat.le_trans (S_size HC.out.2.1 hk') HC.out.2.2.2
    have ov := no_over hXs hSs
    have ek := wk1 (k := k) (by omega)
    have Hgo : Hid (clsP pt (T.g k).r = true → k + 1 ≤ N ∧ X ++ (T.g k).S = T.txt i (k + 1) ∧ T.skp (clsP pt) (k + 1) = T.skp (clsP pt) i) := hide' (fun h => by
      obtain ⟨a1, a2⟩ := skp_step HC.out.2.1 (clsP pt) HP.out hk' h
      refine ⟨by rw [HN.out]; exact a1, ?_, by rw [← a2]; exact hsk⟩
      rw [hX]
      exact txt_on HC.out.2.2.1 HC.out.2.1 hik a1 (a_mono HC.out.2.1 hik hk'))
    have Hst : Hid (clsP pt (T.g k).r = false → X = T.txt i (T.skp (clsP pt) i)) := hide' (fun h => by
      rw [← hsk, skp_stop _ h]; exact hX)
    have Hk := hide' (And.intro hk hik)
    have h45 := hR.one 45 45 rfl (by decide)
    have h46 := hR.one 46 46 rfl (by decide)
    have hcl : clsP pt (T.g k).r = ((L.isLetter (T.g k).r || (L.isDigit (T.g k).r || (T.g k).r == 45)) || (pt && (T.g k).r == 46)) := rfl
    obtain ⟨a1, e1⟩ : ∃ a, a = L.isLetter (T.g k).r := ⟨_, rfl⟩
    obtain ⟨a2, e2⟩ : ∃ a, a = L.isDigit (T.g k).r := ⟨_, rfl⟩
    obtain ⟨a3, e3⟩ : ∃ a, a = ((T.g k).r == 45) := ⟨_, rfl⟩
    obtain ⟨a5, e5⟩ : ∃ a, a = ((T.g k).r == 46) := ⟨_, rfl⟩
    rw [← e1] at C1
    rw [← e2] at C2
    rw [← e3] at h45
    rw [← e5] at h46
    rw [← e1, ← e2, ← e3, ← e5] at hcl
    rw [hcl] at Hgo Hst
    obtain ⟨S, hS⟩ : ∃ S, S = (T.g k).S := ⟨_, rfl⟩
    rw [← hS] at y0 C1 C2 h45 h46 ov Hgo
    clear hcl e1 e2 e3 e5 hS hR y1 y2 y3 hX hik hsk hk' hXs hSs hk e0
    cases a1
    · cases a2
      · cases a3
        · have z1 : ¬ S.toList = [45] := by simpa using h45
          cases pt
          · go_wp2_with (first | (go_at_call 40; refine (C1.out _).mono ?_; rintro e w5 ⟨rfl, hw5⟩; obtain rfl := hw5.symm) | (go_at_call 43; refine (C2.out _).mono ?_; rintro e w5 ⟨rfl, hw5⟩; obtain rfl := hw5.symm))
            go_ret
            exact ⟨by rw [← Hst.out rfl]; rfl, rfl⟩
          · cases a5
            · have z2 : ¬ S.toList = [46] := by simpa using h46
              go_wp2_with (first | (go_at_call 40; refine (C1.out _).mono ?_; rintro e w5 ⟨rfl, hw5⟩; obtain rfl := hw5.symm) | (go_at_call 43; refine (C2.out _).mono ?_; rintro e w5 ⟨rfl, hw5⟩; obtain rfl := hw5.symm))
              go_ret
              exact ⟨by rw [← Hst.out rfl]; rfl, rfl⟩
            · have z2 : S.toList = [46] := by simpa using h46
              go_wp2_with (first | (go_at_call 40; refine (C1.out _).mono ?_; rintro e w5 ⟨rfl, hw5⟩; obtain rfl := hw5.symm) | (go_at_call 43; refine (C2.out _).mono ?_; rintro e w5 ⟨rfl, hw5⟩; obtain rfl := hw5.symm))
              obtain ⟨g1, g2, g3⟩ := Hgo.out rfl
              exact ⟨⟨k + 1, _, _, rfl, rfl, rfl, g2, Nat.le_succ_of_le Hk.out.2, g1, g3, rfl⟩, ms1 Hk.out.1⟩
        · have z1 : S.toList = [45] := by simpa using h45
          go_wp2_with (first | (go_at_call 40; refine (C1.out _).mono ?_; rintro e w5 ⟨rfl, hw5⟩; obtain rfl := hw5.symm) | (go_at_call 43; refine (C2.out _).mono ?_; rintro e w5 ⟨rfl, hw5⟩; obtain rfl := hw5.symm))
          obtain ⟨g1, g2, g3⟩ := Hgo.out (by cases pt <;> rfl)
          exact ⟨⟨k + 1, _, _, rfl, rfl, rfl, g2, Nat.le_succ_of_le Hk.out.2, g1, g3, rfl⟩, ms1 Hk.out.1⟩
      · go_wp2_with (first | (go_at_call 40; refine (C1.out _).mono ?_; rintro e w5 ⟨rfl, hw5⟩; obtain rfl := hw5.symm) | (go_at_call 43; refine (C2.out _).mono ?_; rintro e w5 ⟨rfl, hw5⟩; obtain rfl := hw5.symm))
        obtain ⟨g1, g2, g3⟩ := Hgo.out (by cases pt <;> rfl)
        exact ⟨⟨k + 1, _, _, rfl, rfl, rfl, g2, Nat.le_succ_of_le Hk.out.2, g1, g3, rfl⟩, ms1 Hk.out.1⟩
    · go_wp2_with (first | (go_at_call 40; refine (C1.out _).mono ?_; rintro e w5 ⟨rfl, hw5⟩; obtain rfl := hw5.symm) | (go_at_call 43; refine (C2.out _).mono ?_; rintro e w5 ⟨rfl, hw5⟩; obtain rfl := hw5.symm))
      obtain ⟨g1, g2, g3⟩ := Hgo.out (by cases pt <;> rfl)
      exact ⟨⟨k + 1, _, _, rfl, rfl, rfl, g2, Nat.le_succ_of_le Hk.out.2, g1, g3, rfl⟩, ms1 Hk.out.1⟩
set_option maxHeartbeats 1000000 in
set_option maxRecDepth 100000 in
/-- the document's fault at a character -/
theorem rat_any (code : Int) (S : ByteArray) (l c a : Int) (word : ByteArray) (w : World) :
    Calls Tryz.prog 42 #[.int .i64 code, .agg #[.string S, .int .i64 l, .int .i64 c, .int .i64 a], .string word] w fun e w' => e = .returned (.agg #[.int .i64 code, .int .i64 l, .int .i64 c, .string word]) ∧ Below w.heap.size w w' := by
  go_enter Tryz.func42, Tryz.ntmps42
  go_wp2
  refine bodyPost_ret_by (results_cell_row rfl _ _ (w.heap.size + 1) 25 _ _ _ rfl (by simpa using heap_alloc_new (w.alloc _) _) Tryz.underlying25 rfl (by kernel_rfl)) rfl ?_
  exact ⟨rfl, ((Below.refl _ _).alloc (Nat.le_refl _) _).alloc (by simp) _⟩
end Go.Proofs.YtnlopepbcnegbaaGreatDoor
set_option linter.unusedVariables false
set_option linter.unusedSimpArgs false
namespace Go.Proofs.YtnlopepbcnegbaaGreatDoor
open Go.RowKit
namespace L
theorem allD_yes (t : ByteArray) (h : ∀ j, j < t.size → 48 ≤ bt t j ∧ bt t j ≤ 57) : ∀ f i, allD t f i = true := by
  intro f
  induction f with
  | zero => intro i; rfl
  | succ f ih =>
    intro i
    unfold allD
    split
    · rename_i hi
      obtain ⟨h1, h2⟩ := h i hi
      rw [(rn_lt t i (by omega)).1, ih]
      simp only [isDigit, Bool.and_true, Bool.and_eq_true, decide_eq_true_eq]
      omega
    · rfl
theorem allD_all (t : ByteArray) : ∀ f i, t.size ≤ i + f → allD t f i = true → ∀ j, i ≤ j → j < t.size → 48 ≤ bt t j ∧ bt t j ≤ 57 := by
  intro f
  induction f with
  | zero => intro i h1 h2 j h3 h4; omega
  | succ f ih =>
    intro i h1 h2 j h3 h4
    unfold allD at h2
    rw [if_pos (by omega), Bool.and_eq_true] at h2
    obtain ⟨d, r⟩ := h2
    unfold isDigit at d
    simp only [Bool.and_eq_true, decide_eq_true_eq] at d
    have hb : bt t i < 128 := by
      rcases Nat.lt_or_ge (bt t i) 128 with y | y
      · exact y
      · have := rn_ge t i y; omega
    obtain ⟨r1, r2⟩ := rn_lt t i hb
    rw [r2] at r
    by_cases e : j = i
    · subst e; omega
    · exact ih (i + 1) (by omega) r j (by omega) h4
theorem isNum_eq (S : ByteArray) : isNum S = ((S.toList == [48]) || ((S.toList == [49]) || (decide (3 ≤ S.size) && (decide (S.size ≤ 11) && (decide (bt S 0 = 48) && (decide (bt S 1 = 46) && decide (∀ j, j < S.size → 2 ≤ j → 48 ≤ bt S j ∧ bt S j ≤ 57))))))) := by
  unfold isNum
  by_cases h3 : 3 ≤ S.size
  · have hl : S.data.toList.length = S.size := Array.length_toList
    have hp : Lib.hasPrefix S.data.toList [48, 46] = (decide (bt S 0 = 48) && decide (bt S 1 = 46)) := by
      have e0 := df_bt S 0 (by omega)
      have e1 := df_bt S 1 (by omega)
      have e : ∃ r, S.data.toList = (S[0]'(by omega)) :: (S[1]'(by omega)) :: r := by
        refine ⟨S.data.toList.drop 2, ?_⟩
        rw [← List.drop_zero (l := S.data.toList)]
        rw [List.drop_eq_getElem_cons (by omega), List.drop_eq_getElem_cons (by omega)]
        simp
        exact ⟨rfl, rfl⟩
      obtain ⟨r, e⟩ := e
      rw [e]
      generalize S[0]'(by omega) = x at *
      generalize S[1]'(by omega) = y at *
      have x1 : decide (bt S 0 = 48) = ((48 : UInt8) == x) := by
        rw [Bool.eq_iff_iff, decide_eq_true_eq, beq_iff_eq]
        refine ⟨fun q => UInt8.toNat_inj.1 ?_, fun q => ?_⟩
        · rw [q] at e0; exact_mod_cast e0.symm
        · rw [← q] at e0; exact_mod_cast e0.symm
      have y1 : decide (bt S 1 = 46) = ((46 : UInt8) == y) := by
        rw [Bool.eq_iff_iff, decide_eq_true_eq, beq_iff_eq]
        refine ⟨fun q => UInt8.toNat_inj.1 ?_, fun q => ?_⟩
        · rw [q] at e1; exact_mod_cast e1.symm
        · rw [← q] at e1; exact_mod_cast e1.symm
      rw [x1, y1]
      simp [Lib.hasPrefix, List.isPrefixOf]
    have hz : (S.extract 2 S.size).size = S.size - 2 := by rw [ByteArray.size_extract]; omega
    have hbx : ∀ j, j < S.size - 2 → bt (S.extract 2 S.size) j = bt S (2 + j) := fun j hj => by
      have a := df_bt (S.extract 2 S.size) j (by omega)
      have b := df_bt S (2 + j) (by omega)
      have : (S.extract 2 S.size)[j]'(by omega) = S[2 + j]'(by omega) := by
        show (S.extract 2 S.size).data[j]'_ = S.data[2 + j]'_
        simp [ByteArray.data_extract]
      rw [this] at a
      omega
    have hd : allD (S.extract 2 S.size) (S.size - 2) 0 = decide (∀ j, j < S.size → 2 ≤ j → 48 ≤ bt S j ∧ bt S j ≤ 57) := by
      rw [Bool.eq_iff_iff, decide_eq_true_eq]
      refine ⟨fun h j h1 h2 => ?_, fun h => allD_yes _ (fun j hj => ?_) _ _⟩
      · have := allD_all _ _ 0 (by omega) h (j - 2) (by omega) (by omega)
        rw [hbx _ (by omega), show 2 + (j - 2) = j by omega] at this
        exact this
      · rw [hbx _ (by omega)]; exact h _ (by omega) (by omega)
    rw [hp, hd]
    generalize (S.toList == [48]) = a1
    generalize (S.toList == [49]) = a2
    generalize decide (bt S 0 = 48) = b1
    generalize decide (bt S 1 = 46) = b2
    generalize decide (3 ≤ S.size) = b3
    generalize decide (S.size ≤ 11) = b4
    generalize decide (∀ j, j < S.size → 2 ≤ j → 48 ≤ bt S j ∧ bt S j ≤ 57) = b5
    revert a1 a2 b1 b2 b3 b4 b5
    decide
  · simp [h3]
end L
end Go.Proofs.YtnlopepbcnegbaaGreatDoor
