import GoSem.Core.Utf8
import Derived.Lib.DecodeN
import Derived.Lib.Strings
import Derived.Test.YtppcofopnelgjaaGreatDoorLeaf
import Derived.Test.YtppcofopnelgjaaGreatDoorShelf
import Derived.Laws.RangeAny
import Derived.Laws.DeepStrings4
import Derived.LoopTactic
import Derived.Test.YtppcofopnelgjaaGreatDoorGap
set_option linter.unusedVariables false
set_option linter.unusedSimpArgs false
namespace Go.Proofs.YtppcofopnelgjaaGreatDoor
namespace N

def ctl (r : Int) : Bool := decide (r < 32) || (decide (127 ≤ r) && decide (r ≤ 159))
def beg (c : Int) : Bool := (decide (97 ≤ c) && decide (c ≤ 122)) || (decide (65 ≤ c) && decide (c ≤ 90)) || c == 95
def fol (c : Int) : Bool := beg c || (decide (48 ≤ c) && decide (c ≤ 57)) || c == 45

/-- the character at a place, and its bytes, as ranging over the text has them -/
def rn (s : ByteArray) (i : Nat) : Int := ((Utf8.decode s i).1 : Nat)
def wd (s : ByteArray) (i : Nat) : Nat := (Utf8.decode s i).2
/-- no character stands there -/
def non (s : ByteArray) (i : Nat) : Bool := rn s i == 65533 && wd s i == 1
/-- what a name may not have stands there -/
def bad (s : ByteArray) (i : Nat) : Bool := ctl (rn s i) || non s i
def scan (s : ByteArray) : Nat → Nat → Bool
  | 0, _ => true
  | f + 1, i => if i < s.size then (!bad s i) && scan s f (i + wd s i) else true
def valid (s : ByteArray) : Bool := decide (1 ≤ s.size) && decide (s.size ≤ 32) && scan s s.size 0

theorem scan_end (s : ByteArray) (f i : Nat) (h : ¬ i < s.size) : scan s f i = true := by
  cases f with
  | zero => rfl
  | succ f => simp [scan, h]

theorem wd_pos (s : ByteArray) (i : Nat) : 1 ≤ wd s i := by
  unfold wd Utf8.decode
  simp only
  repeat' split
  all_goals omega

theorem rn_le (s : ByteArray) (i : Nat) : 0 ≤ rn s i ∧ rn s i ≤ 1114111 := by
  unfold rn
  rw [Lib.decode_at]
  have h0 := (s.get! i).toNat_lt
  have h1 := (s.get! (i + 1)).toNat_lt
  have h2 := (s.get! (i + 2)).toNat_lt
  have h3 := (s.get! (i + 3)).toNat_lt
  generalize (s.get! i).toNat = b0 at *
  generalize (s.get! (i + 1)).toNat = b1 at *
  generalize (s.get! (i + 2)).toNat = b2 at *
  generalize (s.get! (i + 3)).toNat = b3 at *
  unfold Lib.decodeN
  repeat' split
  all_goals simp only
  all_goals omega

theorem scan_no (s : ByteArray) (f i : Nat) (h : i < s.size) (hf : s.size ≤ i + f) (hb : bad s i = true) : scan s f i = false := by
  cases f with
  | zero => omega
  | succ f => simp [scan, h, hb]

theorem scan_go (s : ByteArray) (f i : Nat) (h : i < s.size) (hf : s.size ≤ i + f) (hb : bad s i = false) : ∃ g, scan s f i = scan s g (i + wd s i) ∧ s.size ≤ i + wd s i + g := by
  cases f with
  | zero => omega
  | succ f => exact ⟨f, by simp [scan, h, hb], by have := wd_pos s i; omega⟩

theorem decN_pre (n b0 b1 b2 b3 : Nat) (h0 : b0 < 256) (h1 : b1 < 256) (h2 : b2 < 256) (h3 : b3 < 256) (hr : (Lib.decodeN n b0 b1 b2 b3).1 = 65533) :
    (Lib.decodeN n b0 b1 b2 b3).2 = 1 ↔ ¬ (3 ≤ n ∧ b0 = 239 ∧ b1 = 191 ∧ b2 = 189) := by
  revert hr
  unfold Lib.decodeN
  repeat' split
  all_goals simp only
  all_goals intro hr
  all_goals constructor
  all_goals first | omega | (intros; trivial)

theorem get_list (s : ByteArray) (i : Nat) (h : i < s.size) : s.data.toList[i]? = some (s.get! i) := by
  have h' : i < s.data.size := h
  show s.data.toList[i]? = some s.data[i]!
  rw [getElem!_pos s.data i h']
  simp

theorem pre_iff (s : ByteArray) (i : Nat) (h : i < s.size) :
    Lib.hasPrefix (s.data.toList.drop i) [239, 191, 189] = true ↔ (3 ≤ s.size - i ∧ (s.get! i).toNat = 239 ∧ (s.get! (i + 1)).toNat = 191 ∧ (s.get! (i + 2)).toNat = 189) := by
  have hl : s.data.toList.length = s.size := Array.length_toList
  have e0 := get_list s i h
  have u : ∀ (a : UInt8) (n : Nat), n < 256 → ((UInt8.ofNat n == a) = true ↔ a.toNat = n) := by
    intro a n hn
    rw [beq_iff_eq]
    constructor
    · intro e; rw [← e]; simp; omega
    · intro e; rw [← e]; simp
  by_cases h1 : i + 1 < s.size
  · have e1 := get_list s (i + 1) h1
    by_cases h2 : i + 2 < s.size
    · have e2 := get_list s (i + 2) h2
      have hd : s.data.toList.drop i = s.get! i :: s.get! (i + 1) :: s.get! (i + 2) :: s.data.toList.drop (i + 3) := by
        rw [List.drop_eq_getElem_cons (by omega), List.drop_eq_getElem_cons (by omega), List.drop_eq_getElem_cons (by omega)]
        rw [List.getElem?_eq_getElem (by omega)] at e0 e1 e2
        simp only [Option.some.injEq] at e0 e1 e2
        rw [e0, e1, e2]
      rw [hd]
      simp only [Lib.hasPrefix, List.isPrefixOf, Bool.and_eq_true, Bool.and_true]
      have a0 := u (s.get! i) 239 (by omega)
      have a1 := u (s.get! (i + 1)) 191 (by omega)
      have a2 := u (s.get! (i + 2)) 189 (by omega)
      have a0' : ((239 : UInt8) == s.get! i) = true ↔ (s.get! i).toNat = 239 := a0
      have a1' : ((191 : UInt8) == s.get! (i + 1)) = true ↔ (s.get! (i + 1)).toNat = 191 := a1
      have a2' : ((189 : UInt8) == s.get! (i + 2)) = true ↔ (s.get! (i + 2)).toNat = 189 := a2
      rw [a0', a1', a2']
      constructor
      · rintro ⟨x, y, z⟩; exact ⟨by omega, x, y, z⟩
      · rintro ⟨_, x, y, z⟩; exact ⟨x, y, z⟩
    · constructor
      · intro hp
        have := List.IsPrefix.length_le (List.isPrefixOf_iff_prefix.1 hp)
        simp at this
        omega
      · omega
  · constructor
    · intro hp
      have := List.IsPrefix.length_le (List.isPrefixOf_iff_prefix.1 hp)
      simp at this
      omega
    · omega

/-- U+FFFD written out, against a byte that belongs to none -/
theorem non_pre (s : ByteArray) (i : Nat) (h : i < s.size) (hr : rn s i = 65533) : non s i = !Lib.hasPrefix (s.data.toList.drop i) [239, 191, 189] := by
  have hp := pre_iff s i h
  unfold rn at hr
  have hd := decN_pre (s.size - i) (s.get! i).toNat (s.get! (i + 1)).toNat (s.get! (i + 2)).toNat (s.get! (i + 3)).toNat (s.get! i).toNat_lt (s.get! (i + 1)).toNat_lt (s.get! (i + 2)).toNat_lt (s.get! (i + 3)).toNat_lt
  rw [← Lib.decode_at] at hd
  have hd' := hd (by omega)
  rw [← hp] at hd'
  unfold non rn wd
  rw [Bool.eq_iff_iff]
  simp only [Bool.and_eq_true, beq_iff_eq, Bool.not_eq_true', Bool.not_eq_true] at hd' ⊢
  rw [hd']
  constructor
  · rintro ⟨_, x⟩; exact x
  · intro x; exact ⟨hr, x⟩
theorem non_rn (s : ByteArray) (i : Nat) (hr : rn s i ≠ 65533) : non s i = false := by
  simp [non, hr]

/-! ### keywords -/
end N
end Go.Proofs.YtppcofopnelgjaaGreatDoor
set_option linter.unusedVariables false
set_option linter.unusedSimpArgs false
namespace Go.Proofs.YtppcofopnelgjaaGreatDoor
open Go.RowKit
set_option maxHeartbeats 400000 in
theorem isControl_any (r : Int) (w : World) :
    Calls Tryz.prog 146 #[.int .i32 r] w fun e w' => e = .returned (.bool (N.ctl r)) ∧ w' = w := by
  by_cases h1 : r < 32
  · go_enter Tryz.func146, Tryz.ntmps146
    go_wp2
    go_ret
    exact ⟨ret_bool (by simp [N.ctl, h1]), rfl⟩
  · by_cases h2 : 127 ≤ r
    · by_cases h3 : r ≤ 159
      all_goals
        go_enter Tryz.func146, Tryz.ntmps146
        go_wp2
        go_ret
        exact ⟨ret_bool (by simp [N.ctl, h1, h2, h3]), rfl⟩
    · go_enter Tryz.func146, Tryz.ntmps146
      go_wp2
      go_ret
      exact ⟨ret_bool (by simp [N.ctl]; omega), rfl⟩

set_option maxHeartbeats 400000 in
theorem startsWith_any (s : ByteArray) (w : World) :
    Calls Tryz.prog 147 #[.string s] w fun e w' => e = .returned (.bool (Lib.hasPrefix s.data.toList [239, 191, 189])) ∧ w' = w := by
  go_enter Tryz.func147, Tryz.ntmps147
  go_wp2_with (go_at_call 154; refine (sh.strings_HasPrefix _ _ _).mono ?_; rintro e w' ⟨rfl, rfl⟩)
  go_ret
  exact ⟨rfl, rfl⟩

theorem below_iter (w : World) (s : ByteArray) (pos : Nat) : Below w.heap.size w (w.iter s pos) := (Below.refl _ _).alloc (Nat.le_refl _) _

set_option maxRecDepth 100000 in
set_option maxHeartbeats 1000000 in
theorem valid_any (s : ByteArray) (w : World) (hs : s.size ≤ maxLen) :
    Calls Tryz.prog 140 #[.string s] w fun e w' => e = .returned (.bool (N.valid s)) ∧ Below w.heap.size w w' := by
  unfold maxLen at hs
  by_cases h1 : s.size < 1
  · go_enter Tryz.func140, Tryz.ntmps140
    go_wp2
    go_ret
    exact ⟨ret_bool (by simp [N.valid]; omega), Below.refl _ _⟩
  by_cases h2 : 32 < s.size
  · go_enter Tryz.func140, Tryz.ntmps140
    go_wp2
    go_ret
    exact ⟨ret_bool (by simp [N.valid]; omega), Below.refl _ _⟩
  have hv : N.valid s = N.scan s s.size 0 := by simp [N.valid]; omega
  have Hv : Hid (N.valid s = N.scan s s.size 0) := hv
  clear hv
  have g1 : decide ((s.size : Int) < 1) = false := by simp; omega
  have g2 : decide ((32 : Int) < (s.size : Int)) = false := by simp; omega
  go_enter Tryz.func140, Tryz.ntmps140
  go_wp2
  go_loopw [3] (fun _ w' => ∃ (pos f : Nat), w' = w.iter s pos ∧ N.scan s f pos = N.scan s s.size 0 ∧ s.size ≤ pos + f) (fun _ w' => s.size - w'.iterPos w.heap.size)
  case atStart => exact ⟨0, s.size, rfl, rfl, by omega⟩
  case round =>
    obtain ⟨pos, f, rfl, hc, hf⟩ := hrel
    have Hc : Hid (N.scan s f pos = N.scan s s.size 0) := hc
    clear hc
    by_cases hp : pos < s.size
    · have hnx : ∀ ty, (Instr.next (.pointer (some ⟨w.heap.size, 0, none⟩)) true ty).run Tryz.prog (w.iter s pos) = .ok (.tuple #[.bool true, .int .i64 pos, .int .i32 (N.rn s pos)]) (w.iter s (pos + N.wd s pos)) := fun ty => run_next_any w s pos ty hp
      by_cases hk : N.ctl (N.rn s pos) = true
      · go_wp2_with (go_at_call 146; refine (isControl_any _ _).mono ?_; rintro e w' ⟨rfl, rfl⟩)
        go_ret
        exact ⟨ret_bool (by rw [Hv.out, ← Hc.out, N.scan_no s f pos hp hf (by simp [N.bad, hk])]), below_iter _ _ _⟩
      · have hk' : N.ctl (N.rn s pos) = false := by simpa using hk
        by_cases he : N.rn s pos = 65533
        · have he' : (N.rn s pos == 65533) = true := by simpa using he
          have hn := N.non_pre s pos hp he
          have Hn : Hid (N.non s pos = !Lib.hasPrefix (List.take (s.size - pos) (s.data.toList.drop pos)) [239, 191, 189]) := by
            rw [List.take_of_length_le (by rw [List.length_drop, Array.length_toList]; exact Nat.le_refl _)]; exact hn
          clear hn he hk
          go_wp2_with (first | (go_at_call 146; refine (isControl_any _ _).mono ?_; rintro e w' ⟨rfl, rfl⟩) | (go_at_call 147; refine (startsWith_any _ _).mono ?_; rintro e w' ⟨rfl, rfl⟩))
          · have hx : N.non s pos = true := by rw [Hn.out]; assumption
            go_ret
            exact ⟨ret_bool (by rw [Hv.out, ← Hc.out, N.scan_no s f pos hp hf (by simp [N.bad, hx])]), below_iter _ _ _⟩
          · have hx : N.non s pos = false := by rw [Hn.out]; assumption
            obtain ⟨g, hg1, hg2⟩ := N.scan_go s f pos hp hf (by simp [N.bad, hk', hx])
            have hw := N.wd_pos s pos
            exact ⟨⟨_, g, rfl, by rw [← hg1]; exact Hc.out, hg2⟩, by simp; omega⟩
        · have he' : (N.rn s pos == 65533) = false := by simpa using he
          have hx : N.non s pos = false := N.non_rn s pos he
          have Hx : Hid (N.non s pos = false) := hx
          clear hx hk he
          go_wp2_with (first | (go_at_call 146; refine (isControl_any _ _).mono ?_; rintro e w' ⟨rfl, rfl⟩) | (go_at_call 147; refine (startsWith_any _ _).mono ?_; rintro e w' ⟨rfl, rfl⟩))
          obtain ⟨g, hg1, hg2⟩ := N.scan_go s f pos hp hf (by simp [N.bad, hk', Hx.out])
          have hw := N.wd_pos s pos
          exact ⟨⟨_, g, rfl, by rw [← hg1]; exact Hc.out, hg2⟩, by simp; omega⟩
    · have hnx : ∀ ty, (Instr.next (.pointer (some ⟨w.heap.size, 0, none⟩)) true ty).run Tryz.prog (w.iter s pos) = _ := fun ty => run_next_end w s pos ty hp
      go_wp2
      go_ret
      exact ⟨ret_bool (by rw [Hv.out, ← Hc.out, N.scan_end s f pos hp]), below_iter _ _ _⟩
end Go.Proofs.YtppcofopnelgjaaGreatDoor
set_option linter.unusedVariables false
set_option linter.unusedSimpArgs false
namespace Go.Proofs.YtppcofopnelgjaaGreatDoor
open Go.RowKit
theorem below2 (w : World) (o1 o2 : Obj) : Below w.heap.size w ((w.alloc o1).alloc o2) := ((Below.refl _ _).alloc (Nat.le_refl _) _).alloc (by simp) _
theorem after2' {w w1 : World} {o1 o2 : Obj} (t : Below ((w.alloc o1).alloc o2).heap.size ((w.alloc o1).alloc o2) w1) :
    w1.heap[w.heap.size]? = some o1 ∧ w1.heap[w.heap.size + 1]? = some o2 ∧ w.heap.size + 2 ≤ w1.heap.size ∧ Below w.heap.size w w1 := by
  have := t.size
  refine ⟨?_, ?_, by simpa using this, (below2 w o1 o2).trans (t.mono (by simp; omega))⟩
  · rw [t.block _ (by simp; omega)]
    exact (Below.heap_alloc _ _ _ (by simp)).trans (heap_alloc_new _ _)
  · rw [t.block _ (by simp)]
    have := heap_alloc_new (w.alloc o1) o2
    simpa using this
theorem Below.set4' {w w' : World} (h : Below w.heap.size w w') {g : Nat} (hg : w.heap.size ≤ g) (a b c d : Value) :
    Below w.heap.size w ((((w'.setCell ⟨g, 0, none⟩ a).setCell ⟨g, 1, none⟩ b).setCell ⟨g, 2, none⟩ c).setCell ⟨g, 3, none⟩ d) :=
  (((h.setCell (p := ⟨g, 0, none⟩) hg _).setCell (p := ⟨g, 1, none⟩) hg _).setCell (p := ⟨g, 2, none⟩) hg _).setCell (p := ⟨g, 3, none⟩) hg _
/-- a quoted name's end -/
def QN (l c : Int) (t : ByteArray) (w : World) (v : Value) (w' : World) : Prop :=
  if N.valid t then v = .tuple #[tokV 2 t l c, .pointer none] else ∃ fb, v = .tuple #[tokV 0 ByteArray.empty 0 0, .pointer (some ⟨fb, 0, none⟩)] ∧ w.heap.size ≤ fb ∧ Flt fb 10 l c t w'

set_option maxRecDepth 100000 in
set_option maxHeartbeats 1000000 in
theorem quotedName_any (l c : Int) (t : ByteArray) (w : World) (ht : t.size ≤ maxLen) :
    Calls Tryz.prog 127 #[.agg #[.int .i64 l, .int .i64 c], .string t] w fun e w' => ∃ v, e = .returned v ∧ QN l c t w v w' ∧ Below w.heap.size w w' := by
  have HV := hide' fun w => valid_any t w ht
  unfold QN
  cases hv : N.valid t
  · rw [hv] at HV
    go_enter Tryz.func127, Tryz.ntmps127
    go_wp2_with (first | (go_at_call 140; refine (HV.out _).mono ?_; rintro e w1 ⟨rfl, b1⟩; obtain ⟨h0, h1, hz1, b1'⟩ := after2' b1; obtain ⟨p0, p1⟩ := two_cells h0; have K := hide' (And.intro (Tk.of_cells h1) b1'); clear h0 h1 b1 b1') | (go_at_call 103; refine (pfault_any _ _ _ _ _).mono ?_; rintro e w2 ⟨fb, rfl, hfb, hflt, b2⟩; have k2 := K.out.1.below b2; have kc0 := k2.c0; have kc1 := k2.c1; have kc2 := k2.c2; have kc3 := k2.c3; obtain ⟨z0, z1, z2, z3⟩ := k2.frz; have K2 := hide' (And.intro k2 (And.intro hflt b2)); clear k2 hflt b2))
    refine bodyPost_ret_by (results4 rfl _ _ (w.heap.size + 1) _ _ _ _ rfl (K2.out.1.set _ _ _ _)) rfl ?_
    refine ⟨_, rfl, ?_, Below.set4' (K.out.2.trans (K2.out.2.2.mono (by omega))) (by omega) _ _ _ _⟩
    try rw [if_neg (by simp)]
    have hne : fb ≠ w.heap.size + 1 := by omega
    exact ⟨fb, rfl, by omega, ((Below.heap_setCell _ _ _ _ hne).trans ((Below.heap_setCell _ _ _ _ hne).trans ((Below.heap_setCell _ _ _ _ hne).trans (Below.heap_setCell _ _ _ _ hne)))).trans K2.out.2.1⟩
  · rw [hv] at HV
    go_enter Tryz.func127, Tryz.ntmps127
    go_wp2_with (first | (go_at_call 140; refine (HV.out _).mono ?_; rintro e w1 ⟨rfl, b1⟩; obtain ⟨h0, h1, hz1, b1'⟩ := after2' b1; obtain ⟨p0, p1⟩ := two_cells h0; have K := hide' (And.intro (Tk.of_cells h1) b1'); clear h0 h1 b1 b1') | (go_at_call 95; refine (ptoken_any _ _ _ _ _).mono ?_; rintro e w2 ⟨rfl, b2⟩; have k2 := K.out.1.below b2; have kc0 := k2.c0; have kc1 := k2.c1; have kc2 := k2.c2; have kc3 := k2.c3; obtain ⟨z0, z1, z2, z3⟩ := k2.frz; have K2 := hide' (And.intro k2 b2); clear k2 b2; unfold tokV))
    refine bodyPost_ret_by (results4 rfl _ _ (w.heap.size + 1) _ _ _ _ rfl (K2.out.1.set _ _ _ _)) rfl ?_
    refine ⟨_, rfl, ?_, Below.set4' (K.out.2.trans (K2.out.2.mono (by omega))) (by omega) _ _ _ _⟩
    first | rfl | (rw [if_pos rfl]; rfl)
end Go.Proofs.YtppcofopnelgjaaGreatDoor
