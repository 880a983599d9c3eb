import Derived.Test.YtkipcdjadmocaaaTurn
import Derived.Test.YtkipcdjadmocaaaBitP
import Derived.Test.YtkipcdjadmocaaaRows
import Derived.WalkKit
import Derived.WalkLawsBesides
import Derived.WalkSpells
import Derived.Laws.BitsAllLaws
import Derived.Outline
import Derived.BigQuiet
import Derived.Deep.QuietTactic
import Derived.OwnWalk
import Derived.Deep.RegionHeld3
set_option linter.unusedVariables false
set_option linter.unusedSimpArgs false
namespace Go.Proofs.Ytkipcdjadmocaaa
open Go.RowKit
theorem hide' {p : Prop} (h : p) : Hid p := h
theorem ret_bool {a b : Bool} (h : a = b) : Ending.returned (.bool a) = .returned (.bool b) := by rw [h]
theorem ret_int {k : IntKind} {a b : Int} (h : a = b) : Ending.returned (.int k a) = .returned (.int k b) := by rw [h]

/-- so many words -/
def nw (room : Nat) : Nat := (room + 255) / 256 * 4
def rowOf (p : Nat → Bool) (n : Nat) : Array Value := (Array.range n).map fun j => Value.int .u64 (B.wd p j : Nat)
/-- BLOCK x IS A SET OF THAT ROOM THAT HOLDS p, its words lie in block g -/
structure Bs (x g room : Nat) (p : Nat → Bool) (w : World) : Prop where
  hx : w.heap[x]? = some (.cells #[.int .i64 (room : Nat), .slice (some ⟨g, 0, none⟩) (nw room) (nw room)] 70 (0, 0))
  hg : w.heap[g]? = some (.cells (rowOf p (nw room)) 63 (0, 0))
  out : ∀ i, room ≤ i → p i = false
  le : room ≤ 65536
theorem Bs.ne {x g room : Nat} {p : Nat → Bool} {w : World} (h : Bs x g room p w) : x ≠ g := by
  intro e
  have h1 := h.hx
  rw [e, h.hg] at h1
  simp at h1
theorem Bs.ltx {x g room : Nat} {p : Nat → Bool} {w : World} (h : Bs x g room p w) : x < w.heap.size := (Array.getElem?_eq_some_iff.1 h.hx).1
theorem Bs.ltg {x g room : Nat} {p : Nat → Bool} {w : World} (h : Bs x g room p w) : g < w.heap.size := (Array.getElem?_eq_some_iff.1 h.hg).1
theorem Bs.kept {S : Nat → Prop} {x g room : Nat} {p : Nat → Bool} {w w' : World} (h : Bs x g room p w) (t : Turn S w w') (h1 : ¬ S x) (h2 : ¬ S g) : Bs x g room p w' :=
  ⟨(t.block x h.ltx h1).trans h.hx, (t.block g h.ltg h2).trans h.hg, h.out, h.le⟩
theorem Bs.drewN {x g room : Nat} {p : Nat → Bool} {w : World} (h : Bs x g room p w) (n : Nat) : Bs x g room p (w.drewN n) := ⟨h.hx, h.hg, h.out, h.le⟩
theorem Bs.c0 {x g room : Nat} {p : Nat → Bool} {w : World} (h : Bs x g room p w) : w.cell? ⟨x, 0, none⟩ = some (.int .i64 (room : Nat)) := by rw [Lib.cell_of_heap h.hx]; rfl
theorem Bs.c1 {x g room : Nat} {p : Nat → Bool} {w : World} (h : Bs x g room p w) : w.cell? ⟨x, 1, none⟩ = some (.slice (some ⟨g, 0, none⟩) (nw room) (nw room)) := by rw [Lib.cell_of_heap h.hx]; rfl
theorem rowOf_at (p : Nat → Bool) (n j : Nat) (h : j < n) : (rowOf p n)[j]? = some (.int .u64 (B.wd p j : Nat)) := by simp [rowOf, h]
theorem Bs.cw {x g room : Nat} {p : Nat → Bool} {w : World} (h : Bs x g room p w) (j : Nat) (hj : j < nw room) : w.cell? ⟨g, j, none⟩ = some (.int .u64 (B.wd p j : Nat)) := by
  rw [Lib.cell_of_heap h.hg]; exact rowOf_at p _ j hj
theorem Bs.fw {x g room : Nat} {p : Nat → Bool} {w : World} (h : Bs x g room p w) (j : Nat) : w.frozen? ⟨g, j, none⟩ = false := Lib.frozen_of_heap h.hg j
theorem nw_le {room : Nat} (h : room ≤ 65536) : nw room ≤ 1024 := by unfold nw; omega
theorem nw_lt {room i : Nat} (h : i < room) : i / 64 < nw room := by unfold nw; omega
/-- one word is written: the set holds something else there -/
theorem Bs.put {x g room : Nat} {p p' : Nat → Bool} {w : World} (h : Bs x g room p w) (j : Nat) (hj : j < nw room) (he : ∀ k, k ≠ j → B.wd p' k = B.wd p k) (ho : ∀ i, room ≤ i → p' i = false) (u : Nat) (hu : u = B.wd p' j) :
    Bs x g room p' (w.setCell ⟨g, j, none⟩ (.int .u64 (u : Nat))) := by
  rw [hu]
  clear hu
  have e : (rowOf p (nw room)).setIfInBounds j (.int .u64 (B.wd p' j : Nat)) = rowOf p' (nw room) := by
    apply Array.ext_getElem?
    intro k
    rw [Array.getElem?_setIfInBounds]
    by_cases hk : j = k
    · subst hk; rw [rowOf_at p' _ _ hj]; simp [rowOf, hj]
    · by_cases hk2 : k < nw room
      · rw [rowOf_at p' _ _ hk2, rowOf_at p _ _ hk2, he k (fun q => hk q.symm)]; simp [hk]
      · simp [rowOf, hk, hk2]
  refine ⟨?_, ?_, ho, h.le⟩
  · rw [Below.heap_setCell _ _ _ _ (fun q => h.ne q)]; exact h.hx
  · have hh := h.hg
    rw [← e]
    simp [World.setCell, Array.getElem?_modify, hh]

theorem wrap_pow (k : Nat) (h : k < 64) : IntKind.u64.wrap (2 ^ k) = ((2 ^ k : Nat) : Int) := by
  have h1 : (2 : Nat) ^ k < 2 ^ 64 := Nat.pow_lt_pow_right (by omega) h
  rw [show (2 : Int) ^ k = ((2 ^ k : Nat) : Int) by simp, IntKind.wrap_u64]
  generalize (2 : Nat) ^ k = q at *
  omega
set_option maxHeartbeats 1000000 in
theorem bitOf_any (i : Nat) (w : World) (hi : i ≤ 65536) : Calls Try.prog 53 #[.int .i64 (i : Nat)] w fun e w' => e = .returned (.int .u64 (2 ^ (i % 64) : Nat)) ∧ w' = w := by
  have hw := wrap_pow (i % 64) (by omega)
  have Hw := hide' hw
  clear hw
  go_enter Try.func53, Try.ntmps53
  go_wp2
  go_ret
  exact ⟨ret_int Hw.out, rfl⟩
set_option maxHeartbeats 1000000 in
theorem fits_any (x g room : Nat) (p : Nat → Bool) (i : Int) (w : World) (h : Bs x g room p w) : Calls Try.prog 52 #[.pointer (some ⟨x, 0, none⟩), .int .i64 i] w fun e w' => e = .returned (.bool (decide (0 ≤ i ∧ i < (room : Int)))) ∧ w' = w := by
  have c0 := h.c0
  by_cases h0 : 0 ≤ i
  · go_enter Try.func52, Try.ntmps52
    go_wp2
    go_ret
    exact ⟨ret_bool (by simp [h0]), rfl⟩
  · go_enter Try.func52, Try.ntmps52
    go_wp2
    go_ret
    exact ⟨ret_bool (by simp; omega), rfl⟩
theorem m1 : B.msk 85 8 = 6148914691236517205 := by decide
theorem m2 : B.msk 51 8 = 3689348814741910323 := by decide
theorem m3 : B.msk 15 8 = 1085102592571150095 := by decide
theorem and_mask (a m : Nat) (ha : a < 18446744073709551616) (hm : m < 18446744073709551616) : bits .and .u64 (a : Int) (m : Int) = ((a &&& m : Nat) : Int) := bits_and_u64_nat a m ha hm
theorem u64_small (a : Nat) (h : a < 18446744073709551616) : IntKind.u64.wrap (a : Int) = (a : Int) := by rw [IntKind.wrap_u64]; omega
theorem st1 (n : Nat) (hn : n < 18446744073709551616) : IntKind.u64.wrap (bits .and .u64 ((n : Int) / 2) 6148914691236517205 + bits .and .u64 (n : Int) 6148914691236517205) = (B.f1 8 n : Nat) := by
  unfold B.f1
  rw [m1, show ((n : Int) / 2) = ((n / 2 : Nat) : Int) by omega]
  rw [show (6148914691236517205 : Int) = ((6148914691236517205 : Nat) : Int) by rfl, and_mask _ _ (by omega) (by omega), and_mask _ _ hn (by omega)]
  have l1 : n / 2 &&& 6148914691236517205 ≤ 6148914691236517205 := Nat.and_le_right
  have l2 : n &&& 6148914691236517205 ≤ 6148914691236517205 := Nat.and_le_right
  rw [← Int.natCast_add]
  exact u64_small _ (by omega)
theorem st2 (n : Nat) (hn : n < 18446744073709551616) : IntKind.u64.wrap (bits .and .u64 ((n : Int) / 4) 3689348814741910323 + bits .and .u64 (n : Int) 3689348814741910323) = (B.f2 8 n : Nat) := by
  unfold B.f2
  rw [m2, show ((n : Int) / 4) = ((n / 4 : Nat) : Int) by omega]
  rw [show (3689348814741910323 : Int) = ((3689348814741910323 : Nat) : Int) by rfl, and_mask _ _ (by omega) (by omega), and_mask _ _ hn (by omega)]
  have l1 : n / 4 &&& 3689348814741910323 ≤ 3689348814741910323 := Nat.and_le_right
  have l2 : n &&& 3689348814741910323 ≤ 3689348814741910323 := Nat.and_le_right
  rw [← Int.natCast_add]
  exact u64_small _ (by omega)
theorem f1_lt (n : Nat) : B.f1 8 n < 18446744073709551616 := by
  unfold B.f1
  rw [m1]
  have l1 : n / 2 &&& 6148914691236517205 ≤ 6148914691236517205 := Nat.and_le_right
  have l2 : n &&& 6148914691236517205 ≤ 6148914691236517205 := Nat.and_le_right
  omega
theorem f2_lt (n : Nat) : B.f2 8 n ≤ 7378697629483820646 := by
  unfold B.f2
  rw [m2]
  have l1 : n / 4 &&& 3689348814741910323 ≤ 3689348814741910323 := Nat.and_le_right
  have l2 : n &&& 3689348814741910323 ≤ 3689348814741910323 := Nat.and_le_right
  omega
theorem st3 (n : Nat) (hn : n ≤ 7378697629483820646) : bits .and .u64 ((n : Int) / 16 + (n : Int)) 1085102592571150095 = (B.f3 8 n : Nat) := by
  unfold B.f3
  rw [m3, show ((n : Int) / 16 + (n : Int)) = ((n / 16 + n : Nat) : Int) by omega]
  rw [show (1085102592571150095 : Int) = ((1085102592571150095 : Nat) : Int) by rfl, and_mask _ _ (by omega) (by omega)]
theorem st4 (y a : Nat) (m : Nat) (h : a = y + y / m) (ha : a < 9223372036854775808) : IntKind.u64.wrap ((y : Int) + (y : Int) / (m : Int)) = (a : Int) := by
  rw [show (y : Int) + (y : Int) / (m : Int) = ((y + y / m : Nat) : Int) by simp, ← h]
  exact u64_small _ (by omega)
theorem and127 (c : Nat) (hc : c < 9223372036854775808) : bits .and .i64 (c : Int) 127 = ((c % 128 : Nat) : Int) := by
  have h1 : (BitVec.ofInt 64 (c : Int)).toNat = c := by
    rw [BitVec.ofInt_natCast, BitVec.toNat_ofNat]; exact Nat.mod_eq_of_lt (by omega)
  show IntKind.i64.wrap ((BitVec.ofInt 64 (c : Int) &&& BitVec.ofInt 64 127).toNat : Int) = _
  rw [BitVec.toNat_and, h1, show (BitVec.ofInt 64 127).toNat = 2 ^ 7 - 1 by rfl, Nat.and_two_pow_sub_one_eq_mod, IntKind.wrap_i64]
  omega
set_option maxHeartbeats 1000000 in
theorem ones64_any (n : Nat) (w : World) (hn : n < 18446744073709551616) : Calls Try.prog 54 #[.int .u64 (n : Nat)] w fun e w' => e = .returned (.int .i64 (B.pop 64 n : Nat)) ∧ w' = w := by
  obtain ⟨a, b, c, ha, hb, hc, hp, hl⟩ := B.sum_eight n
  have e1 := st1 n hn
  have l1 := f1_lt n
  have e2 := st2 _ l1
  have l2 := f2_lt (B.f1 8 n)
  have e3 := st3 _ l2
  unfold B.g at ha
  generalize B.f1 8 n = a1 at *
  generalize B.f2 8 a1 = a2 at *
  generalize B.f3 8 a2 = a3 at *
  generalize B.pop 64 n = pp at *
  have e4 := st4 a3 a 256 ha (by omega)
  have e5 := st4 a b 65536 hb (by omega)
  have e6 := st4 b c 4294967296 hc hl
  have e7 := and127 c hl
  rw [hp] at e7
  clear ha hb hc hp
  simp only [show ((256 : Nat) : Int) = 256 from rfl, show ((65536 : Nat) : Int) = 65536 from rfl, show ((4294967296 : Nat) : Int) = 4294967296 from rfl] at e4 e5 e6
  go_enter Try.func54, Try.ntmps54
  go_wp2
  go_ret
  exact ⟨rfl, rfl⟩
/-- is the number in? -/
def hasB (p : Nat → Bool) (i : Int) : Bool := decide (0 ≤ i) && p i.toNat
theorem bit_ne (p : Nat → Bool) (i : Nat) : (bits .and .u64 (B.wd p (i / 64) : Nat) ((2 ^ (i % 64) : Nat) : Int) != 0) = p i := by
  have hl : (2 : Nat) ^ (i % 64) < 18446744073709551616 := by
    have : (2 : Nat) ^ (i % 64) < 2 ^ 64 := Nat.pow_lt_pow_right (by omega) (Nat.mod_lt _ (by omega))
    simpa using this
  rw [and_mask _ _ (B.wd_lt p _) hl]
  have hb : (B.wd p (i / 64)).testBit (i % 64) = p i := by
    rw [B.wd_bit, show 64 * (i / 64) + i % 64 = i by omega]
    simp [Nat.mod_lt]
  rw [← hb]
  cases ht : (B.wd p (i / 64)).testBit (i % 64)
  · have : B.wd p (i / 64) &&& 2 ^ (i % 64) = 0 := by
      apply Nat.eq_of_testBit_eq
      intro k
      rw [Nat.testBit_and, Nat.testBit_two_pow, Nat.zero_testBit]
      by_cases hk : i % 64 = k
      · subst hk; simp [ht]
      · simp [hk]
    rw [this]; rfl
  · have : (B.wd p (i / 64) &&& 2 ^ (i % 64)).testBit (i % 64) = true := by
      rw [Nat.testBit_and, Nat.testBit_two_pow, ht]; simp
    have hne : B.wd p (i / 64) &&& 2 ^ (i % 64) ≠ 0 := fun q => by rw [q, Nat.zero_testBit] at this; cases this
    generalize B.wd p (i / 64) &&& 2 ^ (i % 64) = z at *
    simp; omega
set_option maxHeartbeats 1000000 in
set_option maxRecDepth 100000 in
theorem has_any (x g room : Nat) (p : Nat → Bool) (i : Int) (w : World) (h : Bs x g room p w) : Calls Try.prog 26 #[.pointer (some ⟨x, 0, none⟩), .int .i64 i] w fun e w' => e = .returned (.bool (hasB p i)) ∧ ∃ n, w' = w.drewN n := by
  have c0 := h.c0
  have c1 := h.c1
  have hle := h.le
  have H := hide' h
  have hf := fun w h => fits_any x g room p i w h
  by_cases hin : 0 ≤ i ∧ i < (room : Int)
  · obtain ⟨k, rfl⟩ : ∃ k : Nat, i = (k : Int) := ⟨i.toNat, by omega⟩
    have hk : k < room := by omega
    have hd : decide (0 ≤ (k : Int) ∧ (k : Int) < (room : Int)) = true := by simpa using hin
    rw [hd] at hf
    have hj := nw_lt hk
    have cw := h.cw (k / 64) hj
    have hnl := nw_le hle
    have hb := bit_ne p k
    have hbt := fun w => bitOf_any k w (by omega)
    have hr : hasB p (k : Int) = p k := by simp [hasB]
    rw [hr]
    generalize B.wd p (k / 64) = z at *
    generalize (2 : Nat) ^ (k % 64) = y at *
    have Hf := hide' hf
    have Hbt := hide' hbt
    clear hf hbt hr hd h hin
    generalize p k = r at *
    generalize nw room = n at *
    have hj' : (k : Int) / 64 < (n : Int) := by omega
    go_enter Try.func26, Try.ntmps26
    go_wp2
    go_quiet ((first | (go_at_call 52; exact Calls.quiet_of_same (Hf.out _ (H.out.drewN _))) | (go_at_call 53; exact Calls.quiet_of_same (Hbt.out _))))
    go_wp2
    go_ret
    exact ⟨rfl, nq, rfl⟩
  · have hd : decide (0 ≤ i ∧ i < (room : Int)) = false := by simpa using hin
    rw [hd] at hf
    have hr : hasB p i = false := by
      unfold hasB
      by_cases h0 : 0 ≤ i
      · rw [h.out i.toNat (by omega)]; simp
      · simp [h0]
    rw [hr]
    have Hf := hide' hf
    clear hf hr hd h hin
    go_enter Try.func26, Try.ntmps26
    go_wp2
    go_quiet ((go_at_call 52; exact Calls.quiet_of_same (Hf.out _ (H.out.drewN _))))
    go_wp2
    go_ret
    exact ⟨rfl, nq, rfl⟩
/-- a number is put in, or taken out -/
def put (p : Nat → Bool) (i : Nat) (b : Bool) : Nat → Bool := fun k => if k = i then b else p k
theorem put_wd (p : Nat → Bool) (i : Nat) (b : Bool) (j : Nat) (h : j ≠ i / 64) : B.wd (put p i b) j = B.wd p j := by
  apply Nat.eq_of_testBit_eq
  intro k
  rw [B.wd_bit, B.wd_bit]
  by_cases hk : k < 64
  · simp only [put]
    rw [if_neg (by omega)]
  · simp [hk]
theorem put_or (p : Nat → Bool) (i : Nat) : B.wd p (i / 64) ||| 2 ^ (i % 64) = B.wd (put p i true) (i / 64) := by
  apply Nat.eq_of_testBit_eq
  intro k
  rw [Nat.testBit_or, Nat.testBit_two_pow, B.wd_bit, B.wd_bit]
  by_cases hk : k < 64
  · simp only [put, hk, decide_true, Bool.true_and]
    by_cases he : i % 64 = k
    · rw [if_pos (by omega)]; simp [he]
    · rw [if_neg (by omega)]; simp [he]
  · simp [hk]; omega
theorem put_andNot (p : Nat → Bool) (i : Nat) : B.wd p (i / 64) &&& (18446744073709551615 - 2 ^ (i % 64)) = B.wd (put p i false) (i / 64) := by
  have hm : i % 64 < 64 := Nat.mod_lt _ (by omega)
  have h2 : (2 : Nat) ^ (i % 64) < 2 ^ 64 := Nat.pow_lt_pow_right (by omega) hm
  apply Nat.eq_of_testBit_eq
  intro k
  rw [Nat.testBit_and, show 18446744073709551615 - 2 ^ (i % 64) = 2 ^ 64 - (2 ^ (i % 64) + 1) by omega, Nat.testBit_two_pow_sub_succ h2, Nat.testBit_two_pow, B.wd_bit, B.wd_bit]
  by_cases hk : k < 64
  · simp only [put, hk, decide_true, Bool.true_and]
    by_cases he : i % 64 = k
    · rw [if_pos (by omega)]; simp [he]
    · rw [if_neg (by omega)]; simp [he]
  · simp [hk]
theorem put_out {p : Nat → Bool} {room i : Nat} {b : Bool} (h : ∀ k, room ≤ k → p k = false) (hi : i < room) : ∀ k, room ≤ k → put p i b k = false := by
  intro k hk
  simp only [put]
  rw [if_neg (by omega)]; exact h k hk
theorem or_u64 (a m : Nat) (ha : a < 18446744073709551616) (hm : m < 18446744073709551616) : bits .or .u64 (a : Int) (m : Int) = ((a ||| m : Nat) : Int) := u64_or_nat a m ha hm
theorem pow_lt (i : Nat) : (2 : Nat) ^ (i % 64) < 18446744073709551616 := by
  have : (2 : Nat) ^ (i % 64) < 2 ^ 64 := Nat.pow_lt_pow_right (by omega) (Nat.mod_lt _ (by omega))
  simpa using this
set_option maxHeartbeats 1000000 in
set_option maxRecDepth 100000 in
theorem add_yes (x g room : Nat) (p : Nat → Bool) (k : Nat) (w : World) (h : Bs x g room p w) (hk : k < room) (hp : p k = false) : Calls Try.prog 28 #[.pointer (some ⟨x, 0, none⟩), .int .i64 (k : Nat)] w fun e w' => e = .returned (.bool true) ∧ Bs x g room (put p k true) w' ∧ Turn (fun j => j = g) w w' := by
  have hle := h.le
  have H := hide' h
  have Hf := hide' (fun w h => fits_any x g room p (k : Int) w h)
  have hd : decide (0 ≤ (k : Int) ∧ (k : Int) < (room : Int)) = true := by simp; omega
  rw [hd] at Hf
  have Hh := hide' (fun w h => has_any x g room p (k : Int) w h)
  have hr : hasB p (k : Int) = false := by simp [hasB, hp]
  rw [hr] at Hh
  have hj := nw_lt hk
  have hnl := nw_le hle
  have hb := or_u64 _ _ (B.wd_lt p (k / 64)) (pow_lt k)
  have Hbt := hide' (fun w => bitOf_any k w (by omega))
  have Hput := hide' (fun (w : World) (h : Bs x g room p w) (u : Nat) hu => h.put (p' := put p k true) (k / 64) hj (fun j hj => put_wd p k true j hj) (put_out h.out hk) u hu)
  have Hpo := hide' (put_or p k)
  have Hc := hide' (fun (w : World) (h : Bs x g room p w) => And.intro h.c1 (And.intro (h.cw _ hj) (h.fw (k / 64))))
  generalize B.wd p (k / 64) = z at *
  generalize (2 : Nat) ^ (k % 64) = y at *
  clear hr hd h
  generalize nw room = n at *
  have hq : (k : Int) / 64 = ((k / 64 : Nat) : Int) := by omega
  generalize k / 64 = j at *
  have hj1 : (j : Int) < (n : Int) := by omega
  have hq2 : (k : Int).tdiv 64 = (j : Int) := by rw [Int.tdiv_eq_ediv_of_nonneg (by omega)]; exact hq
  have hq3 : IntKind.i64.wrap (j : Int) = (j : Int) := by rw [IntKind.wrap_i64]; omega
  go_enter Try.func28, Try.ntmps28
  go_wp2_with (first | (go_at_call 52; refine (Hf.out _ H.out).mono ?_; rintro e w1 ⟨rfl, hw1⟩; replace hw1 := hw1.symm; subst hw1) | (go_at_call 26; refine (Hh.out _ H.out).mono ?_; rintro e w2 ⟨rfl, n2, hw2⟩; have H2 := hide' (H.out.drewN n2); rw [← hw2] at H2; have t2 : Turn (fun j => j = g) w w2 := (by rw [hw2]; exact (Turn.refl _ w).drewN n2); obtain ⟨c1, cw, fw⟩ := Hc.out _ H2.out; clear hw2))
  go_region_with (go_at_call 53; refine (Hbt.out _).mono ?_; rintro e w1 ⟨rfl, hw1⟩; replace hw1 := hw1.symm; subst hw1)
  all_goals
    go_wp2
    go_ret
    exact ⟨rfl, (Hput.out _ H2.out _ Hpo.out).drewN 1, (t2.setCell (p := ⟨g, j, none⟩) (fun _ => rfl) _).drew⟩
set_option maxHeartbeats 1000000 in
set_option maxRecDepth 100000 in
theorem add_no (x g room : Nat) (p : Nat → Bool) (i : Int) (w : World) (h : Bs x g room p w) (hn : ¬ (0 ≤ i ∧ i < (room : Int)) ∨ hasB p i = true) : Calls Try.prog 28 #[.pointer (some ⟨x, 0, none⟩), .int .i64 i] w fun e w' => e = .returned (.bool false) ∧ ∃ n, w' = w.drewN n := by
  have H := hide' h
  have Hf := hide' (fun w h => fits_any x g room p i w h)
  have Hh := hide' (fun w h => has_any x g room p i w h)
  clear h
  by_cases hin : 0 ≤ i ∧ i < (room : Int)
  · have hr : hasB p i = true := by
      rcases hn with q | q
      · exact absurd hin q
      · exact q
    have hd : decide (0 ≤ i ∧ i < (room : Int)) = true := by simpa using hin
    rw [hd] at Hf
    rw [hr] at Hh
    clear hr hd hn hin
    go_enter Try.func28, Try.ntmps28
    go_wp2_with (first | (go_at_call 52; refine (Hf.out _ H.out).mono ?_; rintro e w1 ⟨rfl, hw1⟩; replace hw1 := hw1.symm; subst hw1) | (go_at_call 26; refine (Hh.out _ H.out).mono ?_; rintro e w2 ⟨rfl, n2, hw2⟩))
    go_ret
    exact ⟨rfl, n2, rfl⟩
  · have hd : decide (0 ≤ i ∧ i < (room : Int)) = false := by simpa using hin
    rw [hd] at Hf
    clear hd hn hin
    go_enter Try.func28, Try.ntmps28
    go_wp2_with (first | (go_at_call 52; refine (Hf.out _ H.out).mono ?_; rintro e w1 ⟨rfl, hw1⟩; replace hw1 := hw1.symm; subst hw1))
    go_ret
    exact ⟨rfl, 0, rfl⟩
set_option maxHeartbeats 1000000 in
set_option maxRecDepth 100000 in
theorem drop_no (x g room : Nat) (p : Nat → Bool) (i : Int) (w : World) (h : Bs x g room p w) (hn : hasB p i = false) : Calls Try.prog 27 #[.pointer (some ⟨x, 0, none⟩), .int .i64 i] w fun e w' => e = .returned (.bool false) ∧ ∃ n, w' = w.drewN n := by
  have H := hide' h
  have Hh := hide' (fun w h => has_any x g room p i w h)
  rw [hn] at Hh
  clear h hn
  go_enter Try.func27, Try.ntmps27
  go_wp2_with (go_at_call 26; refine (Hh.out _ H.out).mono ?_; rintro e w2 ⟨rfl, n2, hw2⟩)
  go_ret
  exact ⟨rfl, n2, rfl⟩
theorem andNot_u64 (a m : Nat) (ha : a < 18446744073709551616) (hm : m < 18446744073709551616) : bits .andNot .u64 (a : Int) (m : Int) = ((a &&& (18446744073709551615 - m) : Nat) : Int) := u64_andNot_nat a m ha hm
set_option maxHeartbeats 1000000 in
set_option maxRecDepth 100000 in
theorem drop_yes (x g room : Nat) (p : Nat → Bool) (k : Nat) (w : World) (h : Bs x g room p w) (hp : p k = true) : Calls Try.prog 27 #[.pointer (some ⟨x, 0, none⟩), .int .i64 (k : Nat)] w fun e w' => e = .returned (.bool true) ∧ Bs x g room (put p k false) w' ∧ Turn (fun j => j = g) w w' := by
  have hk : k < room := by
    rcases Nat.lt_or_ge k room with q | q
    · exact q
    · rw [h.out k q] at hp; cases hp
  have hle := h.le
  have H := hide' h
  have Hh := hide' (fun w h => has_any x g room p (k : Int) w h)
  have hr : hasB p (k : Int) = true := by simp [hasB, hp]
  rw [hr] at Hh
  have hj := nw_lt hk
  have hnl := nw_le hle
  have hb := andNot_u64 _ _ (B.wd_lt p (k / 64)) (pow_lt k)
  have Hbt := hide' (fun w => bitOf_any k w (by omega))
  have Hput := hide' (fun (w : World) (h : Bs x g room p w) (u : Nat) hu => h.put (p' := put p k false) (k / 64) hj (fun j hj => put_wd p k false j hj) (put_out h.out hk) u hu)
  have Hpo := hide' (put_andNot p k)
  have Hc := hide' (fun (w : World) (h : Bs x g room p w) => And.intro h.c1 (And.intro (h.cw _ hj) (h.fw (k / 64))))
  generalize B.wd p (k / 64) = z at *
  generalize (2 : Nat) ^ (k % 64) = y at *
  generalize hzz : z &&& (18446744073709551615 - y) = zz at *
  clear hr h hzz
  generalize nw room = n at *
  have hq : (k : Int) / 64 = ((k / 64 : Nat) : Int) := by omega
  generalize k / 64 = j at *
  have hj1 : (j : Int) < (n : Int) := by omega
  have hq2 : (k : Int).tdiv 64 = (j : Int) := by rw [Int.tdiv_eq_ediv_of_nonneg (by omega)]; exact hq
  have hq3 : IntKind.i64.wrap (j : Int) = (j : Int) := by rw [IntKind.wrap_i64]; omega
  go_enter Try.func27, Try.ntmps27
  go_wp2_with (go_at_call 26; refine (Hh.out _ H.out).mono ?_; rintro e w2 ⟨rfl, n2, hw2⟩; have H2 := hide' (H.out.drewN n2); rw [← hw2] at H2; have t2 : Turn (fun j => j = g) w w2 := (by rw [hw2]; exact (Turn.refl _ w).drewN n2); obtain ⟨c1, cw, fw⟩ := Hc.out _ H2.out; clear hw2)
  go_region_with (go_at_call 53; refine (Hbt.out _).mono ?_; rintro e w1 ⟨rfl, hw1⟩; replace hw1 := hw1.symm; subst hw1)
  all_goals
    go_wp2
    go_ret
    exact ⟨rfl, (Hput.out _ H2.out _ Hpo.out).drewN 1, (t2.setCell (p := ⟨g, j, none⟩) (fun _ => rfl) _).drew⟩
end Go.Proofs.Ytkipcdjadmocaaa
