import Derived.Test.YtkipcdjadmocaaaMks2
set_option linter.unusedVariables false
set_option linter.unusedSimpArgs false
namespace Go.Proofs.Ytkipcdjadmocaaa
open Go.RowKit
theorem turn_below' {S : Nat → Prop} {w w' : World} (b : Below w.heap.size w w') : Turn S w w' := ⟨b.os, b.tape, b.output, b.size, fun k hk _ => b.block k hk⟩
theorem info40 : (Try.prog.info? 40).map (fun i => (i.zero, i.size, i.bytes)) = some (some (.int .i8 0), 1, 1) := by kernel_rfl
/-- the first numbers of a mask -/
def lst (m k : Nat) : List Nat := (List.range k).filter fun i => m.testBit i
def i8s (l : List Nat) : List Value := l.map fun (i : Nat) => Value.int .i8 (i : Int)
theorem lst_yes (m k : Nat) (h : m.testBit k = true) : lst m (k + 1) = lst m k ++ [k] := by simp [lst, List.range_succ, List.filter_append, h]
theorem lst_no (m k : Nat) (h : m.testBit k = false) : lst m (k + 1) = lst m k := by simp [lst, List.range_succ, List.filter_append, h]
theorem lst_len (m k : Nat) : (lst m k).length ≤ k := by
  have := List.length_filter_le (fun i => m.testBit i) (List.range k)
  simpa [lst] using this
theorem idx16 (m k : Nat) (hk : k < 16) (w : World) : (Instr.index 41 (.agg (spr m)) (.int .i64 (k : Int))).run Try.prog w = .ok (.int .i8 (bt m k)) w := by
  have e : (spr m)[k]? = some (.int .i8 (bt m k)) := by
    rcases (by omega : k = 0 ∨ k = 1 ∨ k = 2 ∨ k = 3 ∨ k = 4 ∨ k = 5 ∨ k = 6 ∨ k = 7 ∨ k = 8 ∨ k = 9 ∨ k = 10 ∨ k = 11 ∨ k = 12 ∨ k = 13 ∨ k = 14 ∨ k = 15) with rfl | rfl | rfl | rfl | rfl | rfl | rfl | rfl | rfl | rfl | rfl | rfl | rfl | rfl | rfl | rfl <;> rfl
  have hk' : (k : Int) < 16 := by omega
  simp [Instr.index, run_underlying Try.underlying41, asIntOf, hk', hk]
  exact run_part_plain (P := Try.prog) (e := 40) w (show Try.prog.plainKey 40 = true by kernel_rfl) e
set_option maxHeartbeats 2000000 in
set_option maxRecDepth 100000 in
theorem list_any (m : Nat) (w : World) (hm : m < 65536) : Calls Try.prog 16 #[.int .u16 (m : Nat)] w fun e w' => ∃ t rc, e = .returned (.slice (some ⟨t, 0, none⟩) (lst m 16).length rc) ∧ w'.ownsRow w.heap.size 40 1 (.slice (some ⟨t, 0, none⟩) (lst m 16).length rc) (lst m 16).length (i8s (lst m 16)) ∧ Below w.heap.size w w' := by
  obtain ⟨i0, hi, hz0, hz1, hz2⟩ := info_parts info40
  have Ho := hide' (fun w => ones16_any m w hm)
  have Hs := hide' (fun w => spread_any m w hm)
  have Hx := hide' (fun k hk => idx16 m k hk)
  have Hy := hide' (lst_yes m)
  have Hn := hide' (lst_no m)
  have Hl := hide' (lst_len m)
  generalize hB : w.heap.size = B at *
  have HB := hide' hB
  clear hB
  go_enter Try.func16, Try.ntmps16
  go_wp2_with fail
  refine (Ho.out _).mono ?_
  rintro e w1 ⟨c, hc, rfl, n1, hw1⟩
  have b1 : Below B w w1 := by rw [hw1]; exact below_drewN (Below.refl _ _) n1
  have hs1 : B ≤ w1.heap.size := by rw [hw1, ← HB.out]; exact Nat.le_refl _
  clear hw1
  go_wp2_with (first | (at_make; refine wpList_make_own _ rfl _ _ 42 rfl B 40 i0 (.int .i8 0) 1 Try.underlying42 hi hz0 hz1 .i64 .i64 (c : Int) c rfl rfl rfl (by rw [hz2]; omega) (by unfold maxLen; omega) hs1 ?_; intro w2 hrow2 hgrow2))
  have b2 : Below B w w2 := b1.grown hgrow2 hs1 (fun j hj => by cases hj)
  have hs2 : B ≤ w2.heap.size := Nat.le_trans hs1 hgrow2.size
  refine (Hs.out _).mono ?_
  rintro e w3 ⟨rfl, b3'⟩
  have hrow3 := (turn_below' (S := fun _ => False) b3').row hrow2 (fun g hg q => q)
  have b3 := b2.trans (b3'.mono hs2)
  have hs3 : B ≤ w3.heap.size := Nat.le_trans hs2 b3'.size
  clear hrow2 hgrow2 b3' b2 b1 hs1 hs2
  generalize w1.heap.size = t0 at *
  go_wp2_with fail
  go_loopw [3, 11] (fun v i wx => ∃ (k t rc : Nat), k ≤ 16 ∧ i = .int .i64 (k : Int) ∧ v = .slice (some ⟨t, 0, none⟩) (lst m k).length rc ∧ wx.ownsRow B 40 1 (.slice (some ⟨t, 0, none⟩) (lst m k).length rc) (lst m k).length (i8s (lst m k)) ∧ Below B w wx ∧ B ≤ wx.heap.size) (fun _ i _ => 16 - (intOf i).toNat)
  case atStart => exact ⟨0, t0, c, by omega, rfl, rfl, hrow3, b3, hs3⟩
  case round =>
    clear hrow3 b3 hs3
    obtain ⟨k, t, rc, hk, rfl, rfl, hrow, bk, hsk⟩ := hrel
    have hlen := Hl.out k
    by_cases hlt : k < 16
    · have hlt' : (k : Int) < 16 := by omega
      have hix := Hx.out k hlt
      cases hb : m.testBit k
      · have hl2 := Hn.out k hb
        have hbt : bt m k = 0 := by simp [bt, hb]
        rw [hbt] at hix
        have Hl2 := hide' hl2
        clear hl2 hbt hb
        go_wp2
        exact ⟨⟨k + 1, t, rc, by omega, by go_num, by rw [Hl2.out], by rw [Hl2.out]; exact hrow, bk, hsk⟩, by simp [intOf]; omega⟩
      · have hl2 := Hy.out k hb
        have hbt : bt m k = 1 := by simp [bt, hb]
        rw [hbt] at hix
        have Hl2 := hide' hl2
        have hw8 : IntKind.i8.wrap (k : Int) = (k : Int) := by simp [IntKind.wrap, IntKind.signed, IntKind.bits]; omega
        have hrB := own_ge hrow
        generalize hL : lst m k = L at *
        have HL := hide' hL
        clear hl2 hbt hb hL
        go_wp2_with (first | (at_builtin; refine wpList_append_lies _ rfl _ _ 42 rfl B 40 i0 (.int .i8 0) 1 1 Try.underlying42 hi hz0 hz1 hz2 rfl (by decide) _ _ _ rfl (hrow.alloc _) ⟨wr.heap.size, 0, none⟩ 1 1 [.int .i8 (k : Int)] rfl rfl (cell_one_new _ _ _) (by simp [Value.oneCell']) (by decide) (by unfold maxLen; omega) (by omega) (by simp; omega) (wr.heap.size + 1) (by simp) ?_; intro g3 rc' w3 hrow3 hgrow3 hat3 hlt3))
        have b3 : Below B w w3 := bk.grown ((World.grownBy_alloc wr _ _).trans hgrow3) hsk hrB
        have hs3 : B ≤ w3.heap.size := Nat.le_trans hsk (Nat.le_trans (by simp) hgrow3.size)
        have hlq : (lst m (k + 1)).length = L.length + 1 := by rw [Hl2.out]; simp
        have hiq : i8s (lst m (k + 1)) = i8s L ++ [.int .i8 (k : Int)] := by rw [Hl2.out]; simp [i8s]
        exact ⟨⟨k + 1, g3, rc', by omega, by go_num, by rw [hlq], by rw [hlq, hiq]; exact hrow3, b3, hs3⟩, by simp [intOf]; omega⟩
    · have hk16 : k = 16 := by omega
      subst hk16
      go_wp2
      go_ret
      exact ⟨t, rc, rfl, hrow, bk⟩
end Go.Proofs.Ytkipcdjadmocaaa
