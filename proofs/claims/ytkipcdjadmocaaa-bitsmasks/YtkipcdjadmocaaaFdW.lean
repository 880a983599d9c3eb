import Derived.Test.YtkipcdjadmocaaaFdP
set_option linter.unusedVariables false
set_option linter.unusedSimpArgs false
namespace Go.Proofs.Ytkipcdjadmocaaa
open Go.RowKit
namespace Fd
theorem size41 (a : Nat → Int) : (Try.prog.info? 41).map (·.size) = some (agg16 a).size := by rw [agg_size]; kernel_rfl
set_option maxHeartbeats 4000000 in
set_option maxRecDepth 100000 in
theorem folded_any (a : Nat → Int) (w : World) : Calls Try.prog 22 #[.agg (agg16 a)] w fun e w' => e = .returned (.bool true) ∧ Below w.heap.size w w' := by
  obtain ⟨m, hm⟩ : ∃ m, m = mb (fun i => !decide (a i = 0)) := ⟨_, rfl⟩
  have HF := hide' (fun W => rfold a W)
  have HG : Hid (∀ W b, Bk W b a → _) := hide' (fun W b (h : Bk W b a) => fold h)
  rw [← hm] at HF HG
  clear hm
  obtain ⟨C, hC⟩ : ∃ C, C = w.heap.size := ⟨_, rfl⟩
  obtain ⟨w1, hw1⟩ : ∃ w1, w1 = w.alloc (.cells (agg16 a) 41) := ⟨_, rfl⟩
  have B1 : Hid (Bk w1 C a ∧ Below w.heap.size w w1) := hide' ⟨by rw [hw1, hC]; exact heap_alloc_new w _, by rw [hw1]; exact (Below.refl _ _).alloc (Nat.le_refl _) _⟩
  have Hw := hide' (And.intro hC hw1)
  clear hC hw1
  go_enter Try.func22, Try.ntmps22
  go_wp2_with (with_reducible refine stay_load 41 _ rfl ?_)
  unfold Stay
  rw [← Hw.out.1, ← Hw.out.2]
  refine wpList_load_row rfl 41 _ rfl C rfl 41 (agg16 a) (0, 0) _ B1.out.1 Try.underlying41 rfl (size41 a) ?_
  go_wp2_with fail
  refine (HF.out _).mono ?_
  rintro e w2 ⟨rfl, b2⟩
  have B2 := hide' (And.intro (B1.out.1.below b2) (B1.out.2.trans (b2.mono B1.out.2.size)))
  clear b2 B1
  go_wp2_with (with_reducible refine stay_load 41 _ rfl ?_)
  unfold Stay
  refine wpList_load_row rfl 41 _ rfl C rfl 41 (agg16 a) (0, 0) _ B2.out.1 Try.underlying41 rfl (size41 a) ?_
  simp only [Act.put, List.setIfInBounds_toArray, List.set_cons_zero, List.set_cons_succ]
  refine wpList_alloc_row (by kernel_rfl) 41 rfl (agg16 (fun _ => 0)) (zero41 _) ?_
  simp only [Act.put, List.setIfInBounds_toArray, List.set_cons_zero, List.set_cons_succ]
  refine wpList_store_row rfl 41 _ _ rfl w2.heap.size (agg16 a) rfl rfl 41 (agg16 (fun _ => 0)) (heap_alloc_new w2 _) (size41 a) rfl (agg_one a) ?_
  rw [World.setRow_alloc_new]
  obtain ⟨q, hq⟩ : ∃ q, q = w2.heap.size := ⟨_, rfl⟩
  obtain ⟨w3, hw3⟩ : ∃ w3, w3 = w2.alloc (.cells (agg16 a) 41) := ⟨_, rfl⟩
  have B3 : Hid (Bk w3 q a ∧ Bk w3 C a ∧ Below w.heap.size w w3 ∧ w.heap.size ≤ q) := hide' ⟨by rw [hw3, hq]; exact heap_alloc_new w2 _, B2.out.1.below (by rw [hw3]; exact (Below.refl _ _).alloc (Nat.le_refl _) _), by rw [hw3]; exact B2.out.2.alloc B2.out.2.size _, by rw [hq]; exact B2.out.2.size⟩
  rw [← hq, ← hw3]
  clear hq hw3 B2
  go_wp2_with fail
  refine (HG.out _ _ B3.out.1).mono ?_
  rintro e w4 ⟨rfl, n4, hw4⟩
  have B4 : Hid (Bk w4 q a ∧ Bk w4 C a ∧ Below w.heap.size w w4 ∧ w.heap.size ≤ q) := hide' (by rw [hw4]; exact ⟨B3.out.1, B3.out.2.1, below_drewN B3.out.2.2.1 n4, B3.out.2.2.2⟩)
  clear hw4 B3
  go_wp2_with fail
  refine (HG.out _ _ B4.out.1).mono ?_
  rintro e w5 ⟨rfl, n5, hw5⟩
  have B5 : Hid (Bk w5 q a ∧ Bk w5 C a ∧ Below w.heap.size w w5 ∧ w.heap.size ≤ q) := hide' (by rw [hw5]; exact ⟨B4.out.1, B4.out.2.1, below_drewN B4.out.2.2.1 n5, B4.out.2.2.2⟩)
  clear hw5 B4
  go_wp2_with (with_reducible refine stay_load 41 _ rfl ?_)
  unfold Stay
  refine wpList_load_row rfl 41 _ rfl q rfl 41 (agg16 a) (0, 0) _ B5.out.1 Try.underlying41 rfl (size41 a) ?_
  simp only [Act.put, List.setIfInBounds_toArray, List.set_cons_zero, List.set_cons_succ]
  refine wpList_load_row rfl 41 _ rfl C rfl 41 (agg16 a) (0, 0) _ B5.out.2.1 Try.underlying41 rfl (size41 a) ?_
  have he := eq16 a w5
  go_wp2_with fail
  clear he
  go_loopw [8] (fun i wx => ∃ (k : Nat) (c : Nat → Int), i = .int .i64 (k : Int) ∧ k ≤ 16 ∧ Bk wx q c ∧ Below w.heap.size w wx) (fun i _ => 16 - (intOf i).toNat)
  case atStart => exact ⟨0, a, rfl, by omega, B5.out.1, B5.out.2.2.1⟩
  case round =>
    obtain ⟨k, c, rfl, hk, hB, hb⟩ := hrel
    have Hq : Hid (w.heap.size ≤ q) := hide' B5.out.2.2.2
    have HB := hide' (And.intro hB hb)
    clear B5 hb
    by_cases hlt : k < 16
    · have hlt' : (k : Int) < 16 := by omega
      have hc := hB.cell hlt
      have hf := Lib.frozen_of_heap hB k
      have Hlt := hide' hlt
      clear hB
      by_cases h0 : c k = 0
      · rw [h0] at hc
        clear h0
        go_wp2
        exact ⟨⟨k + 1, _, by go_num, Hlt.out, HB.out.1.put Hlt.out _, HB.out.2.setCell Hq.out _⟩, by simp [intOf]; have := Hlt.out; omega⟩
      · go_wp2
        exact ⟨⟨k + 1, _, by go_num, Hlt.out, HB.out.1.put Hlt.out _, HB.out.2.setCell Hq.out _⟩, by simp [intOf]; have := Hlt.out; omega⟩
    · obtain rfl : k = 16 := by omega
      have hlt' : ¬ ((16 : Nat) : Int) < 16 := by omega
      obtain ⟨m2, hm2⟩ : ∃ m2, m2 = mb (fun i => !decide (c i = 0)) := ⟨_, rfl⟩
      have HF2 := hide' (fun W => rfold c W)
      have HG2 : Hid (∀ W b, Bk W b c → _) := hide' (fun W b (h : Bk W b c) => fold h)
      rw [← hm2] at HF2 HG2
      clear hm2 hB
      go_wp2_with (with_reducible refine stay_load 41 _ rfl ?_)
      unfold Stay
      refine wpList_load_row rfl 41 _ rfl q rfl 41 (agg16 c) (0, 0) _ HB.out.1 Try.underlying41 rfl (size41 c) ?_
      simp only [Act.put, List.setIfInBounds_toArray, List.set_cons_zero, List.set_cons_succ]
      refine wpList_alloc_row (by kernel_rfl) 41 rfl (agg16 (fun _ => 0)) (zero41 _) ?_
      simp only [Act.put, List.setIfInBounds_toArray, List.set_cons_zero, List.set_cons_succ]
      refine wpList_store_row rfl 41 _ _ rfl wr.heap.size (agg16 c) rfl rfl 41 (agg16 (fun _ => 0)) (heap_alloc_new wr _) (size41 c) rfl (agg_one c) ?_
      rw [World.setRow_alloc_new]
      obtain ⟨p, hp⟩ : ∃ p, p = wr.heap.size := ⟨_, rfl⟩
      obtain ⟨w6, hw6⟩ : ∃ w6, w6 = wr.alloc (.cells (agg16 c) 41) := ⟨_, rfl⟩
      have B6 : Hid (Bk w6 q c ∧ Bk w6 p c ∧ Below w.heap.size w w6) := hide' ⟨HB.out.1.below (by rw [hw6]; exact (Below.refl _ _).alloc (Nat.le_refl _) _), by rw [hw6, hp]; exact heap_alloc_new wr _, by rw [hw6]; exact HB.out.2.alloc HB.out.2.size _⟩
      rw [← hp, ← hw6]
      clear hp hw6 HB
      go_wp2_with fail
      refine (HG2.out _ _ B6.out.1).mono ?_
      rintro e w7 ⟨rfl, n7, hw7⟩
      have B7 : Hid (Bk w7 q c ∧ Bk w7 p c ∧ Below w.heap.size w w7) := hide' (by rw [hw7]; exact ⟨B6.out.1, B6.out.2.1, below_drewN B6.out.2.2 n7⟩)
      clear hw7 B6
      go_wp2_with (with_reducible refine stay_load 41 _ rfl ?_)
      unfold Stay
      refine wpList_load_w (by kernel_rfl) 41 _ rfl q rfl 41 (agg16 c) (0, 0) _ B7.out.1 Try.underlying41 rfl (size41 c) ?_
      simp only [Act.put, List.setIfInBounds_toArray, List.set_cons_zero, List.set_cons_succ]
      refine wpList_load_w (by kernel_rfl) 41 _ rfl p rfl 41 (agg16 c) (0, 0) _ B7.out.2.1 Try.underlying41 rfl (size41 c) ?_
      have he := eq16 c w7
      go_wp2_with (with_reducible refine stay_load 41 _ rfl ?_)
      unfold Stay
      refine wpList_load_w (by kernel_rfl) 41 _ rfl p rfl 41 (agg16 c) (0, 0) _ B7.out.2.1 Try.underlying41 rfl (size41 c) ?_
      clear he
      go_wp2_with fail
      refine (HF2.out _).mono ?_
      rintro e w8 ⟨rfl, b8⟩
      have B8 := hide' (B7.out.2.2.trans (b8.mono B7.out.2.2.size))
      clear b8 B7
      go_wp2_with fail
      refine (fold_nil _).mono ?_
      rintro e w9 ⟨rfl, rfl⟩
      go_wp2
      go_ret
      exact ⟨rfl, B8.out⟩
end Fd
end Go.Proofs.Ytkipcdjadmocaaa
