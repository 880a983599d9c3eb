import Derived.Test.YtkipcdjadmocaaaRefM
set_option linter.unusedVariables false
set_option linter.unusedSimpArgs false
namespace Go.Proofs.Ytkipcdjadmocaaa
open Go.RowKit
set_option maxHeartbeats 1000000 in
set_option maxRecDepth 100000 in
theorem rspread_any (m : Nat) (w : World) (hm : m < 65536) : Calls Try.prog 20 #[.int .u16 (m : Nat)] w fun e w' => e = .returned (.agg (spr m)) ∧ Below w.heap.size w w' := by
  have Hh' := hide' (fun (i : Nat) (hi : i < 16) w => holds_any m (i : Int) hm w)
  have hmi : (m : Int) < 65536 := by omega
  unfold spr
  go_enter Try.func20, Try.ntmps20
  go_wp2
  have hb1 := heap_alloc_new (w.alloc (.cells #[.int .i8 0, .int .i8 0, .int .i8 0, .int .i8 0, .int .i8 0, .int .i8 0, .int .i8 0, .int .i8 0, .int .i8 0, .int .i8 0, .int .i8 0, .int .i8 0, .int .i8 0, .int .i8 0, .int .i8 0, .int .i8 0] 41)) (.cells #[.int .i8 0, .int .i8 0, .int .i8 0, .int .i8 0, .int .i8 0, .int .i8 0, .int .i8 0, .int .i8 0, .int .i8 0, .int .i8 0, .int .i8 0, .int .i8 0, .int .i8 0, .int .i8 0, .int .i8 0, .int .i8 0] 41)
  have hb2 := heap_alloc_new w (.cells #[.int .i8 0, .int .i8 0, .int .i8 0, .int .i8 0, .int .i8 0, .int .i8 0, .int .i8 0, .int .i8 0, .int .i8 0, .int .i8 0, .int .i8 0, .int .i8 0, .int .i8 0, .int .i8 0, .int .i8 0, .int .i8 0] 41)
  have hb3 : Below w.heap.size w ((w.alloc (.cells #[.int .i8 0, .int .i8 0, .int .i8 0, .int .i8 0, .int .i8 0, .int .i8 0, .int .i8 0, .int .i8 0, .int .i8 0, .int .i8 0, .int .i8 0, .int .i8 0, .int .i8 0, .int .i8 0, .int .i8 0, .int .i8 0] 41)).alloc (.cells #[.int .i8 0, .int .i8 0, .int .i8 0, .int .i8 0, .int .i8 0, .int .i8 0, .int .i8 0, .int .i8 0, .int .i8 0, .int .i8 0, .int .i8 0, .int .i8 0, .int .i8 0, .int .i8 0, .int .i8 0, .int .i8 0] 41)) := ((Below.refl _ _).alloc (Nat.le_refl _) _).alloc (by simp) _
  have hb4 : ((w.alloc (.cells #[.int .i8 0, .int .i8 0, .int .i8 0, .int .i8 0, .int .i8 0, .int .i8 0, .int .i8 0, .int .i8 0, .int .i8 0, .int .i8 0, .int .i8 0, .int .i8 0, .int .i8 0, .int .i8 0, .int .i8 0, .int .i8 0] 41)).alloc (.cells #[.int .i8 0, .int .i8 0, .int .i8 0, .int .i8 0, .int .i8 0, .int .i8 0, .int .i8 0, .int .i8 0, .int .i8 0, .int .i8 0, .int .i8 0, .int .i8 0, .int .i8 0, .int .i8 0, .int .i8 0, .int .i8 0] 41)).heap[w.heap.size]? = some (.cells #[.int .i8 0, .int .i8 0, .int .i8 0, .int .i8 0, .int .i8 0, .int .i8 0, .int .i8 0, .int .i8 0, .int .i8 0, .int .i8 0, .int .i8 0, .int .i8 0, .int .i8 0, .int .i8 0, .int .i8 0, .int .i8 0] 41) := by
    rw [Below.heap_alloc _ _ _ (by simp)]; exact hb2
  rw [show (w.alloc (.cells #[.int .i8 0, .int .i8 0, .int .i8 0, .int .i8 0, .int .i8 0, .int .i8 0, .int .i8 0, .int .i8 0, .int .i8 0, .int .i8 0, .int .i8 0, .int .i8 0, .int .i8 0, .int .i8 0, .int .i8 0, .int .i8 0] 41)).heap.size = w.heap.size + 1 by simp] at hb1
  generalize hW : ((w.alloc (.cells #[.int .i8 0, .int .i8 0, .int .i8 0, .int .i8 0, .int .i8 0, .int .i8 0, .int .i8 0, .int .i8 0, .int .i8 0, .int .i8 0, .int .i8 0, .int .i8 0, .int .i8 0, .int .i8 0, .int .i8 0, .int .i8 0] 41)).alloc (.cells #[.int .i8 0, .int .i8 0, .int .i8 0, .int .i8 0, .int .i8 0, .int .i8 0, .int .i8 0, .int .i8 0, .int .i8 0, .int .i8 0, .int .i8 0, .int .i8 0, .int .i8 0, .int .i8 0, .int .i8 0, .int .i8 0] 41)) = W at *
  clear hW hb2
  go_loopw [4] (fun i wx => ∃ k : Nat, k ≤ 16 ∧ i = .int .i64 (k : Int) ∧ Below w.heap.size w wx ∧ (∀ j, j < 16 → wx.cell? ⟨w.heap.size + 1, j, none⟩ = some (.int .i8 (if j < k then bt m j else 0))) ∧ (∀ j, wx.frozen? ⟨w.heap.size + 1, j, none⟩ = false) ∧ wx.heap[w.heap.size]? = W.heap[w.heap.size]?) (fun i _ => 16 - (intOf i).toNat)
  case atStart =>
    refine ⟨0, by omega, rfl, hb3, fun j hj => ?_, fun j => Lib.frozen_of_heap hb1 j, rfl⟩
    rw [Lib.cell_of_heap hb1]
    rcases (by omega : j = 0 ∨ j = 1 ∨ j = 2 ∨ j = 3 ∨ j = 4 ∨ j = 5 ∨ j = 6 ∨ j = 7 ∨ j = 8 ∨ j = 9 ∨ j = 10 ∨ j = 11 ∨ j = 12 ∨ j = 13 ∨ j = 14 ∨ j = 15) with rfl | rfl | rfl | rfl | rfl | rfl | rfl | rfl | rfl | rfl | rfl | rfl | rfl | rfl | rfl | rfl <;> rfl
  case round =>
    obtain ⟨k, hk, rfl, bk, hc, hf, hh⟩ := hrel
    by_cases hlt : k < 16
    · have hlt' : (k : Int) < 16 := by omega
      have ck := hc k hlt
      have fk := hf k
      have HH := hide' (fun w => Hh'.out k hlt w)
      have hv : holdsB m (k : Int) = m.testBit k := by unfold holdsB; rw [if_pos ⟨by omega, hlt'⟩]; rfl
      rw [hv] at HH
      have Hc := hide' hc
      have Hf := hide' hf
      have Hh := hide' hh
      clear hc hf hh hv
      cases hb : m.testBit k
      · rw [hb] at HH
        have hbt : bt m k = 0 := by simp [bt, hb]
        clear hb
        go_wp2_with fail
        refine (HH.out _).mono ?_
        rintro e w1 ⟨rfl, rfl⟩
        go_wp2
        refine ⟨⟨k + 1, by omega, by go_num, bk, fun j hj => ?_, fun j => Hf.out j, Hh.out⟩, by simp [intOf]; omega⟩
        rw [Hc.out j hj]
        congr 2
        by_cases h3 : j < k
        · rw [if_pos h3, if_pos (by omega)]
        · by_cases h4 : j = k
          · subst h4; rw [if_neg h3, if_pos (by omega), hbt]
          · rw [if_neg h3, if_neg (by omega)]
      · rw [hb] at HH
        have hbt : bt m k = 1 := by simp [bt, hb]
        clear hb
        go_wp2_with fail
        refine (HH.out _).mono ?_
        rintro e w1 ⟨rfl, rfl⟩
        go_wp2
        refine ⟨⟨k + 1, by omega, by go_num, bk.setCell (by simp) _, fun j hj => ?_, fun j => ?_, ?_⟩, by simp [intOf]; omega⟩
        · by_cases hjk : j = k
          · subst hjk
            rw [World.cell?_setCell_same _ _ _ ck, if_pos (by omega), hbt]
          · rw [World.cell?_setCell_other _ _ _ _ (fun q => hjk (by simpa using (congrArg Addr.off q).symm)), Hc.out j hj]
            congr 2
            by_cases h3 : j < k
            · rw [if_pos h3, if_pos (by omega)]
            · rw [if_neg h3, if_neg (by omega)]
        · simp only [World.frozen?_setCell]; exact Hf.out j
        · rw [Below.heap_setCell _ _ _ _ (by simp)]; exact Hh.out
    · have hk16 : k = 16 := by omega
      subst hk16
      have hg := hh.trans hb4
      have c0 := hc 0 (by omega)
      rw [if_pos (by omega)] at c0
      have d0 : wr.cell? ⟨w.heap.size, 0, none⟩ = some (.int .i8 0) := by rw [Lib.cell_of_heap hg]; rfl
      have c1 := hc 1 (by omega)
      rw [if_pos (by omega)] at c1
      have d1 : wr.cell? ⟨w.heap.size, 1, none⟩ = some (.int .i8 0) := by rw [Lib.cell_of_heap hg]; rfl
      have c2 := hc 2 (by omega)
      rw [if_pos (by omega)] at c2
      have d2 : wr.cell? ⟨w.heap.size, 2, none⟩ = some (.int .i8 0) := by rw [Lib.cell_of_heap hg]; rfl
      have c3 := hc 3 (by omega)
      rw [if_pos (by omega)] at c3
      have d3 : wr.cell? ⟨w.heap.size, 3, none⟩ = some (.int .i8 0) := by rw [Lib.cell_of_heap hg]; rfl
      have c4 := hc 4 (by omega)
      rw [if_pos (by omega)] at c4
      have d4 : wr.cell? ⟨w.heap.size, 4, none⟩ = some (.int .i8 0) := by rw [Lib.cell_of_heap hg]; rfl
      have c5 := hc 5 (by omega)
      rw [if_pos (by omega)] at c5
      have d5 : wr.cell? ⟨w.heap.size, 5, none⟩ = some (.int .i8 0) := by rw [Lib.cell_of_heap hg]; rfl
      have c6 := hc 6 (by omega)
      rw [if_pos (by omega)] at c6
      have d6 : wr.cell? ⟨w.heap.size, 6, none⟩ = some (.int .i8 0) := by rw [Lib.cell_of_heap hg]; rfl
      have c7 := hc 7 (by omega)
      rw [if_pos (by omega)] at c7
      have d7 : wr.cell? ⟨w.heap.size, 7, none⟩ = some (.int .i8 0) := by rw [Lib.cell_of_heap hg]; rfl
      have c8 := hc 8 (by omega)
      rw [if_pos (by omega)] at c8
      have d8 : wr.cell? ⟨w.heap.size, 8, none⟩ = some (.int .i8 0) := by rw [Lib.cell_of_heap hg]; rfl
      have c9 := hc 9 (by omega)
      rw [if_pos (by omega)] at c9
      have d9 : wr.cell? ⟨w.heap.size, 9, none⟩ = some (.int .i8 0) := by rw [Lib.cell_of_heap hg]; rfl
      have c10 := hc 10 (by omega)
      rw [if_pos (by omega)] at c10
      have d10 : wr.cell? ⟨w.heap.size, 10, none⟩ = some (.int .i8 0) := by rw [Lib.cell_of_heap hg]; rfl
      have c11 := hc 11 (by omega)
      rw [if_pos (by omega)] at c11
      have d11 : wr.cell? ⟨w.heap.size, 11, none⟩ = some (.int .i8 0) := by rw [Lib.cell_of_heap hg]; rfl
      have c12 := hc 12 (by omega)
      rw [if_pos (by omega)] at c12
      have d12 : wr.cell? ⟨w.heap.size, 12, none⟩ = some (.int .i8 0) := by rw [Lib.cell_of_heap hg]; rfl
      have c13 := hc 13 (by omega)
      rw [if_pos (by omega)] at c13
      have d13 : wr.cell? ⟨w.heap.size, 13, none⟩ = some (.int .i8 0) := by rw [Lib.cell_of_heap hg]; rfl
      have c14 := hc 14 (by omega)
      rw [if_pos (by omega)] at c14
      have d14 : wr.cell? ⟨w.heap.size, 14, none⟩ = some (.int .i8 0) := by rw [Lib.cell_of_heap hg]; rfl
      have c15 := hc 15 (by omega)
      rw [if_pos (by omega)] at c15
      have d15 : wr.cell? ⟨w.heap.size, 15, none⟩ = some (.int .i8 0) := by rw [Lib.cell_of_heap hg]; rfl
      have hfz : ∀ j, wr.frozen? ⟨w.heap.size, j, none⟩ = false := fun j => Lib.frozen_of_heap hg j
      clear hc hf hh hlt hb1 hb4 hg
      go_wp2
      refine bodyPost_ret (v := .agg #[.int .i8 (bt m 0), .int .i8 (bt m 1), .int .i8 (bt m 2), .int .i8 (bt m 3), .int .i8 (bt m 4), .int .i8 (bt m 5), .int .i8 (bt m 6), .int .i8 (bt m 7), .int .i8 (bt m 8), .int .i8 (bt m 9), .int .i8 (bt m 10), .int .i8 (bt m 11), .int .i8 (bt m 12), .int .i8 (bt m 13), .int .i8 (bt m 14), .int .i8 (bt m 15)]) (by simp [results, Try.results19, go_sem, d0, d1, d2, d3, d4, d5, d6, d7, d8, d9, d10, d11, d12, d13, d14, d15]) rfl ⟨rfl, ?_⟩
      exact ((((((((((((((((bk.setCell (Nat.le_refl _) _).setCell (Nat.le_refl _) _).setCell (Nat.le_refl _) _).setCell (Nat.le_refl _) _).setCell (Nat.le_refl _) _).setCell (Nat.le_refl _) _).setCell (Nat.le_refl _) _).setCell (Nat.le_refl _) _).setCell (Nat.le_refl _) _).setCell (Nat.le_refl _) _).setCell (Nat.le_refl _) _).setCell (Nat.le_refl _) _).setCell (Nat.le_refl _) _).setCell (Nat.le_refl _) _).setCell (Nat.le_refl _) _).setCell (Nat.le_refl _) _)
end Go.Proofs.Ytkipcdjadmocaaa
