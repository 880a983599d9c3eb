import Derived.Test.YtjmkofdnlhfaiaaRa4
import Derived.Test.YtjmkofdnlhfaiaaAvR
set_option linter.unusedVariables false
set_option linter.unusedSimpArgs false
namespace Go.Proofs.Ytjmkofdnlhfaiaa
open Go.RowKit
namespace C
variable {n v : Nat} {s : St} {L : List Dc} {B r hb : Nat} {lo : Option Addr} {lc : Nat} {w w' : World}
theorem rspt {h n : Int} (hn : 0 < n) (h2 : n ≤ 256) : (wrap64 (h.tmod n + n)).tmod n = h % n := by
  have a1 := Int.tmod_lt_of_pos h hn
  have a2 := Int.lt_tmod_of_pos h hn
  have e : wrap64 (h.tmod n + n) = h.tmod n + n := by unfold wrap64; omega
  rw [e, Int.tmod_eq_emod_of_nonneg (by omega), Int.add_emod_right]
  by_cases hz : h.tmod n < 0
  · have := spt_neg hn h2 hz
    have e2 : wrap64 (h.tmod n + n) = h % n := this
    rw [e] at e2
    rw [← Int.add_emod_right, e2, Int.emod_emod_of_dvd _ (Int.dvd_refl n)]
  · rw [spt_pos hn hz, Int.emod_emod_of_dvd _ (Int.dvd_refl n)]
set_option maxRecDepth 100000 in
set_option maxHeartbeats 1000000 in
theorem rspot_any (t : Tr) (h : Rf B r hb n v s L lo lc w) : Calls Try.prog 26 #[.pointer (some ⟨r, 0, none⟩), .int .i64 t.s, .int .i64 t.o, .int .i64 t.a] w fun e w' => e = .returned (.int .i64 (spt n t : Nat)) ∧ ∃ k, w' = w.drewN k := by
  have c0 := h.c0
  have n1 := h.nv.1.1
  have n2 := h.nv.1.2
  have hn : (0 : Int) < (n : Int) := by omega
  have hn0 : ¬ (n : Int) = 0 := by omega
  have hnb : ((n : Int) == 0) = false := by simpa using hn0
  have Hn2 := hide' (show (n : Int) ≤ 256 by omega)
  rw [spt_eq (by omega)]
  unfold hsh
  clear h n1 n2
  go_enter Try.func26, Try.ntmps26
  go_wp2_with fail
  go_quiet (fail)
  go_wp2
  go_ret
  exact ⟨ret_int (rspt hn Hn2.out), _, rfl⟩
set_option maxRecDepth 100000 in
set_option maxHeartbeats 1000000 in
theorem rratio_any (h : Rf B r hb n v s L lo lc w) (hl : s.hi + s.mi < 9007199254740992) : Calls Try.prog 28 #[.pointer (some ⟨r, 0, none⟩)] w fun e w' => e = .returned (.float .f64 (rat s.hi (s.hi + s.mi))) ∧ ∃ k, w' = w.drewN k := by
  have c4 := h.c4
  have c5 := h.c5
  by_cases h0 : s.hi + s.mi = 0
  · have hr : rat s.hi (s.hi + s.mi) = 0 := if_pos h0
    rw [hr]
    have e1 : s.hi = 0 := by omega
    have e2 : s.mi = 0 := by omega
    rw [e1] at c4
    rw [e2] at c5
    clear h hl h0 hr e1 e2
    go_enter Try.func28, Try.ntmps28
    go_wp2
    go_ret
    exact ⟨rfl, 0, rfl⟩
  · have HR := fun w => run_fdiv _ _ _ w (rat_div (a := s.hi) (q := s.hi + s.mi) (by omega) hl (by omega))
    have HA := fun w => run_fadd _ _ _ w (Fp.add_nat (a := s.hi) (b := s.mi) hl)
    have HR' : ∀ w, (binOp .quo 33 (.float .f64 (floatOfInt .f64 (s.hi : Int))) (.float .f64 (FloatKind.f64.nearest ((s.hi + s.mi : Nat) : Int)))).run Try.prog w = .ok (.float .f64 (rat s.hi (s.hi + s.mi))) w := HR
    have HA' : ∀ w, (binOp .add 33 (.float .f64 (floatOfInt .f64 (s.hi : Int))) (.float .f64 (floatOfInt .f64 (s.mi : Int)))).run Try.prog w = .ok (.float .f64 (FloatKind.f64.nearest ((s.hi + s.mi : Nat) : Int))) w := HA
    clear HR HA
    by_cases e1 : s.hi = 0
    · have e2 : ¬ ((s.mi : Nat) : Int) = 0 := by omega
      have e3 : ((s.hi : Nat) : Int) = 0 := by omega
      generalize FloatKind.f64.nearest ((s.hi + s.mi : Nat) : Int) = A at *
      generalize rat s.hi (s.hi + s.mi) = R at *
      rw [e3] at c4 HA' HR'
      clear h hl h0 e1 e3
      go_enter Try.func28, Try.ntmps28
      go_wp2_with fail
      go_quiet (fail)
      go_wp2
      go_ret
      exact ⟨rfl, _, rfl⟩
    · have e2 : ¬ ((s.hi : Nat) : Int) = 0 := by omega
      generalize FloatKind.f64.nearest ((s.hi + s.mi : Nat) : Int) = A at *
      generalize rat s.hi (s.hi + s.mi) = R at *
      clear h hl h0 e1
      go_enter Try.func28, Try.ntmps28
      go_wp2_with fail
      go_quiet (fail)
      go_wp2
      go_ret
      exact ⟨rfl, _, rfl⟩
set_option maxRecDepth 100000 in
set_option maxHeartbeats 1000000 in
theorem rstats_any (h : Rf B r hb n v s L lo lc w) : Calls Try.prog 27 #[.pointer (some ⟨r, 0, none⟩)] w fun e w' => e = .returned (.agg #[.int .i64 (s.hi : Nat), .int .i64 (s.mi : Nat), .int .i64 (s.ev : Nat), .int .i64 (hsm s.f v n : Nat)]) ∧ Below w.heap.size w w' := by
  obtain ⟨w1, hw1⟩ : ∃ w1, w1 = w.alloc (.cells #[.int .i64 0, .int .i64 0, .int .i64 0, .int .i64 0] 31) := ⟨_, rfl⟩
  have hb1 : Below w.heap.size w w1 := by rw [hw1]; exact (Below.refl _ _).alloc (Nat.le_refl _) _
  have h1 : Rf B r hb n v s L lo lc w1 := h.below hb1
  obtain ⟨x, hx⟩ : ∃ x, x = w.heap.size := ⟨_, rfl⟩
  have hbx : w1.heap[x]? = some (.cells #[.int .i64 0, .int .i64 0, .int .i64 0, .int .i64 0] 31 (0, 0)) := by rw [hw1, hx]; exact heap_alloc_new _ _
  have HB := hide' hb1
  have Hx := hide' hx
  have Hw1 := hide' hw1
  have HBx := hide' hbx
  have c3 := h1.c3
  have c4 := h1.c4
  have c5 := h1.c5
  have c6 := h1.c6
  have x0 : w1.cell? ⟨x, 0, none⟩ = some (.int .i64 0) := by rw [Lib.cell_of_heap hbx]; rfl
  have x1 : w1.cell? ⟨x, 1, none⟩ = some (.int .i64 0) := by rw [Lib.cell_of_heap hbx]; rfl
  have x2 : w1.cell? ⟨x, 2, none⟩ = some (.int .i64 0) := by rw [Lib.cell_of_heap hbx]; rfl
  have x3 : w1.cell? ⟨x, 3, none⟩ = some (.int .i64 0) := by rw [Lib.cell_of_heap hbx]; rfl
  have xf : ∀ j, w1.frozen? ⟨x, j, none⟩ = false := fun j => Lib.frozen_of_heap hbx j
  have ne : x ≠ r := cells_ne hbx h1.hr (by decide)
  have hcn := h.lr.count
  rw [← hcn]
  clear h h1 hb1 hbx hx hw1 hcn
  go_enter Try.func27, Try.ntmps27
  go_wp2_with fail
  rw [← Hx.out, ← Hw1.out]
  go_region
  have HE : Hid (((((w1.setCell ⟨x, 0, none⟩ (.int .i64 (s.hi : Nat))).setCell ⟨x, 1, none⟩ (.int .i64 (s.mi : Nat))).setCell ⟨x, 2, none⟩ (.int .i64 (s.ev : Nat))).setCell ⟨x, 3, none⟩ (.int .i64 (L.length : Nat))).drew.heap[x]? = some (.cells #[.int .i64 (s.hi : Nat), .int .i64 (s.mi : Nat), .int .i64 (s.ev : Nat), .int .i64 (L.length : Nat)] 31 (0, 0))) := hide' (set_block (off := 3) (set_block (off := 2) (set_block (off := 1) (set_block (off := 0) HBx.out))))
  have HT : Hid (Below w.heap.size w ((((w1.setCell ⟨x, 0, none⟩ (.int .i64 (s.hi : Nat))).setCell ⟨x, 1, none⟩ (.int .i64 (s.mi : Nat))).setCell ⟨x, 2, none⟩ (.int .i64 (s.ev : Nat))).setCell ⟨x, 3, none⟩ (.int .i64 (L.length : Nat))).drew) := hide' (by
    have t := (((turn_b x 0 (.int .i64 (s.hi : Nat)) w1).trans (turn_b x 1 (.int .i64 (s.mi : Nat)) _)).trans (turn_b x 2 (.int .i64 (s.ev : Nat)) _)).trans (turn_b x 3 (.int .i64 (L.length : Nat)) _)
    exact HB.out.trans (t.drew.below (fun j hj => by rw [hj, Hx.out]; exact Nat.le_refl _) HB.out.size))
  generalize ((((w1.setCell ⟨x, 0, none⟩ (.int .i64 (s.hi : Nat))).setCell ⟨x, 1, none⟩ (.int .i64 (s.mi : Nat))).setCell ⟨x, 2, none⟩ (.int .i64 (s.ev : Nat))).setCell ⟨x, 3, none⟩ (.int .i64 (L.length : Nat))).drew = W at *
  go_wp2
  refine bodyPost_ret (results_cell_row rfl _ _ x 31 #[.int .i64 (s.hi : Nat), .int .i64 (s.mi : Nat), .int .i64 (s.ev : Nat), .int .i64 (L.length : Nat)] (0, 0) _ rfl HE.out Try.underlying31 rfl (by kernel_rfl)) rfl ?_
  exact ⟨rfl, HT.out⟩
end C
end Go.Proofs.Ytjmkofdnlhfaiaa
