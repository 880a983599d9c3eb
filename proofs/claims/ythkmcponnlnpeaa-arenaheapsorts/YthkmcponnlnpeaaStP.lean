import Derived.Test.YthkmcponnlnpeaaJQ
import Derived.Test.YthkmcponnlnpeaaAnP
set_option linter.unusedVariables false
set_option linter.unusedSimpArgs false
namespace Go.Proofs.Ythkmcponnlnpeaa
open Go.RowKit Go.Sort
namespace St
def key (x m : Int) : Int := if 0 < m then x.tmod m else x
set_option maxRecDepth 100000 in
theorem key_any (x m : Int) (w : World) : Calls Try.prog 50 #[.int .i64 x, .int .i64 m] w fun e w' => e = .returned (.int .i64 (key x m)) ∧ w' = w := by
  unfold key
  by_cases h : 0 < m
  · rw [if_pos h]
    have h0 : ¬ (m = 0) := by omega
    go_enter Try.func50, Try.ntmps50
    go_wp2
    go_ret
    exact ⟨rfl, rfl⟩
  · rw [if_neg h]
    go_enter Try.func50, Try.ntmps50
    go_wp2
    go_ret
    exact ⟨rfl, rfl⟩
def klt (m : Int) (x y : Int × Int) : Bool := decide (key x.1 m < key y.1 m)
def KM (tb : Nat) (m : Int) (w : World) : Prop := w.cell? ⟨tb, 0, none⟩ = some (.int .i64 m)
set_option maxRecDepth 100000 in
set_option maxHeartbeats 2000000 in
theorem lt49 {tb : Nat} {m : Int} (x y : Int × Int) (w : World) (hK : KM tb m w) : Calls Try.prog 49 #[.agg #[.int .i64 x.1, .int .i64 x.2], .agg #[.int .i64 y.1, .int .i64 y.2], .pointer (some ⟨tb, 0, none⟩)] w fun e w' => e = .returned (.bool (klt m x y)) ∧ Below w.heap.size w w' := by
  obtain ⟨x0, x1⟩ := x
  obtain ⟨y0, y1⟩ := y
  have hlt : tb < w.heap.size := World.block_lt_of_cell? w _ hK
  have b1 : Below w.heap.size w ((w.alloc (.cells #[.int .i64 x0, .int .i64 x1] 47)).alloc (.cells #[.int .i64 y0, .int .i64 y1] 47)) := ((Below.refl _ w).alloc (Nat.le_refl _) _).alloc (by simp) _
  have Hb := hide' b1
  have c0 : ((w.alloc (.cells #[.int .i64 x0, .int .i64 x1] 47)).alloc (.cells #[.int .i64 y0, .int .i64 y1] 47)).cell? ⟨tb, 0, none⟩ = some (.int .i64 m) := (b1.cell (p := ⟨tb, 0, none⟩) hlt).trans hK
  have c1 : ((w.alloc (.cells #[.int .i64 x0, .int .i64 x1] 47)).alloc (.cells #[.int .i64 y0, .int .i64 y1] 47)).cell? ⟨w.heap.size, 0, none⟩ = some (.int .i64 x0) := by
    rw [World.cell?_of_block (Below.heap_alloc (w.alloc (.cells #[.int .i64 x0, .int .i64 x1] 47)) _ _ (by simp)), Lib.cell_of_heap (heap_alloc_new w _)]; rfl
  have c2 : ((w.alloc (.cells #[.int .i64 x0, .int .i64 x1] 47)).alloc (.cells #[.int .i64 y0, .int .i64 y1] 47)).cell? ⟨w.heap.size + 1, 0, none⟩ = some (.int .i64 y0) := by
    simp
  have HP := hide' (fun w => key_any x0 m w)
  have HR := hide' (fun w => key_any y0 m w)
  have k1 : ∀ w, Calls Try.prog 50 #[.int .i64 x0, .int .i64 m] w fun e w' => e = .returned (.int .i64 (key x0 m)) ∧ w' = w := HP.out
  unfold klt
  clear b1 k1 hK hlt
  go_enter Try.func49, Try.ntmps49
  go_wp2_with fail
  generalize (w.alloc (.cells #[.int .i64 x0, .int .i64 x1] 47)).alloc (.cells #[.int .i64 y0, .int .i64 y1] 47) = W at *
  go_quiet ((go_at_call 50; exact Calls.quiet_of_same (key_any _ _ _)))
  go_wp2
  go_ret
  exact ⟨rfl, Ar.bel_drewN Hb.out _⟩
theorem less49 {tb : Nat} {m : Int} : HQ.Less 49 #[.pointer (some ⟨tb, 0, none⟩)] (klt m) (fun j => j = tb) (KM tb m) where
  enters := Try.call49
  call x y w hK := lt49 x y w hK
  stay S w w' hK t hA := by
    have hlt : tb < w.heap.size := World.block_lt_of_cell? w _ hK
    exact (t.cell (p := ⟨tb, 0, none⟩) hlt (hA tb rfl)).trans hK
  old w j hK hj := by
    subst hj
    exact World.block_lt_of_cell? w _ hK
end St
end Go.Proofs.Ythkmcponnlnpeaa
