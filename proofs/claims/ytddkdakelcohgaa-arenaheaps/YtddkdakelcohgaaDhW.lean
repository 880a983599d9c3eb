import Derived.Test.YtddkdakelcohgaaDhP
import Derived.Test.YtddkdakelcohgaaHpR
import Derived.Test.YtddkdakelcohgaaNote
import Derived.Test.YtddkdakelcohgaaMore
import Derived.Deep.AppendLies
import Derived.Deep.RegionLaw
import Derived.Deep.CutBlock
import Derived.Deep.DeepCutAuto
set_option linter.unusedVariables false
set_option linter.unusedSimpArgs false
namespace Go.Proofs.Ytddkdakelcohgaa
open Go.RowKit Go.Sort
namespace Dh
open Th Hp
variable {B b off : Nat} {ao : Option Addr} {cap : Nat} {ds : List (Int × Int)} {w w' : World}
/-- what a call leaves -/
def DT (B b off : Nat) (ao : Option Addr) (ds : List (Int × Int)) (w w' : World) : Prop := ∃ ao' cap' w1, Dm B b off ao' cap' ds w' ∧ Turn (M.At ao) w w1 ∧ w' = w1.setCell ⟨b, off, none⟩ (.slice ao' ds.length cap') ∧ ∀ j, M.At ao' j → M.At ao j ∨ w.heap.size ≤ j
theorem DT.turn (h : DT B b off ao ds w w') : Turn (Own b ao) w w' := by
  obtain ⟨ao', cap', w1, _, t, rfl, _⟩ := h
  exact (t.mono (fun _ _ q => .inr q)).trans ((Turn.refl _ w1).setCell (p := ⟨b, off, none⟩) (fun _ => .inl rfl) _)
theorem put_core {ds' : List (Int × Int)} {ao' : Option Addr} {cap' : Nat} {w1 : World} (h : Dm B b off ao cap ds w) (t : Turn (M.At ao) w w1) (hr : w1.ownsRow B 52 2 (.slice ao' ds'.length cap') ds'.length (ds'.flatMap tc)) (ha : ∀ j, M.At ao' j → M.At ao j ∨ w.heap.size ≤ j) : DT B b off ao ds' w (w1.setCell ⟨b, off, none⟩ (.slice ao' ds'.length cap')) := by
  have hlt : b < w1.heap.size := Nat.lt_of_lt_of_le h.lt t.size
  have c1 : w1.cell? ⟨b, off, none⟩ = some (.slice ao ds.length cap) := (t.cell (p := ⟨b, off, none⟩) h.lt (fun q => h.ne b q rfl)).trans h.c
  have hne : ∀ j, M.At ao' j → j ≠ b := fun j hj => by
    rcases ha j hj with q | q
    · exact h.ne j q
    · have := h.lt; omega
  refine ⟨ao', cap', w1, ⟨World.cell?_setCell_same _ _ _ c1, ?_, ?_, by rw [World.size_setCell]; exact hlt, hne⟩, t, rfl, ha⟩
  · rw [World.frozen?_setCell]
    exact (World.frozen?_of_block (t.block b h.lt (fun q => h.ne b q rfl))).trans h.f
  · exact ((Turn.refl (fun j => j = b) w1).setCell (p := ⟨b, off, none⟩) (fun _ => rfl) _).row hr (fun j hj e => hne j (M.own_at hj) e)
set_option maxRecDepth 100000 in
set_option maxHeartbeats 4000000 in
/-- a thing more -/
theorem push_any (z : Int × Int) (h : Dm B b off ao cap ds w) (hl : ds.length < 1099511627776) (hB : B ≤ w.heap.size) :
    Calls Try.prog 23 #[.pointer (some ⟨b, off, none⟩), .agg #[.int .i64 z.1, .int .i64 z.2]] w fun e w' => e = .returned (.tuple #[]) ∧ DT B b off ao (ds ++ [z]) w w' := by
  obtain ⟨i0, hi0, hz0, hz1, hz2⟩ := info_parts info52
  have c1 := h.c
  have f1 := h.f
  have lt := h.lt
  have row := h.row
  have n1 : Hid (ds.length + 1 ≤ maxLen) := (show ds.length + 1 ≤ maxLen by unfold maxLen; omega)
  have n2 : Hid ((ds.length + 1) * 16 ≤ 140737488355328) := (show (ds.length + 1) * 16 ≤ 140737488355328 by omega)
  have ne : some b ≠ (Value.slice ao ds.length cap).ownBlock := fun q => h.ne b (M.own_at q.symm) rfl
  have new2 : ∀ o o', ((w.alloc o).alloc o').drew.heap[w.heap.size + 1]? = some o' := fun o o' => by show ((w.alloc o).alloc o').heap[w.heap.size + 1]? = some o'; have := heap_alloc_new (w.alloc o) o'; rw [show (w.alloc o).heap.size = w.heap.size + 1 by simp] at this; exact this
  have new1 := World.new_ne w ⟨b, off, none⟩ c1
  have H := hide' h
  have fal : ∀ o o', ((w.alloc o).alloc o').drew.frozen? ⟨b, off, none⟩ = false := fun o o' => (World.frozen?_of_block (w := w) ((Below.heap_alloc _ _ _ (by simp; omega)).trans (Below.heap_alloc _ _ _ lt))).trans f1
  have cal : ∀ o o', ((w.alloc o).alloc o').drew.cell? ⟨b, off, none⟩ = some (.slice ao ds.length cap) := fun o o' => (World.cell?_of_block (w := w) ((Below.heap_alloc _ _ _ (by simp; omega)).trans (Below.heap_alloc _ _ _ lt))).trans c1
  clear hl h
  obtain ⟨zr, zi⟩ := z
  simp only
  go_enter Try.func23, Try.ntmps23
  go_wp2_with fail
  go_region_law ((refine step_append_lies _ (by rfl) _ _ _ (by rfl) B 52 i0 _ 2 16 Try.underlying31 hi0 hz0 hz1 hz2 rfl (by omega) (.slice ao ds.length cap) ds.length (ds.flatMap tc) (by rfl) (((row.alloc _).alloc _).drew) ⟨w.heap.size + 1, 0, none⟩ 1 1 (tc (zr, zi)) (by rfl) (by rfl) (World.news_of_block (cs := #[.int .i64 zr, .int .i64 zi]) (t := 52) (fr := (0, 0)) (new2 _ _)) (by simp [tc, Value.oneCell']) (by omega) n1.out n2.out (by simp; omega) (w.heap.size + 2) (by simp) ?_; intro gg cap' w1 hown1 hgrow hat hlt; have a0 := (hgrow.cell_far ⟨b, off, none⟩ (by simp; omega) ne).trans (cal _ _); have a0f := (hgrow.frozen_far ⟨b, off, none⟩ (by simp; omega) ne).trans (fal _ _)))
  all_goals
    have hb0 : Below w.heap.size w ((w.alloc (.cells #[.int .i64 zr, .int .i64 zi] 52)).alloc (.cells #[.int .i64 zr, .int .i64 zi] 52)).drew := (((Below.refl _ _).alloc (Nat.le_refl _) _).alloc (by simp) _).drew
    have K : Hid (DT B b off ao (ds ++ [(zr, zi)]) w (w1.setCell ⟨b, off, none⟩ (.slice (some ⟨gg, 0, none⟩) (ds.length + 1) cap'))) := hide' (by
      have q := put_core (ds' := ds ++ [(zr, zi)]) (ao' := some ⟨gg, 0, none⟩) (cap' := cap') H.out ((turn_below hb0).grown hgrow (fun k hk _ => M.own_at hk)) (by rw [List.length_append, List.flatMap_append]; simpa using hown1) (fun j hj => by
        obtain ⟨a, ha, rfl⟩ := hj
        cases ha
        rcases hat with q | q
        · exact .inl (M.own_at q)
        · exact .inr (by have := hb0.size; simp at q ⊢; omega))
      rw [List.length_append] at q
      exact q)
    generalize (w1.setCell ⟨b, off, none⟩ (.slice (some ⟨gg, 0, none⟩) (ds.length + 1) cap')) = W at *
    clear a0 a0f hown1 hgrow hat hlt c1 f1 fal cal new1 row ne new2 hb0
    go_wp2
    go_end0
    exact ⟨rfl, K.out⟩
set_option maxRecDepth 100000 in
set_option maxHeartbeats 4000000 in
theorem peek_none (h : Dm B b off ao cap [] w) : Calls Try.prog 62 #[.pointer (some ⟨b, off, none⟩)] w fun e w' => e = .returned (.tuple #[.agg #[.int .i64 0, .int .i64 0], .bool false]) ∧ Below w.heap.size w w' := by
  have c1 := h.c
  have lt := h.lt
  have c2 : (w.alloc (.cells #[.int .i64 0, .int .i64 0] 52)).cell? ⟨b, off, none⟩ = some (.slice ao 0 cap) := (World.cell?_of_block (w := w) (Below.heap_alloc _ _ _ lt)).trans c1
  simp only [List.length_nil] at c1
  have hnew := heap_alloc_new w (.cells #[.int .i64 0, .int .i64 0] 52)
  have hb := (Below.refl w.heap.size w).alloc (Nat.le_refl _) (.cells #[.int .i64 0, .int .i64 0] 52)
  have KK := hide' (And.intro hnew hb)
  clear h hnew hb
  go_enter Try.func62, Try.ntmps62
  go_wp2
  (try simp only [Exit.inBlock, Exit.then])
  refine bodyPost_ret (Hp.results_row_tmp rfl _ _ w.heap.size 52 #[.int .i64 0, .int .i64 0] (0, 0) _ rfl KK.out.1 Try.underlying52 rfl (by kernel_rfl)) rfl ?_
  exact ⟨rfl, KK.out.2⟩
theorem bel_drewN {B : Nat} {w w' : World} (b : RowKit.Below B w w') (n : Nat) : RowKit.Below B w (w'.drewN n) := ⟨b.os, b.tape, b.output, b.size, b.block⟩
theorem row2 {t : Nat} {w : World} {q : Nat} {a c : Value} (h : w.heap[q]? = some (.cells #[a, c] t (0, 0))) (x y : Value) : ((w.setCell ⟨q, 0, none⟩ x).setCell ⟨q, 1, none⟩ y).heap[q]? = some (.cells #[x, y] t (0, 0)) := by
  have h1 := M.set_block (off := 0) (v := x) h
  have h2 := M.set_block (off := 1) (v := y) h1
  simpa using h2
set_option maxRecDepth 100000 in
set_option maxHeartbeats 4000000 in
theorem peek_some {k : Nat} {z : Int × Int} (h : Dm B b off ao cap ds w) (hk : Fl ds k) (hz : ds[k]? = some z) (hl : ds.length ≤ 1099511627776) : Calls Try.prog 62 #[.pointer (some ⟨b, off, none⟩)] w fun e w' => e = .returned (.tuple #[.agg #[.int .i64 z.1, .int .i64 z.2], .bool true]) ∧ Below w.heap.size w w' := by
  obtain ⟨g, rfl, hg, hgb⟩ := h.some (by have := Dh.Fl.lt hk; omega)
  obtain ⟨T, hT⟩ : ∃ T, T = ds.length := ⟨_, rfl⟩
  obtain ⟨w1, hw1⟩ : ∃ w1, w1 = w.alloc (.cells #[.int .i64 0, .int .i64 0] 52) := ⟨_, rfl⟩
  obtain ⟨q, hq⟩ : ∃ q, q = w.heap.size := ⟨_, rfl⟩
  have hb1 : Below w.heap.size w w1 := by rw [hw1]; exact (Below.refl w.heap.size w).alloc (Nat.le_refl _) _
  have h1 := h.below hb1
  have hq1 : w1.heap[q]? = some (.cells #[.int .i64 0, .int .i64 0] 52 (0, 0)) := by rw [hw1, hq]; exact heap_alloc_new w _
  have LS : Hid (∀ W, (∃ m, W = w1.drewN m) → Calls Try.prog 68 #[.pointer (some ⟨b, off, none⟩)] W fun e w' => e = .returned (.int .i64 (k : Nat)) ∧ ∃ m, w' = w1.drewN m) := hide' (fun W ⟨m, hW⟩ => (least_any (w := W) (B := B) (b := b) (off := off) (ao := some ⟨g, 0, none⟩) (cap := cap) (ds := ds) (by rw [hW]; exact ⟨h1.c, h1.f, h1.row, h1.lt, h1.ne⟩) hk hl).mono (fun e w' ⟨h1, n, h2⟩ => ⟨h1, m + n, by rw [h2, hW]; exact World.drewN_drewN ..⟩))
  have c1 := h1.c
  rw [← hT] at c1
  obtain ⟨x0, x1⟩ := h1.item hz
  have c0 : w.cell? ⟨b, off, none⟩ = some (.slice (some ⟨g, 0, none⟩) T cap) := by rw [hT]; exact h.c
  have hT0 : ¬ T = 0 := by have := Dh.Fl.lt hk; omega
  have hT0' : ((T : Int) == 0) = false := by simpa using (by omega : ¬ (T : Int) = 0)
  have hkT : (k : Int) < (T : Int) := by have := Dh.Fl.lt hk; omega
  have hkT' : k < T := by have := Dh.Fl.lt hk; omega
  have nq : q ≠ b ∧ q ≠ g := by have := h.lt; omega
  have r0 : w1.cell? ⟨q, 0, none⟩ = some (.int .i64 0) := by rw [Lib.cell_of_heap hq1]; rfl
  have r1 : w1.cell? ⟨q, 1, none⟩ = some (.int .i64 0) := by rw [Lib.cell_of_heap hq1]; rfl
  have rf0 : w1.frozen? ⟨q, 0, none⟩ = false := Lib.frozen_of_heap hq1 0
  have rf1 : w1.frozen? ⟨q, 1, none⟩ = false := Lib.frozen_of_heap hq1 1
  have HQ := hide' (And.intro hq1 (And.intro hb1 hq))
  have Hw := hide' (And.intro hw1 hq)
  clear h h1 hq1 hb1 hw1 hq hz hk hl hT hg
  obtain ⟨zr, zi⟩ := z
  simp only at *
  go_enter Try.func62, Try.ntmps62
  go_upto_region 1 with fail
  rw [← Hw.out.1, ← Hw.out.2]
  clear Hw c0
  go_wp2_with fail
  have y0 : ∀ m, (w1.drewN m).cell? ⟨g, k * 2, none⟩ = some (.int .i64 zr) := fun m => x0
  have y1 : ∀ m, (w1.drewN m).cell? ⟨g, k * 2 + 1, none⟩ = some (.int .i64 zi) := fun m => x1
  have d1 : ∀ m, (w1.drewN m).cell? ⟨b, off, none⟩ = some (.slice (some ⟨g, 0, none⟩) T cap) := fun m => c1
  have s0 : ∀ m, (w1.drewN m).cell? ⟨q, 0, none⟩ = some (.int .i64 0) := fun m => r0
  have s1 : ∀ m, (w1.drewN m).cell? ⟨q, 1, none⟩ = some (.int .i64 0) := fun m => r1
  have sf0 : ∀ m, (w1.drewN m).frozen? ⟨q, 0, none⟩ = false := fun m => rf0
  have sf1 : ∀ m, (w1.drewN m).frozen? ⟨q, 1, none⟩ = false := fun m => rf1
  go_region_law ((go_simp; refine (LS.out _ ⟨1, rfl⟩).mono ?_; rintro e w7 ⟨rfl, m7, rfl⟩))
  all_goals
    have K : Hid (_ ∧ Below w.heap.size w (((w1.drewN m7).setCell ⟨q, 0, none⟩ (.int .i64 zr)).setCell ⟨q, 1, none⟩ (.int .i64 zi))) := hide' ⟨row2 (w := w1.drewN m7) HQ.out.1 (.int .i64 zr) (.int .i64 zi), ((bel_drewN HQ.out.2.1 m7).setCell (p := ⟨q, 0, none⟩) (Nat.le_of_eq HQ.out.2.2.symm) _).setCell (p := ⟨q, 1, none⟩) (Nat.le_of_eq HQ.out.2.2.symm) _⟩
    clear y0 y1 d1 s0 s1 sf0 sf1 r0 r1 rf0 rf1 x0 x1 c1
    go_wp2
    (try simp only [Exit.inBlock, Exit.then])
    refine bodyPost_ret (Hp.results_row_tmp rfl _ _ q 52 #[.int .i64 zr, .int .i64 zi] (0, 0) _ rfl K.out.1 Try.underlying52 rfl (by kernel_rfl)) rfl ?_
    exact ⟨rfl, K.out.2⟩
end Dh
end Go.Proofs.Ytddkdakelcohgaa
