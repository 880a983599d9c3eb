import Derived.Test.YtfeehnfpfheojaaHqB
import Derived.Test.YtfeehnfpfheojaaHpR
set_option linter.unusedVariables false
set_option linter.unusedSimpArgs false
namespace Go.Proofs.Ytfeehnfpfheojaa
open Go.RowKit Go.Sort
namespace HB
open Hp
variable {nf : Nat} {cb : Array Value} {lt : Bk → Bk → Bool} {A : Nat → Prop} {K : World → Prop}
variable {B h : Nat} {fv : Value} {ao : Option Addr} {cap : Nat} {zs : List (Bk × Nat)} {cnt : Nat} {w w' : World} {D : Nat → Prop}
set_option maxRecDepth 100000 in
set_option maxHeartbeats 1000000 in
theorem peek_none (H : Ho D B h fv [] cnt w) : Calls Try.prog 99 #[.pointer (some ⟨h, 0, none⟩)] w fun e w' => e = .returned (.tuple #[.agg #[.int .i64 0, .int .i64 0, .bool false], .bool false]) ∧ Below w.heap.size w w' := by
  obtain ⟨ao, cap, hm, hd⟩ := H
  have c1 := hm.c1
  rw [List.length_nil] at c1
  have c1a : ∀ o, (w.alloc o).cell? ⟨h, 1, none⟩ = some (.slice ao 0 cap) := fun o => (World.cell?_alloc_lt w o _ hm.lt).trans c1
  have hnew := heap_alloc_new w (.cells #[.int .i64 0, .int .i64 0, .bool false] 110)
  have hb := (Below.refl w.heap.size w).alloc (Nat.le_refl _) (.cells #[.int .i64 0, .int .i64 0, .bool false] 110)
  clear hm hd
  go_enter Try.func99, Try.ntmps99
  go_wp2
  (try simp only [Exit.inBlock, Exit.then])
  refine bodyPost_ret (Hp.results_row_tmp rfl _ _ w.heap.size 110 #[.int .i64 0, .int .i64 0, .bool false] (0, 0) _ rfl hnew Try.underlying110 rfl (by kernel_rfl)) rfl ?_
  exact ⟨rfl, hb⟩
set_option maxRecDepth 100000 in
set_option maxHeartbeats 1000000 in
theorem peek_some {z : Bk × Nat} (H : Ho D B h fv zs cnt w) (hz : zs[0]? = some z) : Calls Try.prog 99 #[.pointer (some ⟨h, 0, none⟩)] w fun e w' => e = .returned (.tuple #[.agg #[.int .i64 z.1.addr, .int .i64 z.1.size, .bool z.1.free], .bool true]) ∧ Below w.heap.size w w' := by
  obtain ⟨ao, cap, hm, hd⟩ := H
  have hl : 0 < zs.length := (List.getElem?_eq_some_iff.1 hz).1
  obtain ⟨g, rfl, hc, hg, hgh⟩ := hm.some hl
  have c1 := hm.c1
  have n1 : w.heap.size ≠ h := World.new_ne w _ c1
  obtain ⟨x0, x1, x2, x3⟩ := hm.item hz
  have c1a : ∀ o, (w.alloc o).cell? ⟨h, 1, none⟩ = some (.slice (some ⟨g, 0, none⟩) zs.length cap) := fun o => (World.cell?_alloc_lt w o _ hm.lt).trans c1
  have hl2 : ¬ ((zs.length : Int) = 0) := by omega
  have hl3 : zs.length ≠ 0 := by omega
  rw [Nat.zero_mul] at x0 x1 x2 x3
  have xa0 := fun o => (World.cell?_alloc_lt w o _ hg).trans x0
  have xa1 := fun o => (World.cell?_alloc_lt w o _ hg).trans x1
  have xa2 := fun o => (World.cell?_alloc_lt w o _ hg).trans x2
  have hnew := heap_alloc_new w (.cells #[.int .i64 z.1.addr, .int .i64 z.1.size, .bool z.1.free] 110)
  have hb := (Below.refl w.heap.size w).alloc (Nat.le_refl _) (.cells #[.int .i64 z.1.addr, .int .i64 z.1.size, .bool z.1.free] 110)
  clear hm hd hz
  go_enter Try.func99, Try.ntmps99
  go_wp2
  (try simp only [Exit.inBlock, Exit.then])
  refine bodyPost_ret (Hp.results_row_tmp rfl _ _ w.heap.size 110 #[.int .i64 z.1.addr, .int .i64 z.1.size, .bool z.1.free] (0, 0) _ rfl hnew Try.underlying110 rfl (by kernel_rfl)) rfl ?_
  exact ⟨rfl, hb⟩
theorem eq_func (fn : Fn) (a b : Array Value) (w : World) : (binOp .eql 132 (.func fn a b) .nilFunc).run Try.prog w = .ok (.bool false) w := by kernel_rfl
set_option maxRecDepth 100000 in
theorem new_any (nf : Nat) (cb : Array Value) (w : World) : Calls Try.prog 72 #[.func (.func nf) #[] cb] w fun e w' => e = .returned (.pointer (some ⟨w.heap.size, 0, none⟩)) ∧ ∃ D, Ho D w.heap.size w.heap.size (.func (.func nf) #[] cb) [] 0 w' ∧ Below w.heap.size w w' := by
  have hb := (Below.refl w.heap.size w).alloc (Nat.le_refl _) (.cells #[.func (.func nf) #[] cb, .slice none 0 0, .int .i64 0] 158)
  have hm : Hid (Hm w.heap.size w.heap.size (.func (.func nf) #[] cb) none 0 [] 0 (w.alloc (.cells #[.func (.func nf) #[] cb, .slice none 0 0, .int .i64 0] 158))) := hide' ⟨heap_alloc_new _ _, World.ownsRow_nil _ _ _ _, Nat.le_refl _⟩
  have heq := eq_func
  go_enter Try.func72, Try.ntmps72
  go_wp2
  go_ret
  exact ⟨rfl, _, ⟨none, 0, hm.out, fun _ => Iff.rfl⟩, hb⟩
set_option maxRecDepth 100000 in
set_option maxHeartbeats 1000000 in
theorem sink_none (H : Hm B h fv ao cap [] cnt w) : Calls Try.prog 107 #[.pointer (some ⟨h, 0, none⟩), .int .i64 0] w fun e w' => e = .returned (.tuple #[]) ∧ w' = w := by
  have c1 := H.c1
  rw [List.length_nil] at c1
  clear H
  go_enter Try.func107, Try.ntmps107
  go_wp2_with fail
  go_loopw [1] (fun i wx => i = .int .i64 0 ∧ wx = w) (fun i _ => 0)
  case atStart => exact ⟨rfl, rfl⟩
  case round =>
    obtain ⟨rfl, rfl⟩ := hrel
    go_wp2_with fail
    go_loopw [4, 5] (fun f b wy => f = .int .i64 0 ∧ b = .int .i64 1 ∧ wy = wr) (fun _ b _ => 0)
    case atStart => exact ⟨rfl, rfl, rfl⟩
    case round =>
      obtain ⟨rfl, rfl, rfl⟩ := hrel
      go_wp2
      (try simp only [Exit.inBlock, Exit.then])
      refine bodyPost_ret (results_none rfl _ _ _) rfl ?_
      exact ⟨rfl, rfl⟩
theorem row_set {b : Nat} {t : TypeId} {r : Nat × Nat} {a0 a1 a2 : Value} (hb : w.heap[b]? = some (.cells #[a0, a1, a2] t r)) (v0 v1 v2 : Value) : (((w.setCell ⟨b, 0, none⟩ (v0)).setCell ⟨b, 1, none⟩ (v1)).setCell ⟨b, 2, none⟩ (v2)).heap[b]? = some (.cells #[v0, v1, v2] t r) := by
  have h0 := M.set_block (off := 0) (v := v0) hb
  have h1 := M.set_block (off := 1) (v := v1) h0
  have h2 := M.set_block (off := 2) (v := v2) h1
  exact h2
set_option maxRecDepth 100000 in
set_option maxHeartbeats 1000000 in
theorem pop_none (H : Ho D B h fv [] cnt w) : Calls Try.prog 98 #[.pointer (some ⟨h, 0, none⟩)] w fun e w' => e = .returned (.tuple #[.agg #[.int .i64 0, .int .i64 0, .bool false], .bool false]) ∧ Below w.heap.size w w' := by
  have hnew := heap_alloc_new w (.cells #[.int .i64 0, .int .i64 0, .bool false] 110)
  have hba := (Below.refl w.heap.size w).alloc (Nat.le_refl _) (.cells #[.int .i64 0, .int .i64 0, .bool false] 110)
  have hla : w.heap.size < (w.alloc (.cells #[.int .i64 0, .int .i64 0, .bool false] 110)).heap.size := by simp
  have HP := hide' (peek_none (H.below hba))
  clear H
  go_enter Try.func98, Try.ntmps98
  go_wp2_with fail
  refine HP.out.mono ?_
  rintro e w1 ⟨rfl, b1⟩
  have hbk := (b1.block w.heap.size (by simp)).trans hnew
  have k0 : w1.cell? ⟨w.heap.size, 0, none⟩ = some (.int .i64 0) := by rw [Lib.cell_of_heap hbk]; rfl
  have k1 : w1.cell? ⟨w.heap.size, 1, none⟩ = some (.int .i64 0) := by rw [Lib.cell_of_heap hbk]; rfl
  have k2 : w1.cell? ⟨w.heap.size, 2, none⟩ = some (.bool false) := by rw [Lib.cell_of_heap hbk]; rfl
  have kf := fun j => Lib.frozen_of_heap (w := w1) hbk j
  have b1' : Below w.heap.size w w1 := hba.trans (b1.mono (Nat.le_of_lt hla))
  have hbk2 := row_set hbk (.int .i64 0) (.int .i64 0) (.bool false)
  have b2' : Below w.heap.size w (((w1.setCell ⟨w.heap.size, 0, none⟩ (.int .i64 0)).setCell ⟨w.heap.size, 1, none⟩ (.int .i64 0)).setCell ⟨w.heap.size, 2, none⟩ (.bool false)) := (((b1'.setCell (p := ⟨w.heap.size, 0, none⟩) (Nat.le_refl _) _).setCell (p := ⟨w.heap.size, 1, none⟩) (Nat.le_refl _) _).setCell (p := ⟨w.heap.size, 2, none⟩) (Nat.le_refl _) _)
  have hbk3 := row_set hbk2 (.int .i64 0) (.int .i64 0) (.bool false)
  have b3' : Below w.heap.size w ((((((w1.setCell ⟨w.heap.size, 0, none⟩ (.int .i64 0)).setCell ⟨w.heap.size, 1, none⟩ (.int .i64 0)).setCell ⟨w.heap.size, 2, none⟩ (.bool false)).setCell ⟨w.heap.size, 0, none⟩ (.int .i64 0)).setCell ⟨w.heap.size, 1, none⟩ (.int .i64 0)).setCell ⟨w.heap.size, 2, none⟩ (.bool false)) := (((b2'.setCell (p := ⟨w.heap.size, 0, none⟩) (Nat.le_refl _) _).setCell (p := ⟨w.heap.size, 1, none⟩) (Nat.le_refl _) _).setCell (p := ⟨w.heap.size, 2, none⟩) (Nat.le_refl _) _)
  have KK := hide' (And.intro hbk3 b3')
  clear HP hbk hbk2 hbk3 b1 b1' b2' b3'
  go_wp2
  (try simp only [Exit.inBlock, Exit.then])
  refine bodyPost_ret (Hp.results_row_tmp rfl _ _ w.heap.size 110 #[.int .i64 0, .int .i64 0, .bool false] (0, 0) _ rfl KK.out.1 Try.underlying110 rfl (by kernel_rfl)) rfl ?_
  exact ⟨rfl, KK.out.2⟩
/-- the last taken away -/
theorem cut_core {g n : Nat} {us : List (Bk × Nat)} (H : Hm B h fv (some ⟨g, 0, none⟩) cap us cnt w) (hn : n < us.length) : Hm B h fv (some ⟨g, 0, none⟩) cap (us.take n) cnt (((((w.setCell ⟨g, n * 4, none⟩ (.int .i64 0)).setCell ⟨g, n * 4 + 1, none⟩ (.int .i64 0)).setCell ⟨g, n * 4 + 2, none⟩ (.bool false)).setCell ⟨g, n * 4 + 3, none⟩ (.int .i64 0)).setCell ⟨h, 1, none⟩ (.slice (some ⟨g, 0, none⟩) n cap)) ∧ Turn (Own h (some ⟨g, 0, none⟩)) w (((((w.setCell ⟨g, n * 4, none⟩ (.int .i64 0)).setCell ⟨g, n * 4 + 1, none⟩ (.int .i64 0)).setCell ⟨g, n * 4 + 2, none⟩ (.bool false)).setCell ⟨g, n * 4 + 3, none⟩ (.int .i64 0)).setCell ⟨h, 1, none⟩ (.slice (some ⟨g, 0, none⟩) n cap)) := by
  obtain ⟨h1, t1⟩ := H.put n (⟨0, 0, false⟩, 0) hn
  change Hm B h fv (some ⟨g, 0, none⟩) cap (us.set n (⟨0, 0, false⟩, 0)) cnt ((((w.setCell ⟨g, n * 4, none⟩ (.int .i64 0)).setCell ⟨g, n * 4 + 1, none⟩ (.int .i64 0)).setCell ⟨g, n * 4 + 2, none⟩ (.bool false)).setCell ⟨g, n * 4 + 3, none⟩ (.int .i64 0)) at h1
  change Turn _ w ((((w.setCell ⟨g, n * 4, none⟩ (.int .i64 0)).setCell ⟨g, n * 4 + 1, none⟩ (.int .i64 0)).setCell ⟨g, n * 4 + 2, none⟩ (.bool false)).setCell ⟨g, n * 4 + 3, none⟩ (.int .i64 0)) at t1
  generalize ((((w.setCell ⟨g, n * 4, none⟩ (.int .i64 0)).setCell ⟨g, n * 4 + 1, none⟩ (.int .i64 0)).setCell ⟨g, n * 4 + 2, none⟩ (.bool false)).setCell ⟨g, n * 4 + 3, none⟩ (.int .i64 0)) = W at *
  have t2 : Turn (fun k => k = h) W (W.setCell ⟨h, 1, none⟩ (.slice (some ⟨g, 0, none⟩) n cap)) := (Turn.refl (fun k => k = h) W).setCell (p := ⟨h, 1, none⟩) (fun _ => rfl) _
  refine ⟨⟨?_, ?_, H.lo⟩, t1.trans (t2.mono (fun k _ e => .inl e))⟩
  · rw [List.length_take, Nat.min_eq_left (by omega)]
    exact M.set_block h1.hh
  · have r1 := own_cut h1.row (k := n) (by rw [List.length_set]; omega)
    rw [flat_take ic_len _ _ (by rw [List.length_set]; omega), List.take_set_of_le (Nat.le_refl _)] at r1
    rw [List.length_take, Nat.min_eq_left (by omega)]
    exact t2.row r1 (fun j hj e => (h1.at (M.own_at hj)).1 e)
/-- the end of a pop -/
theorem pop_end {us vs : List (Bk × Nat)} {w1 w2 : World} (hd : ∀ j, D j ↔ Own h ao j) (t1 : Turn (Own h ao) w w1) (S : Sift lt B h fv ao cap us vs cnt w1 w2) : To D B h fv vs cnt w w2 :=
  ⟨Own h ao, ⟨_, _, S.hm, fun j => Iff.rfl⟩, (t1.trans S.turn).mono (fun j _ q => (hd j).2 q), fun j hj => .inl ((hd j).2 hj)⟩
theorem pop_end2 {us vs : List (Bk × Nat)} {w1 w2 w3 : World} {b : Nat} (hd : ∀ j, D j ↔ Own h ao j) (t1 : Turn (Own h ao) w w1) (S : Sift lt B h fv ao cap us vs cnt w1 w2) (t2 : Turn (fun j => j = b) w2 w3) (hb : w.heap.size ≤ b) (hown : ∀ j, Own h ao j → j < w.heap.size) : To D B h fv vs cnt w w3 :=
  ⟨Own h ao, ⟨_, _, S.hm.kept t2 (fun j hj e => by have := hown j hj; omega), fun j => Iff.rfl⟩, ((t1.trans S.turn).mono (fun j _ q => (hd j).2 q)).then t2 (fun j hj e => by omega), fun j hj => .inl ((hd j).2 hj)⟩
end HB
end Go.Proofs.Ytfeehnfpfheojaa
