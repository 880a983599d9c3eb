import Derived.Test.YtfeehnfpfheojaaHxB
set_option linter.unusedVariables false
set_option linter.unusedSimpArgs false
namespace Go.Proofs.Ytfeehnfpfheojaa
open Go.RowKit Go.Sort
namespace HB
open Hp
variable {nf : Nat} {cb : Array Value} {lt : Bk → Bk → Bool} {A : Nat → Prop} {K : World → Prop}
variable {B h : Nat} {fv : Value} {ao : Option Addr} {cap : Nat} {zs : List (Bk × Nat)} {cnt : Nat} {w w' : World} {D : Nat → Prop}
set_option maxRecDepth 100000 in
set_option maxHeartbeats 4000000 in
theorem pop_some (N : Less nf cb lt A K) {z : Bk × Nat} {n : Nat} (H : Ho D B h (.func (.func nf) #[] cb) zs cnt w) (hK : K w) (hA : ∀ j, A j → ¬ D j) (hn : zs.length = n + 1) (hz : zs[0]? = some z) (hl : zs.length ≤ 1099511627776) :
    Calls Try.prog 98 #[.pointer (some ⟨h, 0, none⟩)] w fun e w' => e = .returned (.tuple #[.agg #[.int .i64 z.1.addr, .int .i64 z.1.size, .bool z.1.free], .bool true]) ∧ ∃ zs', (z :: zs').Perm zs ∧ (SWO lt → Heap (ahd lt) zs → Heap (ahd lt) zs') ∧ To D B h (.func (.func nf) #[] cb) zs' cnt w w' := by
  have HH := hide' H
  have hnew := heap_alloc_new w (.cells #[.int .i64 0, .int .i64 0, .bool false] 110)
  have hba := (Below.refl w.heap.size w).alloc (Nat.le_refl _) (.cells #[.int .i64 0, .int .i64 0, .bool false] 110)
  have hla : w.heap.size < (w.alloc (.cells #[.int .i64 0, .int .i64 0, .bool false] 110)).heap.size := by simp
  have HP := hide' (peek_some (H.below hba) hz)
  obtain ⟨ao, cap, hm, hd⟩ := H
  obtain ⟨g, rfl, hc, hg, hgh⟩ := hm.some (by omega)
  have HN := hide' N
  have HK := hide' hK
  have HA := hide' (fun j a (q : Own h (some ⟨g, 0, none⟩) j) => hA j a ((hd j).2 q))
  have Hd := hide' hd
  have Hl := hide' hl
  have Hz := hide' hz
  have Hn := hide' hn
  have Hm0 := hide' hm
  have Hcap := hide' hc
  have Hw : Hid (wrap64 (n : Int) = (n : Int)) := (show wrap64 (n : Int) = (n : Int) by unfold wrap64; omega)
  obtain ⟨zl, hzl⟩ : ∃ y, zs[n]? = some y := ⟨_, List.getElem?_eq_getElem (by omega)⟩
  have Hzl := hide' hzl
  have hwn := Hw.out
  have hcn : n + 1 ≤ cap := by omega
  have hnc : n ≤ cap := by omega
  clear N hK hA hd hl hz hzl hc
  go_enter Try.func98, Try.ntmps98
  go_wp2_with fail
  refine HP.out.mono ?_
  rintro e w1 ⟨rfl, b1⟩
  have hbk := (b1.block w.heap.size (by simp)).trans hnew
  have k0 : w1.cell? ⟨w.heap.size, 0, none⟩ = some (.int .i64 0) := by rw [Lib.cell_of_heap hbk]; rfl
  have k1 : w1.cell? ⟨w.heap.size, 1, none⟩ = some (.int .i64 0) := by rw [Lib.cell_of_heap hbk]; rfl
  have k2 : w1.cell? ⟨w.heap.size, 2, none⟩ = some (.bool false) := by rw [Lib.cell_of_heap hbk]; rfl
  have kf := fun j => Lib.frozen_of_heap (w := w1) hbk j
  have b1' : Below w.heap.size w w1 := hba.trans (b1.mono (Nat.le_of_lt hla))
  have hbk2 := row_set hbk (.int .i64 z.1.addr) (.int .i64 z.1.size) (.bool z.1.free)
  have b2' : Below w.heap.size w (((w1.setCell ⟨w.heap.size, 0, none⟩ (.int .i64 z.1.addr)).setCell ⟨w.heap.size, 1, none⟩ (.int .i64 z.1.size)).setCell ⟨w.heap.size, 2, none⟩ (.bool z.1.free)) := (((b1'.setCell (p := ⟨w.heap.size, 0, none⟩) (Nat.le_refl _) _).setCell (p := ⟨w.heap.size, 1, none⟩) (Nat.le_refl _) _).setCell (p := ⟨w.heap.size, 2, none⟩) (Nat.le_refl _) _)
  have hm2 := hm.kept (turn_below (S := fun _ => False) b2') (fun _ _ q => q)
  have c1w := (hm.kept (turn_below (S := fun _ => False) b1') (fun _ _ q => q)).c1
  rw [hn] at c1w
  have hbh : w.heap.size ≠ h := fun e => Nat.lt_irrefl _ (e ▸ hm.lt)
  have Hbk2 := hide' hbk2
  have c1 := hm2.c1
  rw [hn] at c1
  have HCs := hide' (swap_any 0 n z zl hm2 Hz.out Hzl.out)
  have Hb2 := hide' b2'
  clear hn hm HP b1 hm2 b2' HH c1 hbk hbk2 b1' hnew hba hla
  go_wp2_with fail
  rw [hwn]
  generalize (((w1.setCell ⟨w.heap.size, 0, none⟩ (.int .i64 z.1.addr)).setCell ⟨w.heap.size, 1, none⟩ (.int .i64 z.1.size)).setCell ⟨w.heap.size, 2, none⟩ (.bool z.1.free)) = W2 at *
  refine HCs.out.mono ?_
  rintro e w3 ⟨rfl, h3, t3⟩
  clear HCs c1w kf k0 k1 k2
  have len3 : (swp zs 0 n).length = n + 1 := by rw [swp_length]; exact Hn.out
  have c3 := h3.c1
  rw [len3] at c3
  have fh3 := h3.fx 1
  obtain ⟨y3, hy3⟩ : ∃ y, (swp zs 0 n)[n]? = some y := ⟨_, List.getElem?_eq_getElem (by omega)⟩
  obtain ⟨i0, i1, i2, i3⟩ := h3.item hy3
  have fr3 := h3.fr
  obtain ⟨h4, t4⟩ := cut_core h3 (n := n) (by omega)
  have t24 := t3.trans t4
  have K4 := hide' (And.intro h4 t24)
  have Hbk4 : Hid ((((((w3.setCell ⟨g, n * 4, none⟩ (.int .i64 0)).setCell ⟨g, n * 4 + 1, none⟩ (.int .i64 0)).setCell ⟨g, n * 4 + 2, none⟩ (.bool false)).setCell ⟨g, n * 4 + 3, none⟩ (.int .i64 0)).setCell ⟨h, 1, none⟩ (.slice (some ⟨g, 0, none⟩) n cap)).heap[w.heap.size]? = some (.cells #[.int .i64 z.1.addr, .int .i64 z.1.size, .bool z.1.free] 110 (0, 0))) := hide' ((t24.block w.heap.size (lt_of_heap Hbk2.out) (fun q => Nat.lt_irrefl _ (Hm0.out.own q).2)).trans Hbk2.out)
  clear h4 t24 t4 h3 t3 hy3 len3
  go_wp2_with fail
  generalize ((((w3.setCell ⟨g, n * 4, none⟩ (.int .i64 0)).setCell ⟨g, n * 4 + 1, none⟩ (.int .i64 0)).setCell ⟨g, n * 4 + 2, none⟩ (.bool false)).setCell ⟨g, n * 4 + 3, none⟩ (.int .i64 0)).setCell ⟨h, 1, none⟩ (.slice (some ⟨g, 0, none⟩) n cap) = W4 at *
  clear c3 fh3 i0 i1 i2 i3 fr3
  have tW : Turn (Own h (some ⟨g, 0, none⟩)) w W4 := (turn_below Hb2.out).trans K4.out.2
  have KW4 : Hid (K W4) := HN.out.stay _ _ _ HK.out tW HA.out
  have HTW := hide' tW
  have hS : Hid (Calls Try.prog 107 #[.pointer (some ⟨h, 0, none⟩), .int .i64 0] W4 fun e w' => e = .returned (.tuple #[]) ∧ ∃ vs, Sift lt B h (.func (.func nf) #[] cb) (some ⟨g, 0, none⟩) cap ((swp zs 0 n).take n) vs cnt W4 w' ∧ (SWO lt → Sink (ahd lt) ((swp zs 0 n).take n) 0 → Heap (ahd lt) vs)) := by
    by_cases h0 : n = 0
    · subst h0
      have h5 := K4.out.1
      rw [List.take_zero] at h5
      refine (sink_none h5).mono ?_
      rintro e w' ⟨he, hw⟩
      subst hw
      rw [List.take_zero]
      exact ⟨he, [], ⟨h5, .refl _, Turn.refl _ _⟩, fun _ _ i hi0 hi => by simp at hi⟩
    · have hl5 : ((swp zs 0 n).take n).length = n := by rw [List.length_take, swp_length]; have := Hn.out; omega
      exact sink_any HN.out 0 K4.out.1 KW4.out HA.out (by omega) (by have := Hl.out; have := Hn.out; omega)
  clear tW
  refine hS.out.mono ?_
  rintro e w5 ⟨rfl, vs, S5, R5⟩
  have KK : Hid ((z :: vs).Perm zs ∧ (SWO lt → Heap (ahd lt) zs → Heap (ahd lt) vs) ∧ To D B h (.func (.func nf) #[] cb) vs cnt w w5) := hide' ⟨(List.Perm.cons z S5.perm).trans (take_perm Hn.out Hz.out), fun s r => R5 s (Sink.start r Hn.out), pop_end Hd.out HTW.out S5⟩
  have hbk5 := (S5.turn.block w.heap.size (lt_of_heap Hbk4.out) (fun q => Nat.lt_irrefl _ (Hm0.out.own q).2)).trans Hbk4.out
  have m0 : w5.cell? ⟨w.heap.size, 0, none⟩ = some (.int .i64 z.1.addr) := by rw [Lib.cell_of_heap hbk5]; rfl
  have m1 : w5.cell? ⟨w.heap.size, 1, none⟩ = some (.int .i64 z.1.size) := by rw [Lib.cell_of_heap hbk5]; rfl
  have m2 : w5.cell? ⟨w.heap.size, 2, none⟩ = some (.bool z.1.free) := by rw [Lib.cell_of_heap hbk5]; rfl
  have mf := fun j => Lib.frozen_of_heap (w := w5) hbk5 j
  have KR := hide' (row_set hbk5 (.int .i64 z.1.addr) (.int .i64 z.1.size) (.bool z.1.free))
  have t6 : Turn (fun j => j = w.heap.size) w5 (((w5.setCell ⟨w.heap.size, 0, none⟩ (.int .i64 z.1.addr)).setCell ⟨w.heap.size, 1, none⟩ (.int .i64 z.1.size)).setCell ⟨w.heap.size, 2, none⟩ (.bool z.1.free)) := (((Turn.refl (fun j => j = w.heap.size) w5).setCell (p := ⟨w.heap.size, 0, none⟩) (fun _ => rfl) _).setCell (p := ⟨w.heap.size, 1, none⟩) (fun _ => rfl) _).setCell (p := ⟨w.heap.size, 2, none⟩) (fun _ => rfl) _
  have KT : Hid (To D B h (.func (.func nf) #[] cb) vs cnt w (((w5.setCell ⟨w.heap.size, 0, none⟩ (.int .i64 z.1.addr)).setCell ⟨w.heap.size, 1, none⟩ (.int .i64 z.1.size)).setCell ⟨w.heap.size, 2, none⟩ (.bool z.1.free))) := hide' (pop_end2 Hd.out HTW.out S5 t6 (Nat.le_refl _) (fun j q => (Hm0.out.own q).2))
  clear t6
  clear hbk5
  clear S5 R5 hS HTW K4
  go_wp2
  (try simp only [Exit.inBlock, Exit.then])
  refine bodyPost_ret (Hp.results_row_tmp rfl _ _ w.heap.size 110 #[.int .i64 z.1.addr, .int .i64 z.1.size, .bool z.1.free] (0, 0) _ rfl KR.out Try.underlying110 rfl (by kernel_rfl)) rfl ?_
  exact ⟨rfl, vs, KK.out.1, KK.out.2.1, KT.out⟩
end HB
end Go.Proofs.Ytfeehnfpfheojaa
