import Derived.Test.YtfeehnfpfheojaaHsB
import Derived.Deep.RegionLaw
set_option linter.unusedVariables false
set_option linter.unusedSimpArgs false
namespace Go.Proofs.Ytfeehnfpfheojaa
open Go.RowKit Go.Sort
namespace HB
open Hp
variable {nf : Nat} {cb : Array Value} {lt : Bk → Bk → Bool} {A : Nat → Prop} {K : World → Prop}
variable {B h : Nat} {fv : Value} {ao : Option Addr} {cap : Nat} {zs : List (Bk × Nat)} {cnt : Nat} {w w' : World} {D : Nat → Prop}
/-- a heap, and the blocks that are its own -/
def Ho (D : Nat → Prop) (B h : Nat) (fv : Value) (zs : List (Bk × Nat)) (cnt : Nat) (w : World) : Prop := ∃ ao cap, Hm B h fv ao cap zs cnt w ∧ ∀ j, D j ↔ Own h ao j
/-- what a call on a heap leaves -/
def To (D : Nat → Prop) (B h : Nat) (fv : Value) (zs : List (Bk × Nat)) (cnt : Nat) (w w' : World) : Prop := ∃ D', Ho D' B h fv zs cnt w' ∧ Turn D w w' ∧ ∀ j, D' j → D j ∨ w.heap.size ≤ j
theorem Ho.lo (H : Ho D B h fv zs cnt w) {j : Nat} (hj : D j) : B ≤ j ∧ j < w.heap.size := by
  obtain ⟨ao, cap, hm, hd⟩ := H
  exact hm.own ((hd j).1 hj)
theorem Ho.base (H : Ho D B h fv zs cnt w) : B ≤ w.heap.size := by
  obtain ⟨ao, cap, hm, hd⟩ := H
  have := hm.lo
  have := hm.lt
  omega
theorem Ho.kept {S : Nat → Prop} (H : Ho D B h fv zs cnt w) (t : Turn S w w') (hn : ∀ j, D j → ¬ S j) : Ho D B h fv zs cnt w' := by
  obtain ⟨ao, cap, hm, hd⟩ := H
  exact ⟨ao, cap, hm.kept t (fun j hj => hn j ((hd j).2 hj)), hd⟩
theorem Ho.below (H : Ho D B h fv zs cnt w) (t : Below w.heap.size w w') : Ho D B h fv zs cnt w' := H.kept (turn_below (S := fun _ => False) t) (fun _ _ q => q)
theorem info : (Try.prog.info? 165).map (fun i => (i.zero, i.size, i.bytes)) = some (some (.agg #[.int .i64 0, .int .i64 0, .bool false, .int .i64 0]), 4, 32) := by kernel_rfl
/-- a thing more, in its place -/
theorem push_core {z : Bk × Nat} {gg cap' : Nat} {w0 w1 : World} (H : Hm B h fv ao cap zs cnt w) (hb0 : Below w.heap.size w w0) (hown1 : w1.ownsRow B 165 4 (.slice (some ⟨gg, 0, none⟩) (zs.length + 1) cap') (zs.length + 1) (zs.flatMap ic ++ ic z))
    (hgrow : w0.grownBy w1 (Value.slice ao zs.length cap).ownBlock) (hat : (Value.slice ao zs.length cap).ownBlock = some gg ∨ gg = w0.heap.size) :
    Hm B h fv (some ⟨gg, 0, none⟩) cap' (zs ++ [z]) cnt (w1.setCell ⟨h, 1, none⟩ (.slice (some ⟨gg, 0, none⟩) (zs.length + 1) cap')) ∧ Turn (Own h ao) w (w1.setCell ⟨h, 1, none⟩ (.slice (some ⟨gg, 0, none⟩) (zs.length + 1) cap')) ∧ (M.At ao gg ∨ w.heap.size ≤ gg) := by
  have hgb : M.At ao gg ∨ w.heap.size ≤ gg := by
    rcases hat with q | q
    · exact .inl (M.own_at q)
    · exact .inr (by rw [q]; exact hb0.size)
  have hne : gg ≠ h := by
    rcases hgb with q | q
    · exact (H.at q).1
    · have := H.lt; omega
  have t0 : Turn (M.At ao) w w1 := ((turn_below hb0)).grown hgrow (fun k hk _ => M.own_at hk)
  have hx1 := (t0.block h H.lt (fun q => (H.at q).1 rfl)).trans H.hh
  have t1 : Turn (fun k => k = h) w1 (w1.setCell ⟨h, 1, none⟩ (.slice (some ⟨gg, 0, none⟩) (zs.length + 1) cap')) := (Turn.refl (fun k => k = h) w1).setCell (p := ⟨h, 1, none⟩) (fun _ => rfl) _
  refine ⟨⟨?_, ?_, H.lo⟩, ?_, hgb⟩
  · rw [List.length_append]; exact M.set_block hx1
  · rw [List.length_append, List.flatMap_append]
    have := t1.row hown1 (fun j hj e => by
      have : gg = j := by simpa [Value.ownBlock] using hj
      omega)
    simpa using this
  · exact (t0.mono (fun k _ q => Or.inr q)).trans (t1.mono (fun k _ e => .inl e))
theorem count_core (H : Hm B h fv ao cap zs cnt w) (c : Nat) : Hm B h fv ao cap zs c (w.setCell ⟨h, 2, none⟩ (.int .i64 (c : Nat))) ∧ Turn (Own h ao) w (w.setCell ⟨h, 2, none⟩ (.int .i64 (c : Nat))) := by
  have t1 : Turn (fun k => k = h) w (w.setCell ⟨h, 2, none⟩ (.int .i64 (c : Nat))) := (Turn.refl (fun k => k = h) w).setCell (p := ⟨h, 2, none⟩) (fun _ => rfl) _
  exact ⟨⟨M.set_block H.hh, t1.row H.row (fun j hj e => (H.at (M.own_at hj)).1 e), H.lo⟩, t1.mono (fun k _ e => .inl e)⟩
/-- the end of a push -/
theorem push_end {gg cap' : Nat} {us vs : List (Bk × Nat)} {w1 w2 : World} (hd : ∀ j, D j ↔ Own h ao j) (t1 : Turn (Own h ao) w w1) (hgb : M.At ao gg ∨ w.heap.size ≤ gg) (S : Sift lt B h fv (some ⟨gg, 0, none⟩) cap' us vs cnt w1 w2) : To D B h fv vs cnt w w2 := by
  have hsub : ∀ j, Own h (some ⟨gg, 0, none⟩) j → D j ∨ w.heap.size ≤ j := by
    rintro j (rfl | ⟨a, ha, rfl⟩)
    · exact .inl ((hd _).2 (.inl rfl))
    · cases ha
      rcases hgb with q | q
      · exact .inl ((hd _).2 (.inr q))
      · exact .inr q
  refine ⟨Own h (some ⟨gg, 0, none⟩), ⟨_, _, S.hm, fun j => Iff.rfl⟩, ?_, hsub⟩
  exact (t1.mono (S' := D) (fun j _ q => (hd j).2 q)).then S.turn (fun j hj q => by
    rcases hsub j q with r | r
    · exact r
    · omega)
set_option maxRecDepth 100000 in
set_option maxHeartbeats 4000000 in
theorem push_any (N : Less nf cb lt A K) (x : Bk) (H : Ho D B h (.func (.func nf) #[] cb) zs cnt w) (hK : K w) (hA : ∀ j, A j → ¬ D j) (hl : zs.length < 1099511627776) (hc : cnt < 4611686018427387904) :
    Calls Try.prog 94 #[.pointer (some ⟨h, 0, none⟩), .agg #[.int .i64 x.addr, .int .i64 x.size, .bool x.free]] w fun e w' => e = .returned (.tuple #[]) ∧ ∃ zs', zs'.Perm (zs ++ [(x, cnt)]) ∧ (SWO lt → Heap (ahd lt) zs → Heap (ahd lt) zs') ∧ To D B h (.func (.func nf) #[] cb) zs' (cnt + 1) w w' := by
  have hBw := H.base
  obtain ⟨ao, cap, hm, hd⟩ := H
  obtain ⟨i0, hi0, hz0, hz1, hz2⟩ := info_parts info
  have c1 := hm.c1
  have c2 := hm.c2
  have f1 := hm.fx 1
  have lt := hm.lt
  have row := hm.row
  have n1 : Hid (zs.length + 1 ≤ maxLen) := (show zs.length + 1 ≤ maxLen by unfold maxLen; omega)
  have n2 : Hid ((zs.length + 1) * 32 ≤ 140737488355328) := (show (zs.length + 1) * 32 ≤ 140737488355328 by omega)
  have ne : some h ≠ (Value.slice ao zs.length cap).ownBlock := fun q => (hm.at (M.own_at q.symm)).1 rfl
  have new2 : ∀ o o', ((w.alloc o).alloc o').drew.heap[w.heap.size + 1]? = some o' := fun o o' => by show ((w.alloc o).alloc o').heap[w.heap.size + 1]? = some o'; have := heap_alloc_new (w.alloc o) o'; rw [show (w.alloc o).heap.size = w.heap.size + 1 by simp] at this; exact this
  have new1 := World.new_ne w ⟨h, 1, none⟩ c1
  have newc := World.new_ne w ⟨h, 2, none⟩ c2
  have HH := hide' hm
  have fal : ∀ o o', ((w.alloc o).alloc o').drew.frozen? ⟨h, 1, none⟩ = false := fun o o' => (World.frozen?_of_block (w := w) ((Below.heap_alloc _ _ _ (by simp; omega)).trans (Below.heap_alloc _ _ _ lt))).trans f1
  have cal : ∀ o o', ((w.alloc o).alloc o').drew.cell? ⟨h, 1, none⟩ = some (.slice ao zs.length cap) := fun o o' => (World.cell?_of_block (w := w) ((Below.heap_alloc _ _ _ (by simp; omega)).trans (Below.heap_alloc _ _ _ lt))).trans c1
  have HN := hide' N
  have HK := hide' hK
  have HA := hide' (fun j a (q : Own h ao j) => hA j a ((hd j).2 q))
  have Hd := hide' hd
  have Hl := hide' hl
  have Hw : Hid (wrap64 ((cnt : Int) + 1) = ((cnt + 1 : Nat) : Int)) := (show wrap64 ((cnt : Int) + 1) = ((cnt + 1 : Nat) : Int) by unfold wrap64; omega)
  have Hold := hide' (fun j a => N.old w j hK a)
  clear hl hc hm hd hA hK N
  go_enter Try.func94, Try.ntmps94
  go_wp2_with fail
  go_region_law ((refine step_append_lies _ (by rfl) _ _ _ (by rfl) B 165 i0 _ 4 32 Try.underlying156 hi0 hz0 hz1 hz2 rfl (by omega) (.slice ao zs.length cap) zs.length (zs.flatMap ic) (by rfl) (((row.alloc _).alloc _).drew) ⟨w.heap.size + 1, 0, none⟩ 1 1 [.int .i64 x.addr, .int .i64 x.size, .bool x.free, .int .i64 (cnt : Nat)] (by rfl) (by rfl) (World.news_of_block (cs := #[.int .i64 x.addr, .int .i64 x.size, .bool x.free, .int .i64 (cnt : Nat)]) (t := 165) (fr := (0, 0)) (new2 _ _)) (by simp [Value.oneCell']) (by omega) n1.out n2.out (by simp; omega) (w.heap.size + 2) (by simp) ?_; intro gg cap' w1 hown1 hgrow hat hlt; have a0 := (hgrow.cell_far ⟨h, 1, none⟩ (by simp; omega) ne).trans (cal _ _); have a0f := (hgrow.frozen_far ⟨h, 1, none⟩ (by simp; omega) ne).trans (fal _ _)))
  all_goals
    have hb0 : Below w.heap.size w ((w.alloc (.cells #[.int .i64 x.addr, .int .i64 x.size, .bool x.free] 110)).alloc (.cells #[.int .i64 x.addr, .int .i64 x.size, .bool x.free, .int .i64 (cnt : Nat)] 165)).drew := (((Below.refl _ _).alloc (Nat.le_refl _) _).alloc (by simp) _).drew
    obtain ⟨L1, S1, S2⟩ := push_core (z := (x, cnt)) HH.out hb0 hown1 hgrow (by simpa using hat)
    generalize (w1.setCell ⟨h, 1, none⟩ (.slice (some ⟨gg, 0, none⟩) (zs.length + 1) cap')) = W at *
    have c1W := L1.c1
    have c2W := L1.c2
    have f2W := L1.fx 2
    obtain ⟨L2, S3⟩ := count_core L1 (cnt + 1)
    have S4 : Turn (Own h ao) w (W.setCell ⟨h, 2, none⟩ (.int .i64 ((cnt + 1 : Nat) : Int))) := S1.then S3 (fun j hj q => by
      rcases q with q | ⟨a, ha, rfl⟩
      · exact .inl q
      · cases ha
        rcases S2 with r | r
        · exact .inr r
        · exfalso; exact absurd hj (Nat.not_lt.2 r))
    have c1V := L2.c1
    rw [List.length_append] at c1W c1V
    have KW : Hid (K (W.setCell ⟨h, 2, none⟩ (.int .i64 ((cnt + 1 : Nat) : Int)))) := HN.out.stay _ _ _ HK.out S4 HA.out
    have HA2 : Hid (∀ j, A j → ¬ Own h (some ⟨gg, 0, none⟩) j) := by
      intro j a q
      rcases q with q | ⟨b, hb, rfl⟩
      · exact HA.out j a (.inl q)
      · cases hb
        rcases S2 with r | r
        · exact HA.out _ a (.inr r)
        · have := Hold.out _ a
          exact absurd this (Nat.not_lt.2 r)
    have HCr := hide' (rise_any HN.out zs.length L2 KW.out HA2.out (by simp) (by rw [List.length_append]; exact Hl.out))
    have KK := hide' (And.intro S4 S2)
    have Hz : Hid (wrap64 (zs.length : Int) = (zs.length : Int)) := (show wrap64 (zs.length : Int) = (zs.length : Int) by have := Hl.out; unfold wrap64; omega)
    have hw := Hw.out
    clear L1 S1 S2 a0 a0f hown1 hgrow hat hlt c1 f1 c2 newc fal cal new1 row ne new2 hb0 L2 S3 S4 KW HA2
    go_wp2_with fail
    rw [Hz.out]
    refine HCr.out.mono ?_
    rintro e w5 ⟨rfl, vs, S5, R5⟩
    have K5 := hide' (And.intro (push_end Hd.out KK.out.1 KK.out.2 S5) (And.intro S5.perm R5))
    clear S5 R5 HCr KK c1W c2W f2W c1V
    go_wp2
    go_end0
    exact ⟨rfl, vs, K5.out.2.1, fun s r => K5.out.2.2 s (Rise.start r _), K5.out.1⟩
end HB
end Go.Proofs.Ytfeehnfpfheojaa
