import Derived.Test.YtjhnlmedmpcgoaaAc5
set_option linter.unusedVariables false
set_option linter.unusedSimpArgs false
namespace Go.Proofs.Ytjhnlmedmpcgoaa
open Go.RowKit
namespace Q
open C (Tk)
variable {D U : Nat → Prop} {B K : Nat} {m : Mr} {w w' w1 : World} {s : Sq} {Db : Nat → Prop} {P E : Nat → Nat → Prop}
set_option maxRecDepth 100000 in
set_option maxHeartbeats 16000000 in
theorem act2 (n : Int) (h : Tb B s Db P E w) (r : Rest K s) (hB : B ≤ w.heap.size) (hK : K < 8796093022209) :
    Calls Try.prog 22 #[.pointer (some ⟨s.t, 0, none⟩), .agg #[.int .i64 2, .int .i64 n]] w fun e w' => e = .returned (.bool true) ∧ AQ K B s (Sb s Db P E) w w' := by
  obtain ⟨i0, hiA, hz0A, hz1A, hz2A⟩ := info_parts info76
  obtain ⟨i1, hiB, hz0B, hz1B, hz2B⟩ := info_parts info26
  obtain ⟨w1, x, Hw1, Hx, b1, x1, t1, c0, c1, c3, o0, o1, nx⟩ := at_box 2 n h
  have hB1 : B ≤ w1.heap.size := Nat.le_trans hB b1.size
  have hvl := r.vl
  have hkN := r.kN
  have lc : s.vc.length = s.MP.length := by rw [r.vc, List.length_map]
  have lo : s.vo.length = s.MP.length := by rw [r.vo, List.length_map]
  obtain ⟨N, hN⟩ : ∃ N, N = s.vm.length := ⟨_, rfl⟩
  have K0 : Hid (To B s (Sb s Db P E) w1 w1) := hide' (t1.same (Below.refl _ _))
  have HS := hide' (And.intro r (And.intro b1 (And.intro x1 (And.intro nx (And.intro hB1 hK)))))
  have HLn : Hid (s.vc.length < 17592186044000 ∧ s.vo.length < 17592186044000 ∧ s.vm.length < 17592186044000) := hide' ⟨by omega, by omega, by omega⟩
  have HNm : Hid (N = s.MP.length ∧ N = s.vm.length) := hide' ⟨by omega, hN⟩
  rw [← hN] at c1
  have F2 := hide' t1.fc
  have d4 : w1.cell? ⟨s.t, 4, none⟩ = some (.slice s.rc.a s.vc.length s.rc.c) := F2.out.c
  clear h r b1 x1 t1 c3 nx hB hK hvl hkN lc lo hN c0 hB1
  go_enter Try.func22, Try.ntmps22
  go_upto_region 1 with fail
  rw [← Hw1.out, ← Hx.out]
  clear Hw1
  go_wp2_with (at_builtin; refine wpList_more (e := 24) (m := 1) Try.underlying44 info24 rfl (by omega) w1 rfl _ _ rfl F2.out.row (hide' HLn.out.1) (.inl (by omega)) HS.out.2.2.2.2.1 [.pointer none] rfl (by simp [Value.oneCell']) _ rfl rfl ?_; intro gg cap' w3 r3 t3 hg3; have a0 := (t3.cell (p := ⟨s.t, 4, none⟩) F2.out.lt F2.out.na).trans F2.out.c; have a1 : w3.frozen? ⟨s.t, 4, none⟩ = false := (World.frozen?_of_block (w := w1) (t3.block s.t F2.out.lt F2.out.na)).trans F2.out.f)
  have K2 : Hid (To B { s with vc := s.vc ++ [.pointer none], rc := ⟨some ⟨gg, 0, none⟩, cap'⟩ } (Sb s Db P E) w1 (w3.setCell ⟨s.t, 4, none⟩ (.slice (some ⟨gg, 0, none⟩) (s.vc.length + 1) cap'))) := hide' (K0.out.trans (fun _ _ _ z => z.growC (Below.refl _ _) r3 t3 hg3))
  clear r3 t3 hg3 a0 a1 F2 d4 K0 c1 o0 o1
  generalize w3.setCell ⟨s.t, 4, none⟩ (.slice (some ⟨gg, 0, none⟩) (s.vc.length + 1) cap') = V2 at *
  obtain ⟨_, _, _, z4⟩ := K2.out.tb
  have FA := hide' z4.fo
  have xb := K2.out.box (x := x) HS.out.2.2.1 HS.out.2.2.2.1
  have p1A : V2.cell? ⟨x, 1, none⟩ = some (.int .i64 n) := (Lib.cell_of_heap xb 1).trans rfl
  have HwBA : Hid (B ≤ V2.heap.size) := hide' (Nat.le_trans HS.out.2.2.2.2.1 (size_to K2.out))
  clear z4 xb
  have rowA := FA.out.row
  have s1A : V2.cell? ⟨s.t, 5, none⟩ = some (.slice s.ro.a s.vo.length s.ro.c) := FA.out.c
  have f1A : V2.frozen? ⟨s.t, 5, none⟩ = false := FA.out.f
  have ltsA : s.t < V2.heap.size := FA.out.lt
  have n1A : Hid (s.vo.length + 1 ≤ maxLen) := hide' (by have := HLn.out; unfold maxLen; omega)
  have n2A : Hid ((s.vo.length + 1) * 8 ≤ 140737488355328) := hide' (by have := HLn.out; omega)
  have neA : some s.t ≠ (Value.slice s.ro.a s.vo.length s.ro.c).ownBlock := fun q => FA.out.na (own_at q.symm)
  replace rowA : V2.ownsRow B 76 1 (.slice s.ro.a s.vo.length s.ro.c) s.vo.length s.vo := rowA
  have hBVA : B ≤ V2.heap.size := HwBA.out
  have new1A := World.new_ne V2 ⟨s.t, 5, none⟩ s1A
  have newxA := World.new_ne V2 ⟨x, 1, none⟩ p1A
  have new2A : ∀ o o', ((V2.alloc o).alloc o').drew.heap[V2.heap.size + 1]? = some o' := fun o o' => by show ((V2.alloc o).alloc o').heap[V2.heap.size + 1]? = some o'; have := heap_alloc_new (V2.alloc o) o'; rw [show (V2.alloc o).heap.size = V2.heap.size + 1 by simp] at this; exact this
  have falA : ∀ o o', ((V2.alloc o).alloc o').drew.frozen? ⟨s.t, 5, none⟩ = false := fun o o' => (World.frozen?_of_block (w := V2) ((Below.heap_alloc _ _ _ (by simp; omega)).trans (Below.heap_alloc _ _ _ ltsA))).trans f1A
  have calA : ∀ o o', ((V2.alloc o).alloc o').drew.cell? ⟨s.t, 5, none⟩ = some (.slice s.ro.a s.vo.length s.ro.c) := fun o o' => (World.cell?_of_block (w := V2) ((Below.heap_alloc _ _ _ (by simp; omega)).trans (Below.heap_alloc _ _ _ ltsA))).trans s1A
  go_region_law ((refine step_append_lies _ (by rfl) _ _ _ (by rfl) B 76 i0 _ 1 8 Try.underlying45 hiA hz0A hz1A hz2A rfl (by omega) (.slice s.ro.a s.vo.length s.ro.c) s.vo.length s.vo (by rfl) (((rowA.alloc _).alloc _).drew) ⟨V2.heap.size + 1, 0, none⟩ 1 1 [.pointer (some ⟨V2.heap.size, 0, none⟩)] (by rfl) (by rfl) (World.news_of_block (cs := #[.pointer (some ⟨V2.heap.size, 0, none⟩)]) (t := 76) (fr := (0, 0)) (new2A _ _)) (by simp [Value.oneCell']) (by omega) n1A.out n2A.out (by simp; omega) (V2.heap.size + 2) (by simp) ?_; intro gh cap2 w4 hown1 hgrow hat hlt; have a0 := (hgrow.cell_far ⟨s.t, 5, none⟩ (by simp; omega) neA).trans (calA _ _); have a0f := (hgrow.frozen_far ⟨s.t, 5, none⟩ (by simp; omega) neA).trans (falA _ _)))
  all_goals
    have K3 := hide' (end_o true n (.inl rfl) rfl K2.out HS.out.2.2.2.2.1 hown1 hgrow hat)
    clear hown1 hgrow hat hlt a0 a0f s1A f1A rowA ltsA n1A n2A neA new1A newxA new2A falA calA p1A hBVA FA HwBA
    obtain ⟨cb, hcb⟩ : ∃ cb, cb = V2.heap.size := ⟨_, rfl⟩
    rw [← hcb] at K3 ⊢
    clear hcb K2
    generalize w4.setCell ⟨s.t, 5, none⟩ (.slice (some ⟨gh, 0, none⟩) (s.vo.length + 1) cap2) = V3 at *
    obtain ⟨_, _, _, z4⟩ := K3.out.tb
    have FB := hide' z4.fm
    have xb := K3.out.box (x := x) HS.out.2.2.1 HS.out.2.2.2.1
    have p1B : V3.cell? ⟨x, 1, none⟩ = some (.int .i64 n) := (Lib.cell_of_heap xb 1).trans rfl
    have HwBB : Hid (B ≤ V3.heap.size) := hide' (Nat.le_trans HS.out.2.2.2.2.1 (size_to K3.out))
    clear z4 xb
    go_wp2_with fail

    have rowB := FB.out.row
    have s1B : V3.cell? ⟨s.t, 1, none⟩ = some (.slice s.rm.a s.vm.length s.rm.c) := FB.out.c
    have f1B : V3.frozen? ⟨s.t, 1, none⟩ = false := FB.out.f
    have ltsB : s.t < V3.heap.size := FB.out.lt
    have n1B : Hid (s.vm.length + 1 ≤ maxLen) := hide' (by have := HLn.out; unfold maxLen; omega)
    have n2B : Hid ((s.vm.length + 1) * 8 ≤ 140737488355328) := hide' (by have := HLn.out; omega)
    have neB : some s.t ≠ (Value.slice s.rm.a s.vm.length s.rm.c).ownBlock := fun q => FB.out.na (own_at q.symm)
    replace rowB : V3.ownsRow B 26 1 (.slice s.rm.a s.vm.length s.rm.c) s.vm.length s.vm := rowB
    have hBVB : B ≤ V3.heap.size := HwBB.out
    have new1B := World.new_ne V3 ⟨s.t, 1, none⟩ s1B
    have newxB := World.new_ne V3 ⟨x, 1, none⟩ p1B
    have new2B : ∀ o o', ((V3.alloc o).alloc o').drew.heap[V3.heap.size + 1]? = some o' := fun o o' => by show ((V3.alloc o).alloc o').heap[V3.heap.size + 1]? = some o'; have := heap_alloc_new (V3.alloc o) o'; rw [show (V3.alloc o).heap.size = V3.heap.size + 1 by simp] at this; exact this
    have falB : ∀ o o', ((V3.alloc o).alloc o').drew.frozen? ⟨s.t, 1, none⟩ = false := fun o o' => (World.frozen?_of_block (w := V3) ((Below.heap_alloc _ _ _ (by simp; omega)).trans (Below.heap_alloc _ _ _ ltsB))).trans f1B
    have calB : ∀ o o', ((V3.alloc o).alloc o').drew.cell? ⟨s.t, 1, none⟩ = some (.slice s.rm.a s.vm.length s.rm.c) := fun o o' => (World.cell?_of_block (w := V3) ((Below.heap_alloc _ _ _ (by simp; omega)).trans (Below.heap_alloc _ _ _ ltsB))).trans s1B
    go_region_law ((refine step_append_lies _ (by rfl) _ _ _ (by rfl) B 26 i1 _ 1 8 Try.underlying40 hiB hz0B hz1B hz2B rfl (by omega) (.slice s.rm.a s.vm.length s.rm.c) s.vm.length s.vm (by rfl) (((rowB.alloc _).alloc _).drew) ⟨V3.heap.size + 1, 0, none⟩ 1 1 [.pointer (some ⟨V3.heap.size, 0, none⟩)] (by rfl) (by rfl) (World.news_of_block (cs := #[.pointer (some ⟨V3.heap.size, 0, none⟩)]) (t := 26) (fr := (0, 0)) (new2B _ _)) (by simp [Value.oneCell']) (by omega) n1B.out n2B.out (by simp; omega) (V3.heap.size + 2) (by simp) ?_; intro gi cap3 w5 hown1 hgrow hat hlt; have a0 := (hgrow.cell_far ⟨s.t, 1, none⟩ (by simp; omega) neB).trans (calB _ _); have a0f := (hgrow.frozen_far ⟨s.t, 1, none⟩ (by simp; omega) neB).trans (falB _ _)))
    all_goals
      have K4 := hide' (end_m true n (.inl rfl) K3.out HS.out.2.2.2.2.1 hown1 hgrow hat)
      clear hown1 hgrow hat hlt a0 a0f s1B f1B rowB ltsB n1B n2B neB new1B newxB new2B falB calB p1B hBVB FB HwBB
      generalize w5.setCell ⟨s.t, 1, none⟩ (.slice (some ⟨gi, 0, none⟩) (s.vm.length + 1) cap3) = W4 at *
      have R4 := HS.out.1.add (p := ⟨true, n, cb, []⟩) (d := ⟨true, n, V3.heap.size, []⟩) (rm := ⟨some ⟨gi, 0, none⟩, cap3⟩) (rc := ⟨some ⟨gg, 0, none⟩, cap'⟩) (ro := ⟨some ⟨gh, 0, none⟩, cap2⟩) rfl rfl rfl rfl
      obtain ⟨Db4, P4, E4, z5, t5, m5⟩ := K4.out
      have HJ := hide' (joined_any N z5 R4 (Nat.le_trans HS.out.2.2.2.2.1 (size_to K4.out)) (by show N < (s.MP ++ [_]).length; rw [List.length_append, HNm.out.1]; simp))
      have H5 := hide' (And.intro t5 m5)
      clear z5 t5 m5 R4
      go_wp2_with fail
      refine HJ.out.mono ?_
      rintro e w7 ⟨rfl, s', e1, e2, e3⟩
      have KQ : Hid (AQ K B s (Sb s Db P E) w w7) := hide' ⟨s', e1, e2, To.from (to_then H5.out.1 H5.out.2 e3) HS.out.2.1⟩
      clear e1 e2 e3 HJ K4
      go_wp2
      go_ret
      exact ⟨rfl, KQ.out⟩
end Q
end Go.Proofs.Ytjhnlmedmpcgoaa
