import Derived.Test.YtmcdifmbblbhgaaCso
set_option linter.unusedVariables false
set_option linter.unusedSimpArgs false
namespace Go.Proofs.Ytmcdifmbblbhgaa
open Go.RowKit Go.Maps
namespace V
open U D
theorem cs_new (w : World) : Cs w w.heap.size (w.heap.size + 1) (w.heap.size + 1 + 1) none 0 [] none 0 [] 0 [] (((w.alloc (.cells #[.slice none 0 0, .slice none 0 0] 81)).alloc (.cells #[.slice none 0 0, .slice none 0 0] 81)).alloc (.map #[] 0)) := by
  have z1 : (w.alloc (.cells #[.slice none 0 0, .slice none 0 0] 81)).heap.size = w.heap.size + 1 := by simp
  have z2 : ((w.alloc (.cells #[.slice none 0 0, .slice none 0 0] 81)).alloc (.cells #[.slice none 0 0, .slice none 0 0] 81)).heap.size = w.heap.size + 1 + 1 := by simp
  have m := P.Pm.made ((w.alloc (.cells #[.slice none 0 0, .slice none 0 0] 81)).alloc (.cells #[.slice none 0 0, .slice none 0 0] 81))
  rw [z2] at m
  have a2 := heap_alloc_new (w.alloc (.cells #[.slice none 0 0, .slice none 0 0] 81)) (.cells #[.slice none 0 0, .slice none 0 0] 81)
  rw [z1] at a2
  refine ⟨(((Below.refl _ _).alloc (Nat.le_refl _) _).alloc (by omega) _).alloc (by omega) _, ?_, ?_, I.RowI.nil _ _, I.RowI.nil _ _, (fun j q => by obtain ⟨a, e, _⟩ := q; cases e), m, by omega, by omega, by omega, by omega⟩
  · rw [Below.heap_alloc _ _ _ (by omega), Below.heap_alloc _ _ _ (by omega)]; exact heap_alloc_new _ _
  · rw [Below.heap_alloc _ _ _ (by omega)]; exact a2
set_option maxHeartbeats 8000000 in
set_option maxRecDepth 100000 in
theorem classesOf_any (g : Nat → Nat) (b n cap : Nat) (w : World) (hb : w.heap[b]? = some (.cells (tab 4096 g) 77 (0, 0))) (hg : ∀ k, k < 4096 → g k < 65536) (hn : n ≤ 64) (hc : n ≤ cap) :
    Calls Try.prog 49 #[.slice (some ⟨b, 0, none⟩) n cap] w fun e w' => ∃ no nl nc fo fc, e = .returned (.agg #[.slice no nl nc, .slice fo (dst (pfs g n)).length fc]) ∧ Below w.heap.size w w' := by
  have HB := hide' hb
  have HG := hide' hg
  have hmm := @run_makeMap Try.prog
  have hn' : (n : Int) ≤ 64 := by omega
  clear hb hg
  go_enter Try.func49, Try.ntmps49
  go_wp2
  have C0 := hide' (cs_new w)
  generalize ((w.alloc (.cells #[.slice none 0 0, .slice none 0 0] 81)).alloc (.cells #[.slice none 0 0, .slice none 0 0] 81)).alloc (.map #[] 0) = V0 at *
  generalize w.heap.size + 1 + 1 = bm at *
  generalize w.heap.size + 1 = q3 at *
  obtain ⟨q2, hq2⟩ : ∃ q2, q2 = w.heap.size := ⟨_, rfl⟩
  have C1 : Hid (Cs w q2 q3 bm none 0 [] none 0 [] 0 [] V0) := by rw [hq2]; exact C0
  rw [← hq2]
  clear C0 hq2 hmm
  go_loopw [12] (fun iv wx => ∃ (i : Nat) (no : Option Addr) (nc : Nat) (nz : List Int) (fo : Option Addr) (fc : Nat) (fz : List Int) (m : Nat) (ls : List (List Nat)), iv = .int .i64 (i : Int) ∧ i ≤ n ∧ Hid (Cs w q2 q3 bm no nc nz fo fc fz m ls wx ∧ nz.length ≤ i ∧ m ≤ i ∧ fz.length = (dst (pfs g i)).length ∧ ∀ l, isIn ls l = isIn (pfs g i) l)) (fun iv _ => n - (intOf iv).toNat)
  case atStart => exact ⟨0, _, _, _, _, _, _, _, _, rfl, Nat.zero_le _, C1.out, Nat.le_refl _, Nat.le_refl _, rfl, fun _ => rfl⟩
  case round =>
    obtain ⟨i, no, nc, nz, fo, fc, fz, m, ls, rfl, hi, HM⟩ := hrel
    by_cases hlt : i < n
    · have hlt' : (i : Int) < (n : Int) := by omega
      have hi64 : i < 64 := by omega
      have hbw : Hid (wr.heap[b]? = some (.cells (tab 4096 g) 77 (0, 0))) := (HM.out.1.b.block _ (lt_of_heap HB.out)).trans HB.out
      have hbl : b < wr.heap.size := lt_of_heap hbw.out
      go_wp2_with (with_reducible refine stay_load 75 _ rfl ?_)
      unfold Stay
      have hra := World.rangeAt_of_block hbw.out (i * 64) 64
      rw [tab_row g i hi64] at hra
      have Hra := hide' hra
      clear hra
      refine wpList_load_mid rfl 75 _ rfl b (i * 64) rfl (tab 64 fun j => g (i * 64 + j)).toList _ Hra.out Try.underlying75 rfl (by rw [Array.length_toList]; exact isz75 _) ?_
      rw [Array.toArray_toList]
      go_wp2_with (with_reducible refine stay_alloc 75 rfl ?_)
      unfold Stay
      refine wpList_alloc_row (by rfl) 75 rfl _ (zero75 _) ?_
      go_wp2_with (with_reducible refine stay_store 75 _ _ rfl ?_)
      unfold Stay
      refine wpList_store_row rfl 75 _ _ rfl wr.heap.size (tab 64 fun j => g (i * 64 + j)) rfl rfl 75 _ (heap_alloc_new wr _) (isz75 _) (by rw [tab_size, tab_size]) (tab_one _ _) ?_
      rw [World.setRow_alloc_new]
      have C2 : Hid (Cs w q2 q3 bm no nc nz fo fc fz m ls (wr.alloc (.cells (tab 64 fun j => g (i * 64 + j)) 75))) := HM.out.1.below ((Below.refl _ _).alloc (Nat.le_refl _) _)
      have K2 : Hid ((wr.alloc (.cells (tab 64 fun j => g (i * 64 + j)) 75)).heap[wr.heap.size]? = some (.cells (tab 64 fun j => g (i * 64 + j)) 75 (0, 0))) := heap_alloc_new _ _
      have HN := hide' HM.out.2
      have Hok : Hid (P.okk (pf g i)) := P.okk_pr (fun j hj => HG.out _ (by omega))
      have hpv : pv (pf g i) = .agg (tab 64 fun j => g (i * 64 + j)) := pv_pr _
      generalize wr.alloc (.cells (tab 64 fun j => g (i * 64 + j)) 75) = V1 at *
      generalize wr.heap.size = p6 at *
      clear HM hbw hbl Hra
      go_wp2_with (with_reducible refine stay_load 75 _ rfl ?_)
      unfold Stay
      refine wpList_load_w (by rfl) 75 _ rfl p6 rfl 75 (tab 64 fun j => g (i * 64 + j)) (0, 0) _ K2.out Try.underlying75 rfl (isz75 _) ?_
      obtain ⟨c, hrun⟩ := C2.out.m.run Hok.out
      rw [hpv] at hrun
      have hnl : Hid (nz.length < 4398046511104) := by have := HN.out.1; show _ < _; omega
      have hfl : Hid (fz.length < 4398046511104) := by have := HN.out.2.2.1; have := dst_le (pfs g i); have : (pfs g i).length = i := by simp [pfs]
                                                       show _ < _; omega
      cases hin : isIn ls (pf g i) with
      | true =>
        rw [hin] at hrun
        have hq : Hid (pf g i ∈ pfs g i) := by have q := HN.out.2.2.2 (pf g i); rw [hin] at q; show pf g i ∈ pfs g i; by_cases e : pf g i ∈ pfs g i; exact e; rw [isIn_no e] at q; cases q
        clear hin
        generalize (tab 64 fun j => g (i * 64 + j)) = RR at *
        go_wp2_with (with_reducible refine stay_load 23 _ rfl ?_)
        unfold Stay
        have k0 := C2.out.c0
        go_wp2_with (at_builtin; refine stay_app _ _ _ rfl ?_)
        unfold Stay
        refine I.wpList_app1 V1 rfl _ _ rfl w.heap.size no nc nz c 3 _ rfl C2.out.rn rfl hnl C2.out.b.size ?_
        intro g4 c4 V5 hr5 t5 hg5 hg6
        have M5 := hide' (C2.out.appN hr5 t5 hg5)
        have k5 : V5.cell? ⟨q3, 0, none⟩ = some (.slice no nz.length nc) := by rw [Lib.cell_of_heap M5.out.h3]; rfl
        have f5 : V5.frozen? ⟨q3, 0, none⟩ = false := Lib.frozen_of_heap M5.out.h3 0
        clear k0 hr5 t5 hg5 hg6
        go_wp2_with fail
        have C6 := hide' (M5.out.set 0 (.slice (some ⟨g4, 0, none⟩) (nz.length + 1) c4) (by rw [show (nz ++ [c]).length = nz.length + 1 from List.length_append]; rfl))
        exact ⟨⟨i + 1, _, _, _, _, _, _, _, _, by go_num, by omega, C6.out, by rw [List.length_append]; have := HN.out.1; show nz.length + 1 ≤ _; omega, by have := HN.out.2.1; omega, by rw [pfs_snoc, dst_len_snoc, if_pos hq.out]; exact HN.out.2.2.1, fun l => by rw [HN.out.2.2.2 l, pfs_snoc]; by_cases e : l ∈ pfs g i <;> simp [isIn, e]; rintro rfl; exact e hq.out⟩, by simp [intOf]; omega⟩
      | false =>
        rw [hin] at hrun
        have hq : Hid (pf g i ∉ pfs g i) := by have q := HN.out.2.2.2 (pf g i); rw [hin] at q; show ¬ pf g i ∈ pfs g i; intro e; rw [isIn_yes e] at q; cases q
        clear hin
        have k1 := C2.out.c1
        go_wp2_with (at_builtin; refine stay_app _ _ _ rfl ?_)
        unfold Stay
        refine I.wpList_app1 V1 rfl _ _ rfl w.heap.size fo fc fz (i : Int) 3 _ rfl C2.out.rf rfl hfl C2.out.b.size ?_
        intro g2 c2 V2 hr2 t2 hg2 hg3
        have M2 := hide' (C2.out.appF hr2 t2 hg2)
        have K3 : Hid (V2.heap[p6]? = some (.cells (tab 64 fun j => g (i * 64 + j)) 75 (0, 0))) := (t2.block _ (lt_of_heap K2.out) (fun q => by obtain ⟨cur, h⟩ := Pl.kindI C2.out.rf q; exact cells_ne h K2.out (by decide) rfl)).trans K2.out
        have k2 : V2.cell? ⟨q3, 1, none⟩ = some (.slice fo fz.length fc) := by rw [Lib.cell_of_heap M2.out.h3]; rfl
        have f2 : V2.frozen? ⟨q3, 1, none⟩ = false := Lib.frozen_of_heap M2.out.h3 1
        clear k1 hr2 t2 hg2 hg3 hrun
        go_wp2_with (with_reducible refine stay_load 23 _ rfl ?_)
        unfold Stay
        have C3 := hide' (M2.out.set 1 (.slice (some ⟨g2, 0, none⟩) (fz.length + 1) c2) (by rw [List.length_append]; rfl))
        have K4 : Hid ((V2.setCell ⟨q3, 1, none⟩ (.slice (some ⟨g2, 0, none⟩) (fz.length + 1) c2)).heap[p6]? = some (.cells (tab 64 fun j => g (i * 64 + j)) 75 (0, 0))) := ((set_turn q3 1 _ V2).block _ (lt_of_heap K3.out) (cells_ne K3.out M2.out.h3 (by decide))).trans K3.out
        generalize V2.setCell ⟨q3, 1, none⟩ (.slice (some ⟨g2, 0, none⟩) (fz.length + 1) c2) = V3 at *
        have k3 : V3.cell? ⟨q3, 1, none⟩ = some (.slice (some ⟨g2, 0, none⟩) (fz.length + 1) c2) := by have q := C3.out.c1; rw [List.length_append] at q; exact q
        clear k2 f2 M2 K2 K3
        go_wp2_with (with_reducible refine stay_load 75 _ rfl ?_)
        unfold Stay
        refine wpList_load_w (by rfl) 75 _ rfl p6 rfl 75 (tab 64 fun j => g (i * 64 + j)) (0, 0) _ K4.out Try.underlying75 rfl (isz75 _) ?_
        obtain ⟨V4, hrun4, hm4, t4⟩ := C3.out.m.put Hok.out (by have := HN.out.2.1; unfold maxLen; omega) ((fz.length : Int) + 1) (by have := hfl.out; refine WalkArith.wf_i64 ?_; omega)
        rw [hpv] at hrun4
        have C4 := hide' (C3.out.put hm4 t4)
        clear hm4 t4 C3 k3
        generalize (tab 64 fun j => g (i * 64 + j)) = RR at *
        go_wp2_with (with_reducible refine stay_load 23 _ rfl ?_)
        unfold Stay
        have k0 := C4.out.c0
        go_wp2_with (at_builtin; refine stay_app _ _ _ rfl ?_)
        unfold Stay
        refine I.wpList_app1 V4 rfl _ _ rfl w.heap.size no nc nz ((fz.length : Int) + 1) 3 _ rfl C4.out.rn rfl hnl C4.out.b.size ?_
        intro g4 c4 V5 hr5 t5 hg5 hg6
        have M5 := hide' (C4.out.appN hr5 t5 hg5)
        have k5 : V5.cell? ⟨q3, 0, none⟩ = some (.slice no nz.length nc) := by rw [Lib.cell_of_heap M5.out.h3]; rfl
        have f5 : V5.frozen? ⟨q3, 0, none⟩ = false := Lib.frozen_of_heap M5.out.h3 0
        clear k0 hr5 t5 hg5 hg6
        go_wp2_with fail
        have C6 := hide' (M5.out.set 0 (.slice (some ⟨g4, 0, none⟩) (nz.length + 1) c4) (by rw [show (nz ++ [((fz.length : Int) + 1)]).length = nz.length + 1 from List.length_append]; rfl))
        exact ⟨⟨i + 1, _, _, _, _, _, _, _, _, by go_num, by omega, C6.out, by rw [List.length_append]; have := HN.out.1; show nz.length + 1 ≤ _; omega, by have := HN.out.2.1; omega, by rw [List.length_append, pfs_snoc, dst_len_snoc, if_neg hq.out]; have := HN.out.2.2.1; show fz.length + 1 = _; omega, fun l => by rw [pfs_snoc]; have := HN.out.2.2.2 l; by_cases e : l ∈ pfs g i <;> simp [isIn, e] at this ⊢ <;> simp [this]⟩, by simp [intOf]; omega⟩
    · have hi' : i = n := by omega
      subst hi'
      have hlt' : ¬ (i : Int) < (i : Int) := by omega
      clear hlt hi
      go_wp2_with (with_reducible refine stay_load 81 _ rfl ?_)
      unfold Stay
      refine wpList_load_w (by rfl) 81 _ rfl q3 rfl 81 #[.slice no nz.length nc, .slice fo fz.length fc] (0, 0) _ HM.out.1.h3 Try.underlying81 rfl (by kernel_rfl) ?_
      go_wp2_with (with_reducible refine stay_store 81 _ _ rfl ?_)
      unfold Stay
      refine wpList_store_row rfl 81 _ _ rfl q2 #[.slice no nz.length nc, .slice fo fz.length fc] rfl rfl 81 _ HM.out.1.h2 (by kernel_rfl) rfl (by simp [Value.oneCell']) ?_
      go_wp2_with fail
      have B2 : Below w.heap.size w (wr.setRow q2 #[.slice no nz.length nc, .slice fo fz.length fc]) := below_setRow HM.out.1.b HM.out.1.l2 _
      refine bodyPost_ret (results_cell_row rfl _ _ q2 81 #[.slice no nz.length nc, .slice fo fz.length fc] (0, 0) _ rfl (row_set HM.out.1.h2 _) Try.underlying81 rfl (by kernel_rfl)) rfl ?_
      exact ⟨no, nz.length, nc, fo, fc, by rw [HM.out.2.2.2.1], B2⟩
end V
end Go.Proofs.Ytmcdifmbblbhgaa
