import Derived.Test.YtnlopepbcnegbaaGreatDoorNum
set_option linter.unusedVariables false
set_option linter.unusedSimpArgs false
namespace Go.Proofs.YtnlopepbcnegbaaGreatDoor
open Go.RowKit
/-- the number at a place -/
def Tx.numberR (T : Tx) (i : Nat) : Res := if L.isNum (T.txt i (T.skp L.inRun i)) then .tok 3 (T.txt i (T.skp L.inRun i)) (T.g i).l (T.g i).c (T.skp L.inRun i) else .flt 23 (T.g i).l (T.g i).c (T.txt i (T.skp L.inRun i))
set_option maxRecDepth 100000 in
set_option maxHeartbeats 1000000 in
theorem number_any {T : Tx} {b i : Nat} {w : World} (h : Scn T b i w) (hi : i < T.N) :
    Calls Tryz.prog 54 #[.pointer (some ⟨b, 0, none⟩)] w fun e w' => ∃ v, e = .returned v ∧ (T.numberR i).Is T b w v w' ∧ Turn (fun k => k = b) w w' := by
  have c4 := h.c4
  have c5 := h.c5
  have lt := h.lt
  have hold := h.old (Nat.le_refl w.heap.size)
  have H := hide' (And.intro h hold)
  obtain ⟨t, ht⟩ : ∃ t, T.txt i (T.skp L.inRun i) = t := ⟨_, rfl⟩
  obtain ⟨j, hj⟩ : ∃ j, T.skp L.inRun i = j := ⟨_, rfl⟩
  have HP := hide' fun (w : World) (h : Scn T b i w) => takeWhile_any h tells_run
  unfold Tx.numberR
  have hts : t.size ≤ 65536 := by rw [← ht]; unfold Tx.txt; rw [ByteArray.size_extract]; have := h.ok.small; omega
  rw [ht, hj]
  rw [ht, hj] at HP
  clear h ht hj hold
  cases hsz : L.isNum t
  · rw [if_neg (by simp)]
    go_enter Tryz.func54, Tryz.ntmps54
    go_wp2_with (first | (go_at_call 71; refine (HP.out _ ((H.out.1.below ((Below.refl _ _).alloc (Nat.le_refl _) _)).below ((Below.refl _ _).alloc (Nat.le_refl _) _))).mono ?_; rintro e w1 ⟨rfl, s1, t1⟩; obtain ⟨h0, h1, hz1, t1'⟩ := after2 lt t1; obtain ⟨p0, p1⟩ := two_cells h1; have K := hide' (And.intro (Tk.of_cells h0) (And.intro s1 t1')); clear h0 h1 s1 t1 t1') | (go_at_call 74; refine (isNumber_any _ _ hts).mono ?_; rintro e w1' ⟨rfl, b1'⟩; have p0' := below_keeps b1' p0; have p1' := below_keeps b1' p1; have hz1' := b1'.size; have K' := hide' (And.intro (K.out.1.below b1') (And.intro (K.out.2.1.below b1') (K.out.2.2.trans (turn_below b1')))); clear p0 p1) | (go_at_call 58; refine (pfault_any _ _ _ _ _).mono ?_; rintro e w2 ⟨fb, rfl, hfb, hflt, b2⟩; have k2 := K'.out.1.below b2; have kc0 := k2.c0; have kc1 := k2.c1; have kc2 := k2.c2; have kc3 := k2.c3; obtain ⟨z0, z1, z2, z3⟩ := k2.frz; have K2 := hide' (And.intro k2 (And.intro hflt b2)); clear k2 hflt b2))
    refine bodyPost_ret_by (results4 rfl _ _ w.heap.size _ _ _ _ rfl (K2.out.1.set _ _ _ _)) rfl ?_
    exact ⟨_, rfl, Res.fin_flt (Nat.le_refl _) (by omega) (by omega) K2.out.2.1 _ _ _ _, (K'.out.2.2.trans (turn_below K2.out.2.2)).set4 (Nat.le_refl _) _ _ _ _⟩
  · rw [if_pos rfl]
    go_enter Tryz.func54, Tryz.ntmps54
    go_wp2_with (first | (go_at_call 71; refine (HP.out _ ((H.out.1.below ((Below.refl _ _).alloc (Nat.le_refl _) _)).below ((Below.refl _ _).alloc (Nat.le_refl _) _))).mono ?_; rintro e w1 ⟨rfl, s1, t1⟩; obtain ⟨h0, h1, hz1, t1'⟩ := after2 lt t1; obtain ⟨p0, p1⟩ := two_cells h1; have K := hide' (And.intro (Tk.of_cells h0) (And.intro s1 t1')); clear h0 h1 s1 t1 t1') | (go_at_call 74; refine (isNumber_any _ _ hts).mono ?_; rintro e w1' ⟨rfl, b1'⟩; have p0' := below_keeps b1' p0; have p1' := below_keeps b1' p1; have hz1' := b1'.size; have K' := hide' (And.intro (K.out.1.below b1') (And.intro (K.out.2.1.below b1') (K.out.2.2.trans (turn_below b1')))); clear p0 p1) | (go_at_call 50; refine (ptoken_any _ _ _ _ _).mono ?_; rintro e w2 ⟨rfl, b2⟩; have k2 := K'.out.1.below b2; have kc0 := k2.c0; have kc1 := k2.c1; have kc2 := k2.c2; have kc3 := k2.c3; obtain ⟨z0, z1, z2, z3⟩ := k2.frz; have K2 := hide' (And.intro k2 b2); clear k2 b2; unfold tokV))
    refine bodyPost_ret_by (results4 rfl _ _ w.heap.size _ _ _ _ rfl (K2.out.1.set _ _ _ _)) rfl ?_
    refine ⟨_, rfl, ⟨rfl, ?_⟩, (K'.out.2.2.trans (turn_below K2.out.2)).set4 (Nat.le_refl _) _ _ _ _⟩
    exact (K'.out.2.1.below K2.out.2).turn1 (turn4 _ _ _ _ _ _) H.out.2.1 (H.out.2.2.1 (by omega)) H.out.2.2.2

end Go.Proofs.YtnlopepbcnegbaaGreatDoor
