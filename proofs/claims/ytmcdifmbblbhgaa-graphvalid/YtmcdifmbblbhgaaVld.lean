import Derived.Test.YtmcdifmbblbhgaaMsk
set_option linter.unusedVariables false
set_option linter.unusedSimpArgs false
namespace Go.Proofs.Ytmcdifmbblbhgaa
open Go.RowKit Go.Maps
namespace V
open U D
def wth (a s o : Nat) : Bool := decide (a ≤ 16) && decide (s ≤ 64) && decide (o ≤ 64)
set_option maxHeartbeats 4000000 in
set_option maxRecDepth 100000 in
theorem within_any (a s o : Nat) (w : World) : Calls Try.prog 30 #[.int .i64 (a : Int), .int .i64 (s : Int), .int .i64 (o : Int)] w fun e w' => e = .returned (.bool (wth a s o)) ∧ Below w.heap.size w w' := by
  by_cases ha : a ≤ 16
  · have ha' : (a : Int) ≤ 16 := by omega
    by_cases hs : s ≤ 64
    · have hs' : (s : Int) ≤ 64 := by omega
      by_cases ho : o ≤ 64
      · have ho' : (o : Int) ≤ 64 := by omega
        have hF : wth a s o = true := by simp [wth, ha, hs, ho]
        rw [hF]
        go_enter Try.func30, Try.ntmps30
        go_wp2
        go_ret
        exact ⟨rfl, Below.refl _ _⟩
      · have ho' : ¬ (o : Int) ≤ 64 := by omega
        have hF : wth a s o = false := by simp [wth, ho]
        rw [hF]
        go_enter Try.func30, Try.ntmps30
        go_wp2
        go_ret
        exact ⟨rfl, Below.refl _ _⟩
    · have hs' : ¬ (s : Int) ≤ 64 := by omega
      have hF : wth a s o = false := by simp [wth, hs]
      rw [hF]
      go_enter Try.func30, Try.ntmps30
      go_wp2
      go_ret
      exact ⟨rfl, Below.refl _ _⟩
  · have ha' : ¬ (a : Int) ≤ 16 := by omega
    have hF : wth a s o = false := by simp [wth, ha]
    rw [hF]
    go_enter Try.func30, Try.ntmps30
    go_wp2
    go_ret
    exact ⟨rfl, Below.refl _ _⟩
/-- 11.2 -/
def vld (G : Gf) : Bool := wth G.a.2.2.length G.s.2.2.length G.o.2.2.length && (nun G.a.2.2 && (nun G.s.2.2 && (nun G.o.2.2 && ((G.f.2.2.length == G.s.2.2.length) && ((G.n.2.2.length == G.o.2.2.length) && (nmb 0 G.f.2.2 && (nmb 0 G.n.2.2 && msk G.a.2.2.length (gre 0 G.f.2.2).toNat (gre 0 G.n.2.2).toNat G.m.2.2)))))))
set_option maxHeartbeats 16000000 in
set_option maxRecDepth 100000 in
theorem valid_any (G : Gf) (w : World) (h : G.In w) (nf : G.f.1 = none → G.f.2.1 = 0) (nn : G.n.1 = none → G.n.2.1 = 0) (ka : ∀ z ∈ G.a.2.2, S.okk z) (ks : ∀ z ∈ G.s.2.2, S.okk z) (ko : ∀ z ∈ G.o.2.2, S.okk z) :
    Calls Try.prog 10 #[.agg #[.slice G.a.1 G.a.2.2.length G.a.2.1, .slice G.s.1 G.s.2.2.length G.s.2.1, .slice G.o.1 G.o.2.2.length G.o.2.1, .slice G.f.1 G.f.2.2.length G.f.2.1, .slice G.n.1 G.n.2.2.length G.n.2.1, .slice G.m.1 G.m.2.2.length G.m.2.1]] w fun e w' => e = .returned (.bool (vld G)) ∧ Below w.heap.size w w' := by
  have H := hide' h
  have HK := hide' (And.intro nf (And.intro nn (And.intro ka (And.intro ks ko))))
  have HV : Hid (vld G = (wth G.a.2.2.length G.s.2.2.length G.o.2.2.length && (nun G.a.2.2 && (nun G.s.2.2 && (nun G.o.2.2 && ((G.f.2.2.length == G.s.2.2.length) && ((G.n.2.2.length == G.o.2.2.length) && (nmb 0 G.f.2.2 && (nmb 0 G.n.2.2 && msk G.a.2.2.length (gre 0 G.f.2.2).toNat (gre 0 G.n.2.2).toNat G.m.2.2))))))))) := rfl
  clear h nf nn ka ks ko
  go_enter Try.func10, Try.ntmps10
  have B0 : Hid (Bg G w.heap.size w (w.alloc (.cells #[.slice G.a.1 G.a.2.2.length G.a.2.1, .slice G.s.1 G.s.2.2.length G.s.2.1, .slice G.o.1 G.o.2.2.length G.o.2.1, .slice G.f.1 G.f.2.2.length G.f.2.1, .slice G.n.1 G.n.2.2.length G.n.2.1, .slice G.m.1 G.m.2.2.length G.m.2.1] 28))) := ⟨(Below.refl _ _).alloc (Nat.le_refl _) _, heap_alloc_new _ _⟩
  have SC : Hid (∀ q1 W, Bg G q1 w W → W.cell? ⟨q1, 0, none⟩ = some (.slice G.a.1 G.a.2.2.length G.a.2.1) ∧ W.cell? ⟨q1, 1, none⟩ = some (.slice G.s.1 G.s.2.2.length G.s.2.1) ∧ W.cell? ⟨q1, 2, none⟩ = some (.slice G.o.1 G.o.2.2.length G.o.2.1) ∧ W.cell? ⟨q1, 3, none⟩ = some (.slice G.f.1 G.f.2.2.length G.f.2.1) ∧ W.cell? ⟨q1, 4, none⟩ = some (.slice G.n.1 G.n.2.2.length G.n.2.1) ∧ W.cell? ⟨q1, 5, none⟩ = some (.slice G.m.1 G.m.2.2.length G.m.2.1)) := fun q1 W b => ⟨by rw [Lib.cell_of_heap b.h]; rfl, by rw [Lib.cell_of_heap b.h]; rfl, by rw [Lib.cell_of_heap b.h]; rfl, by rw [Lib.cell_of_heap b.h]; rfl, by rw [Lib.cell_of_heap b.h]; rfl, by rw [Lib.cell_of_heap b.h]; rfl⟩
  obtain ⟨c0, c1, c2, c3, c4, c5⟩ := SC.out _ _ B0.out
  go_wp2_with fail
  generalize w.alloc (.cells #[.slice G.a.1 G.a.2.2.length G.a.2.1, .slice G.s.1 G.s.2.2.length G.s.2.1, .slice G.o.1 G.o.2.2.length G.o.2.1, .slice G.f.1 G.f.2.2.length G.f.2.1, .slice G.n.1 G.n.2.2.length G.n.2.1, .slice G.m.1 G.m.2.2.length G.m.2.1] 28) = V at *
  obtain ⟨q1, hq1⟩ : ∃ q1, q1 = w.heap.size := ⟨_, rfl⟩
  rw [← hq1] at B0
  rw [← hq1]
  clear hq1 c0 c1 c2 c3 c4 c5
  refine (within_any G.a.2.2.length G.s.2.2.length G.o.2.2.length V).mono ?_
  rintro e V1 ⟨rfl, b1⟩
  have B1 := hide' (B0.out.below b1)
  clear b1 B0
  obtain ⟨c0, c1, c2, c3, c4, c5⟩ := SC.out _ _ B1.out
  cases hw : wth G.a.2.2.length G.s.2.2.length G.o.2.2.length with
  | false =>
    have hF : Hid (vld G = false) := by show _ = _; rw [HV.out, hw]; rfl
    clear hw
    go_wp2_with fail
    go_ret
    exact ⟨ret_b hF.out.symm, B1.out.b⟩
  | true =>
  have HL : Hid (G.a.2.2.length ≤ 16 ∧ G.s.2.2.length ≤ 64 ∧ G.o.2.2.length ≤ 64) := by
    have q := hw
    simp only [wth, Bool.and_eq_true, decide_eq_true_eq] at q
    exact ⟨q.1.1, q.1.2, q.2⟩
  rw [hw, Bool.true_and] at HV
  clear hw
  go_wp2_with fail
  refine (noneTwice_any G.a.1 G.a.2.1 G.a.2.2 V1 (H.out.below B1.out.b).a.1 H.out.a.2.1 (by have := HL.out; omega) HK.out.2.2.1).mono ?_
  rintro e V2 ⟨rfl, b⟩
  have B2 := hide' (B1.out.below b)
  clear b B1 c0 c1 c2 c3 c4 c5
  obtain ⟨c0, c1, c2, c3, c4, c5⟩ := SC.out _ _ B2.out
  cases hw : nun G.a.2.2 with
  | false =>
    have hF : Hid (vld G = false) := by show _ = _; rw [HV.out, hw]; rfl
    clear hw
    go_wp2_with fail
    go_ret
    exact ⟨ret_b hF.out.symm, B2.out.b⟩
  | true =>
  rw [hw, Bool.true_and] at HV
  clear hw
  go_wp2_with fail
  refine (noneTwice_any G.s.1 G.s.2.1 G.s.2.2 V2 (H.out.below B2.out.b).s.1 H.out.s.2.1 (by have := HL.out; omega) HK.out.2.2.2.1).mono ?_
  rintro e V3 ⟨rfl, b⟩
  have B3 := hide' (B2.out.below b)
  clear b B2 c0 c1 c2 c3 c4 c5
  obtain ⟨c0, c1, c2, c3, c4, c5⟩ := SC.out _ _ B3.out
  cases hw : nun G.s.2.2 with
  | false =>
    have hF : Hid (vld G = false) := by show _ = _; rw [HV.out, hw]; rfl
    clear hw
    go_wp2_with fail
    go_ret
    exact ⟨ret_b hF.out.symm, B3.out.b⟩
  | true =>
  rw [hw, Bool.true_and] at HV
  clear hw
  go_wp2_with fail
  refine (noneTwice_any G.o.1 G.o.2.1 G.o.2.2 V3 (H.out.below B3.out.b).o.1 H.out.o.2.1 (by have := HL.out; omega) HK.out.2.2.2.2).mono ?_
  rintro e V4 ⟨rfl, b⟩
  have B4 := hide' (B3.out.below b)
  clear b B3 c0 c1 c2 c3 c4 c5
  obtain ⟨c0, c1, c2, c3, c4, c5⟩ := SC.out _ _ B4.out
  cases hw : nun G.o.2.2 with
  | false =>
    have hF : Hid (vld G = false) := by show _ = _; rw [HV.out, hw]; rfl
    clear hw
    go_wp2_with fail
    go_ret
    exact ⟨ret_b hF.out.symm, B4.out.b⟩
  | true =>
  rw [hw, Bool.true_and] at HV
  clear hw
  by_cases hlf : G.f.2.2.length = G.s.2.2.length
  rotate_left
  · have hl' : ¬ (G.f.2.2.length : Int) = (G.s.2.2.length : Int) := by omega
    have hF : Hid (vld G = false) := by show _ = _; rw [HV.out, beq_eq_false_iff_ne.2 hlf]; rfl
    clear hlf
    go_wp2_with fail
    go_ret
    exact ⟨ret_b hF.out.symm, B4.out.b⟩
  have ef : (G.f.2.2.length : Int) = (G.s.2.2.length : Int) := by omega
  have HLf := hide' hlf
  rw [beq_iff_eq.2 hlf, Bool.true_and] at HV
  clear hlf
  by_cases hln : G.n.2.2.length = G.o.2.2.length
  rotate_left
  · have hl' : ¬ (G.n.2.2.length : Int) = (G.o.2.2.length : Int) := by omega
    have hF : Hid (vld G = false) := by show _ = _; rw [HV.out, beq_eq_false_iff_ne.2 hln]; rfl
    clear hln
    go_wp2_with fail
    go_ret
    exact ⟨ret_b hF.out.symm, B4.out.b⟩
  have en : (G.n.2.2.length : Int) = (G.o.2.2.length : Int) := by omega
  have HLn := hide' hln
  rw [beq_iff_eq.2 hln, Bool.true_and] at HV
  clear hln
  go_wp2_with fail
  refine (numbered_any G.f.1 G.f.2.1 G.f.2.2 V4 (H.out.below B4.out.b).f.1 H.out.f.2.1 (by have := HL.out; have := HLf.out; omega) H.out.fi).mono ?_
  rintro e V5 ⟨rfl, b⟩
  have B5 := hide' (B4.out.below b)
  clear b B4 c0 c1 c2 c3 c4 c5
  obtain ⟨c0, c1, c2, c3, c4, c5⟩ := SC.out _ _ B5.out
  cases hw : nmb 0 G.f.2.2 with
  | false =>
    have hF : Hid (vld G = false) := by show _ = _; rw [HV.out, hw]; rfl
    clear hw
    go_wp2_with fail
    go_ret
    exact ⟨ret_b hF.out.symm, B5.out.b⟩
  | true =>
  have NF := hide' hw
  rw [hw, Bool.true_and] at HV
  clear hw
  go_wp2_with fail
  refine (numbered_any G.n.1 G.n.2.1 G.n.2.2 V5 (H.out.below B5.out.b).n.1 H.out.n.2.1 (by have := HL.out; have := HLn.out; omega) H.out.ni).mono ?_
  rintro e V6 ⟨rfl, b⟩
  have B6 := hide' (B5.out.below b)
  clear b B5 c0 c1 c2 c3 c4 c5
  obtain ⟨c0, c1, c2, c3, c4, c5⟩ := SC.out _ _ B6.out
  cases hw : nmb 0 G.n.2.2 with
  | false =>
    have hF : Hid (vld G = false) := by show _ = _; rw [HV.out, hw]; rfl
    clear hw
    go_wp2_with fail
    go_ret
    exact ⟨ret_b hF.out.symm, B6.out.b⟩
  | true =>
  have NN := hide' hw
  rw [hw, Bool.true_and] at HV
  clear hw
  clear c0 c1 c2 c3 c4 c5
  go_wp2_with (with_reducible refine stay_load 28 _ rfl ?_)
  unfold Stay
  refine wpList_load_w (by rfl) 28 _ rfl q1 rfl 28 #[.slice G.a.1 G.a.2.2.length G.a.2.1, .slice G.s.1 G.s.2.2.length G.s.2.1, .slice G.o.1 G.o.2.2.length G.o.2.1, .slice G.f.1 G.f.2.2.length G.f.2.1, .slice G.n.1 G.n.2.2.length G.n.2.1, .slice G.m.1 G.m.2.2.length G.m.2.1] (0, 0) _ B6.out.h Try.underlying28 rfl (by kernel_rfl) ?_
  go_wp2_with fail
  refine (masked_any G V6 (gre 0 G.f.2.2).toNat (gre 0 G.n.2.2).toNat (H.out.below B6.out.b) HK.out.1 HK.out.2.1 (by have := HL.out; omega) (by have := HL.out; have := HLf.out; omega) (by have := HL.out; have := HLn.out; omega) (by have := gre_le 0 G.f.2.2; omega) (by have := gre_le 0 G.n.2.2; omega) (by have := nmb_gre NF.out; have := HL.out; have := HLf.out; omega) (by have := nmb_gre NN.out; have := HL.out; have := HLn.out; omega)).mono ?_
  rintro e V7 ⟨rfl, b⟩
  have B7 := hide' (B6.out.below b)
  clear b B6
  generalize msk G.a.2.2.length (gre 0 G.f.2.2).toNat (gre 0 G.n.2.2).toNat G.m.2.2 = mm at *
  go_wp2_with fail
  go_ret
  exact ⟨ret_b HV.out.symm, B7.out.b⟩
end V
end Go.Proofs.Ytmcdifmbblbhgaa
