import Derived.Test.YtmcdifmbblbhgaaRvp
import Derived.Deep.RegionHeld3
set_option linter.unusedVariables false
set_option linter.unusedSimpArgs false
namespace Go.Proofs.Ytmcdifmbblbhgaa
open Go.RowKit Go.Maps
namespace V
open U D
set_option maxHeartbeats 16000000 in
set_option maxRecDepth 100000 in
theorem rvalid_any (G : Gf) (w : World) (h : G.In w) : Calls Try.prog 20 #[.agg #[.slice G.a.1 G.a.2.2.length G.a.2.1, .slice G.s.1 G.s.2.2.length G.s.2.1, .slice G.o.1 G.o.2.2.length G.o.2.1, .slice G.f.1 G.f.2.2.length G.f.2.1, .slice G.n.1 G.n.2.2.length G.n.2.1, .slice G.m.1 G.m.2.2.length G.m.2.1]] w fun e w' => e = .returned (.bool (vld G)) ∧ Below w.heap.size w w' := by
  have H := hide' h
  have HV : Hid (vld G = (wth G.a.2.2.length G.s.2.2.length G.o.2.2.length && (nun G.a.2.2 && (nun G.s.2.2 && (nun G.o.2.2 && ((G.f.2.2.length == G.s.2.2.length) && ((G.n.2.2.length == G.o.2.2.length) && (nmb 0 G.f.2.2 && (nmb 0 G.n.2.2 && msk G.a.2.2.length (gre 0 G.f.2.2).toNat (gre 0 G.n.2.2).toNat G.m.2.2))))))))) := rfl
  have la := h.a.2.2
  have ls := h.s.2.2
  have lo := h.o.2.2
  have lf := h.f.2.2
  have ln := h.n.2.2
  clear h
  go_enter Try.func20, Try.ntmps20
  have B0 : Hid (Bg G w.heap.size w (w.alloc (.cells #[.slice G.a.1 G.a.2.2.length G.a.2.1, .slice G.s.1 G.s.2.2.length G.s.2.1, .slice G.o.1 G.o.2.2.length G.o.2.1, .slice G.f.1 G.f.2.2.length G.f.2.1, .slice G.n.1 G.n.2.2.length G.n.2.1, .slice G.m.1 G.m.2.2.length G.m.2.1] 28))) := ⟨(Below.refl _ _).alloc (Nat.le_refl _) _, heap_alloc_new _ _⟩
  have SC : Hid (∀ q1 W, Bg G q1 w W → W.cell? ⟨q1, 0, none⟩ = some (.slice G.a.1 G.a.2.2.length G.a.2.1) ∧ W.cell? ⟨q1, 1, none⟩ = some (.slice G.s.1 G.s.2.2.length G.s.2.1) ∧ W.cell? ⟨q1, 2, none⟩ = some (.slice G.o.1 G.o.2.2.length G.o.2.1) ∧ W.cell? ⟨q1, 3, none⟩ = some (.slice G.f.1 G.f.2.2.length G.f.2.1) ∧ W.cell? ⟨q1, 4, none⟩ = some (.slice G.n.1 G.n.2.2.length G.n.2.1) ∧ W.cell? ⟨q1, 5, none⟩ = some (.slice G.m.1 G.m.2.2.length G.m.2.1)) := fun q1 W b => ⟨by rw [Lib.cell_of_heap b.h]; rfl, by rw [Lib.cell_of_heap b.h]; rfl, by rw [Lib.cell_of_heap b.h]; rfl, by rw [Lib.cell_of_heap b.h]; rfl, by rw [Lib.cell_of_heap b.h]; rfl, by rw [Lib.cell_of_heap b.h]; rfl⟩
  obtain ⟨c0, c1, c2, c3, c4, c5⟩ := SC.out _ _ B0.out
  by_cases ha : G.a.2.2.length ≤ 16
  rotate_left
  · have h1 : ¬ (G.a.2.2.length : Int) ≤ 16 := by omega
    have h2 : (16 : Int) < (G.a.2.2.length : Int) := by omega
    have hF : Hid (vld G = false) := by show _ = _; rw [HV.out]; simp [wth, ha]
    clear ha
    go_wp2_with fail
    go_ret
    exact ⟨ret_b hF.out.symm, B0.out.b⟩
  have ia : (G.a.2.2.length : Int) ≤ 16 := by omega
  have ja : ¬ (16 : Int) < (G.a.2.2.length : Int) := by omega
  by_cases hs : G.s.2.2.length ≤ 64
  rotate_left
  · have h1 : ¬ (G.s.2.2.length : Int) ≤ 64 := by omega
    have h2 : (64 : Int) < (G.s.2.2.length : Int) := by omega
    have hF : Hid (vld G = false) := by show _ = _; rw [HV.out]; simp [wth, hs]
    clear hs
    go_wp2_with fail
    go_ret
    exact ⟨ret_b hF.out.symm, B0.out.b⟩
  have is : (G.s.2.2.length : Int) ≤ 64 := by omega
  have js : ¬ (64 : Int) < (G.s.2.2.length : Int) := by omega
  by_cases ho : G.o.2.2.length ≤ 64
  rotate_left
  · have h1 : ¬ (G.o.2.2.length : Int) ≤ 64 := by omega
    have h2 : (64 : Int) < (G.o.2.2.length : Int) := by omega
    have hF : Hid (vld G = false) := by show _ = _; rw [HV.out]; simp [wth, ho]
    clear ho
    go_wp2_with fail
    go_ret
    exact ⟨ret_b hF.out.symm, B0.out.b⟩
  have io : (G.o.2.2.length : Int) ≤ 64 := by omega
  have jo : ¬ (64 : Int) < (G.o.2.2.length : Int) := by omega
  by_cases hf : G.f.2.2.length = G.s.2.2.length
  rotate_left
  · have h1 : ¬ (G.f.2.2.length : Int) = (G.s.2.2.length : Int) := by omega
    have hF : Hid (vld G = false) := by show _ = _; rw [HV.out, beq_eq_false_iff_ne.2 hf]; simp
    clear hf
    go_wp2_with fail
    go_ret
    exact ⟨ret_b hF.out.symm, B0.out.b⟩
  have ef : (G.f.2.2.length : Int) = (G.s.2.2.length : Int) := by omega
  have HLf := hide' hf
  clear hf
  by_cases hn : G.n.2.2.length = G.o.2.2.length
  rotate_left
  · have h1 : ¬ (G.n.2.2.length : Int) = (G.o.2.2.length : Int) := by omega
    have hF : Hid (vld G = false) := by show _ = _; rw [HV.out, beq_eq_false_iff_ne.2 hn]; simp
    clear hn
    go_wp2_with fail
    go_ret
    exact ⟨ret_b hF.out.symm, B0.out.b⟩
  have en : (G.n.2.2.length : Int) = (G.o.2.2.length : Int) := by omega
  have HLn := hide' hn
  clear hn
  have HV2 : Hid (vld G = (nun G.a.2.2 && (nun G.s.2.2 && (nun G.o.2.2 && (nmb 0 G.f.2.2 && (nmb 0 G.n.2.2 && msk G.a.2.2.length (gre 0 G.f.2.2).toNat (gre 0 G.n.2.2).toNat G.m.2.2)))))) := by
    show _ = _
    rw [HV.out, beq_iff_eq.2 HLf.out, beq_iff_eq.2 HLn.out, show wth G.a.2.2.length G.s.2.2.length G.o.2.2.length = true from by simp [wth, ha, hs, ho]]
    simp
  have HL := hide' (And.intro ha (And.intro hs ho))
  clear ha hs ho HV
  go_wp2_with fail
  generalize w.alloc (.cells #[.slice G.a.1 G.a.2.2.length G.a.2.1, .slice G.s.1 G.s.2.2.length G.s.2.1, .slice G.o.1 G.o.2.2.length G.o.2.1, .slice G.f.1 G.f.2.2.length G.f.2.1, .slice G.n.1 G.n.2.2.length G.n.2.1, .slice G.m.1 G.m.2.2.length G.m.2.1] 28) = V at *
  obtain ⟨q1, hq1⟩ : ∃ q1, q1 = w.heap.size := ⟨_, rfl⟩
  rw [← hq1] at B0
  rw [← hq1]
  clear hq1 c0 c1 c2 c3 c4 c5
  refine (twice_any G.a.1 G.a.2.1 G.a.2.2 V (H.out.below B0.out.b).a.1 H.out.a.2.1 (by have := HL.out; omega)).mono ?_
  rintro e V1 ⟨rfl, b⟩
  have B1 := hide' (B0.out.below b)
  clear b B0
  obtain ⟨c0, c1, c2, c3, c4, c5⟩ := SC.out _ _ B1.out
  go_wp2_with fail
  clear c0 c1 c2 c3 c4 c5
  refine (twice_any G.s.1 G.s.2.1 G.s.2.2 V1 (H.out.below B1.out.b).s.1 H.out.s.2.1 (by have := HL.out; omega)).mono ?_
  rintro e V2 ⟨rfl, b⟩
  have B2 := hide' (B1.out.below b)
  clear b B1
  obtain ⟨c0, c1, c2, c3, c4, c5⟩ := SC.out _ _ B2.out
  go_wp2_with fail
  clear c0 c1 c2 c3 c4 c5
  refine (twice_any G.o.1 G.o.2.1 G.o.2.2 V2 (H.out.below B2.out.b).o.1 H.out.o.2.1 (by have := HL.out; omega)).mono ?_
  rintro e V3 ⟨rfl, b⟩
  have B3 := hide' (B2.out.below b)
  clear b B2
  obtain ⟨c0, c1, c2, c3, c4, c5⟩ := SC.out _ _ B3.out
  go_wp2_with fail
  clear c0 c1 c2 c3 c4 c5
  refine (greatest_any G.f.1 G.f.2.1 G.f.2.2 V3 (H.out.below B3.out.b).f.1 H.out.f.2.1 (by have := HL.out; have := HLf.out; omega) H.out.fi).mono ?_
  rintro e V ⟨rfl, hv⟩
  rw [hv]
  clear hv V
  obtain ⟨c0, c1, c2, c3, c4, c5⟩ := SC.out _ _ B3.out
  go_wp2_with fail
  clear c0 c1 c2 c3 c4 c5
  refine (greatest_any G.n.1 G.n.2.1 G.n.2.2 V3 (H.out.below B3.out.b).n.1 H.out.n.2.1 (by have := HL.out; have := HLn.out; omega) H.out.ni).mono ?_
  rintro e V ⟨rfl, hv⟩
  rw [hv]
  clear hv V
  obtain ⟨c0, c1, c2, c3, c4, c5⟩ := SC.out _ _ B3.out
  cases hwa : nun G.a.2.2 with
  | false =>
    have hF : Hid (vld G = false) := by show _ = _; rw [HV2.out, hwa]; simp
    clear hwa
    go_wp2_with fail
    go_ret
    exact ⟨ret_b hF.out.symm, B3.out.b⟩
  | true =>
  have Wa := hide' hwa
  clear hwa
  cases hws : nun G.s.2.2 with
  | false =>
    have hF : Hid (vld G = false) := by show _ = _; rw [HV2.out, hws]; simp
    clear hws
    go_wp2_with fail
    go_ret
    exact ⟨ret_b hF.out.symm, B3.out.b⟩
  | true =>
  have Ws := hide' hws
  clear hws
  cases hwo : nun G.o.2.2 with
  | false =>
    have hF : Hid (vld G = false) := by show _ = _; rw [HV2.out, hwo]; simp
    clear hwo
    go_wp2_with fail
    go_ret
    exact ⟨ret_b hF.out.symm, B3.out.b⟩
  | true =>
  have Wo := hide' hwo
  clear hwo
  cases hwf : nmb 0 G.f.2.2 with
  | false =>
    have hF : Hid (vld G = false) := by show _ = _; rw [HV2.out, hwf]; simp
    clear hwf
    go_wp2_with fail
    go_ret
    exact ⟨ret_b hF.out.symm, B3.out.b⟩
  | true =>
  have Wf := hide' hwf
  clear hwf
  cases hwn : nmb 0 G.n.2.2 with
  | false =>
    have hF : Hid (vld G = false) := by show _ = _; rw [HV2.out, hwn]; simp
    clear hwn
    go_wp2_with fail
    go_ret
    exact ⟨ret_b hF.out.symm, B3.out.b⟩
  | true =>
  have Wn := hide' hwn
  clear hwn
  obtain ⟨R, hR⟩ : ∃ R : Nat, R = (gre 0 G.f.2.2).toNat := ⟨_, rfl⟩
  obtain ⟨C, hC⟩ : ∃ C : Nat, C = (gre 0 G.n.2.2).toNat := ⟨_, rfl⟩
  have eR : gI G.f.2.2 = (R : Int) := by rw [gI_yes Wf.out, hR]; have := gre_le 0 G.f.2.2; omega
  have eC : gI G.n.2.2 = (C : Int) := by rw [gI_yes Wn.out, hC]; have := gre_le 0 G.n.2.2; omega
  have hR64 : (R : Int) ≤ 64 := by have := nmb_gre Wf.out; have := gre_le 0 G.f.2.2; have := HL.out; have := HLf.out; omega
  have hC64 : (C : Int) ≤ 64 := by have := nmb_gre Wn.out; have := gre_le 0 G.n.2.2; have := HL.out; have := HLn.out; omega
  have HV3 : Hid (vld G = (shp G.a.2.2.length R C G.m.2.2 && (unl (sq G.m.2.2) R && unl (fun k => sq G.m.2.2 (k % 64 * 64 + k / 64)) C))) := by
    show _ = _
    rw [HV2.out, Wa.out, Ws.out, Wo.out, Wf.out, Wn.out, ← hR, ← hC, msk_shp]
    simp
  rw [eR, eC]
  clear eR eC hR hC HV2 Wa Ws Wo Wf Wn c0 c1 c2 c3 c4 c5
  go_wp2_with (with_reducible refine stay_load 28 _ rfl ?_)
  unfold Stay
  refine wpList_load_w (by rfl) 28 _ rfl q1 rfl 28 #[.slice G.a.1 G.a.2.2.length G.a.2.1, .slice G.s.1 G.s.2.2.length G.s.2.1, .slice G.o.1 G.o.2.2.length G.o.2.1, .slice G.f.1 G.f.2.2.length G.f.2.1, .slice G.n.1 G.n.2.2.length G.n.2.1, .slice G.m.1 G.m.2.2.length G.m.2.1] (0, 0) _ B3.out.h Try.underlying28 rfl (by kernel_rfl) ?_
  go_wp2_with fail
  refine (shaped_any G V3 R C (H.out.below B3.out.b) (by have := HL.out; omega) hR64 hC64).mono ?_
  rintro e V4 ⟨rfl, b⟩
  have B4 := hide' (B3.out.below b)
  clear b B3
  cases hsp : shp G.a.2.2.length R C G.m.2.2 with
  | false =>
    have hF : Hid (vld G = false) := by show _ = _; rw [HV3.out, hsp]; rfl
    clear hsp
    go_wp2_with fail
    go_ret
    exact ⟨ret_b hF.out.symm, B4.out.b⟩
  | true =>
  have LN := hide' (shp_lens hsp)
  have HV4 : Hid (vld G = (unl (sq G.m.2.2) R && unl (fun k => sq G.m.2.2 (k % 64 * 64 + k / 64)) C)) := by show _ = _; rw [HV3.out, hsp, Bool.true_and]
  clear hsp HV3
  have hml : (G.m.2.2.length : Int) ≤ 9223372036854775807 := H.out.m.2.2
  have hmc := H.out.m.2.1
  go_wp2_with fail
  go_loopw [11] (fun xv wx => ∃ (x : Nat), xv = .int .i64 (x : Int) ∧ x ≤ R ∧ Hid (∀ b, b < x → ∀ a, a < b → rowL G.m.2.2 b ≠ rowL G.m.2.2 a) ∧ Hid (Bg G q1 w wx)) (fun xv _ => R - (intOf xv).toNat)
  case atStart => exact ⟨0, rfl, Nat.zero_le _, (fun b hb => by omega), B4⟩
  case round =>
    obtain ⟨x, rfl, hx, HX, BX⟩ := hrel
    by_cases hxt : x < R
    · have hxt' : (x : Int) < (R : Int) := by omega
      go_wp2_with fail
      go_loopw [12] (fun iv wx => ∃ (i : Nat), iv = .int .i64 (i : Int) ∧ i ≤ x ∧ Hid (∀ a, a < i → rowL G.m.2.2 x ≠ rowL G.m.2.2 a) ∧ Hid (Bg G q1 w wx)) (fun iv _ => x - (intOf iv).toNat)
      case atStart => exact ⟨0, rfl, Nat.zero_le _, (fun a ha => by omega), BX⟩
      case round =>
        obtain ⟨i, rfl, hi, HI, BI⟩ := hrel
        clear BX
        by_cases hit : i < x
        · have hit' : (i : Int) < (x : Int) := by omega
          have hxm : (x : Int) < (G.m.2.2.length : Int) := by have := LN.out.1; omega
          have him : (i : Int) < (G.m.2.2.length : Int) := by omega
          obtain ⟨rx, hrx⟩ : ∃ r, G.m.2.2[x]? = some r := ⟨_, List.getElem?_eq_getElem (by omega)⟩
          obtain ⟨ri, hri⟩ : ∃ r, G.m.2.2[i]? = some r := ⟨_, List.getElem?_eq_getElem (by omega)⟩
          have er : Hid (rowL G.m.2.2 x = rx.l ∧ rowL G.m.2.2 i = ri.l) := ⟨by unfold rowL; simp [List.getD, hrx], by unfold rowL; simp [List.getD, hri]⟩
          have kx := (H.out.below BI.out.b).r rx (List.mem_of_getElem? hrx)
          have ki := (H.out.below BI.out.b).r ri (List.mem_of_getElem? hri)
          have lx := LN.out.2 rx (List.mem_of_getElem? hrx)
          have li := LN.out.2 ri (List.mem_of_getElem? hri)
          obtain ⟨mb, mo, hm, hml1, cx⟩ := (H.out.below BI.out.b).m.1.one hrx
          obtain ⟨mb2, mo2, hm2, hml2, ci⟩ := (H.out.below BI.out.b).m.1.one hri
          rw [hm] at hm2
          cases hm2
          unfold Mr.cell at cx ci
          have KC : Hid (∀ W, Below wr.heap.size wr W → W.cell? ⟨q1, 5, none⟩ = some (.slice (some ⟨mb, mo, none⟩) G.m.2.2.length G.m.2.1) ∧ W.cell? ⟨mb, mo + x, none⟩ = some (.slice rx.ro rx.l.length rx.rc) ∧ W.cell? ⟨mb, mo + i, none⟩ = some (.slice ri.ro ri.l.length ri.rc)) := fun W b => by
            obtain ⟨_, _, _, _, _, c5⟩ := SC.out _ _ (BI.out.below b)
            rw [hm] at c5
            exact ⟨c5, (b.cell (p := ⟨mb, mo + x, none⟩) hml1).trans cx, (b.cell (p := ⟨mb, mo + i, none⟩) hml1).trans ci⟩
          have C56 : Hid (∀ W, Below wr.heap.size wr W → Calls Try.prog 56 #[.slice rx.ro rx.l.length rx.rc, .slice ri.ro ri.l.length ri.rc] W fun e w' => e = .returned (.bool (decide (rx.l = ri.l))) ∧ Below W.heap.size W w') := fun W b => equal_any rx.ro ri.ro rx.rc ri.rc rx.l ri.l W (kx.1.1.below b) (ki.1.1.below b) kx.1.2.1 ki.1.2.1 (by omega) (by omega)
          have e0 : Below wr.heap.size wr wr.drew := ⟨rfl, rfl, rfl, Nat.le_refl _, fun _ _ => rfl⟩
          obtain ⟨d5, dx, di⟩ := KC.out wr (Below.refl _ _)
          clear hrx hri kx ki lx li hm hml1 hml2 cx ci
          go_wp2_with fail
          go_region_held3 (fun W => W.cell? ⟨q1, 5, none⟩ = some (.slice (some ⟨mb, mo, none⟩) G.m.2.2.length G.m.2.1) ∧ W.cell? ⟨mb, mo + x, none⟩ = some (.slice rx.ro rx.l.length rx.rc) ∧ W.cell? ⟨mb, mo + i, none⟩ = some (.slice ri.ro ri.l.length ri.rc)) (first | with_reducible exact KC.out _ e1 | with_reducible exact KC.out _ e0 | go_keep) ((go_at_call 56; refine (C56.out _ e0).mono ?_; rintro e w1 ⟨rfl, b1⟩; have e1 : Below wr.heap.size wr w1 := e0.trans (b1.mono e0.size); clear b1))
          rename_i hHeld
          clear hHeld d5 dx di KC C56 e0
          have B5 := hide' (BI.out.below e1)
          clear e1 BI
          by_cases he : rx.l = ri.l
          · have hd : decide (rx.l = ri.l) = true := decide_eq_true he
            have hF : Hid (vld G = false) := by
              show _ = _
              have q := unl_row_no LN.out.2 (show C ≤ 64 by omega) hit (show x < G.m.2.2.length by omega) (by rw [er.out.1, er.out.2]; exact he)
              rw [LN.out.1] at q
              rw [HV4.out, q]
              rfl
            clear he
            rw [hd]
            clear hd
            go_wp2_with fail
            go_ret
            exact ⟨ret_b hF.out.symm, B5.out.b⟩
          · have hd : decide (rx.l = ri.l) = false := decide_eq_false he
            have HI2 : Hid (∀ a, a < i + 1 → rowL G.m.2.2 x ≠ rowL G.m.2.2 a) := fun a ha => by
              by_cases q : a < i
              · exact HI.out a q
              · rw [show a = i by omega, er.out.1, er.out.2]; exact he
            clear he
            rw [hd]
            clear hd HI
            go_wp2_with fail
            exact ⟨⟨i + 1, by go_num, by omega, HI2, B5⟩, by simp [intOf]; omega⟩
        · have hi' : i = x := by omega
          subst hi'
          have hit' : ¬ (i : Int) < (i : Int) := by omega
          have HX2 : Hid (∀ b, b < i + 1 → ∀ a, a < b → rowL G.m.2.2 b ≠ rowL G.m.2.2 a) := fun b hb => by
            by_cases q : b < i
            · exact HX.out b q
            · rw [show b = i by omega]; exact HI.out
          clear hit hi HI HX
          go_wp2_with fail
          exact ⟨⟨i + 1, by go_num, by omega, HX2, BI⟩, by simp [intOf]; omega⟩
    · have hx' : x = R := by omega
      have hxt' : ¬ (x : Int) < (R : Int) := by omega
      have HU : Hid (vld G = unl (fun k => sq G.m.2.2 (k % 64 * 64 + k / 64)) C) := by
        show _ = _
        have q := unl_row_yes LN.out.2 (show C ≤ 64 by omega) (by rw [LN.out.1, ← hx']; exact HX.out)
        rw [LN.out.1] at q
        rw [HV4.out, q, Bool.true_and]
      clear hxt hx hx' HX HV4
      go_wp2_with fail
      go_loopw [14] (fun xv wx => ∃ (y : Nat), xv = .int .i64 (y : Int) ∧ y ≤ C ∧ Hid (∀ b, b < y → ∀ a, a < b → col G.m.2.2 b ≠ col G.m.2.2 a) ∧ Hid (Bg G q1 w wx)) (fun xv _ => C - (intOf xv).toNat)
      case atStart => exact ⟨0, rfl, Nat.zero_le _, (fun b hb => by omega), BX⟩
      case round =>
        obtain ⟨y, rfl, hy, HY, BY⟩ := hrel
        clear BX
        by_cases hyt : y < C
        · have hyt' : (y : Int) < (C : Int) := by omega
          go_wp2_with fail
          go_loopw [15] (fun iv wx => ∃ (j : Nat), iv = .int .i64 (j : Int) ∧ j ≤ y ∧ Hid (∀ a, a < j → col G.m.2.2 y ≠ col G.m.2.2 a) ∧ Hid (Bg G q1 w wx)) (fun iv _ => y - (intOf iv).toNat)
          case atStart => exact ⟨0, rfl, Nat.zero_le _, (fun a ha => by omega), BY⟩
          case round =>
            obtain ⟨j, rfl, hj, HJ, BJ⟩ := hrel
            clear BY
            by_cases hjt : j < y
            · have hjt' : (j : Int) < (y : Int) := by omega
              have KC : Hid (∀ W, Below wr.heap.size wr W → W.cell? ⟨q1, 5, none⟩ = some (.slice G.m.1 G.m.2.2.length G.m.2.1)) := fun W b => (SC.out _ _ (BJ.out.below b)).2.2.2.2.2
              have KM : Hid (∀ W, Below wr.heap.size wr W → LM G.m.1 G.m.2.2 W) := fun W b => by
                have h := H.out.below (BJ.out.below b).b
                exact ⟨h.m.1, fun r hr => ⟨(h.r r hr).1.1, (h.r r hr).1.2.1⟩⟩
              have hm64 : (G.m.2.2.length : Int) ≤ 65536 := by have := LN.out.1; omega
              have hl0 : ∀ k, (col G.m.2.2 k).length = G.m.2.2.length := fun k => by unfold col; rw [List.length_map]
              have C41 : Hid (∀ (k : Nat) W, k < C → Below wr.heap.size wr W → Calls Try.prog 41 #[.slice G.m.1 G.m.2.2.length G.m.2.1, .int .i64 (k : Int)] W fun e w' => ∃ co cc, e = .returned (.slice co (col G.m.2.2 k).length cc) ∧ LU co (col G.m.2.2 k) w' ∧ (col G.m.2.2 k).length ≤ cc ∧ Below W.heap.size W w') := fun k W hk b => column_any G.m.1 G.m.2.1 k G.m.2.2 W (KM.out W b) hmc hm64 (fun r hr => by have := LN.out.2 r hr; omega) (fun r hr => by have := LN.out.2 r hr; omega)
              have e0 : Below wr.heap.size wr wr.drew := ⟨rfl, rfl, rfl, Nat.le_refl _, fun _ _ => rfl⟩
              have d5 := KC.out wr (Below.refl _ _)
              have C56 : Hid (∀ (co1 co2 : Option Addr) (cc1 cc2 : Nat) W, LU co1 (col G.m.2.2 y) W → LU co2 (col G.m.2.2 j) W → (col G.m.2.2 y).length ≤ cc1 → (col G.m.2.2 j).length ≤ cc2 → Calls Try.prog 56 #[.slice co1 (col G.m.2.2 y).length cc1, .slice co2 (col G.m.2.2 j).length cc2] W fun e w' => e = .returned (.bool (decide (col G.m.2.2 y = col G.m.2.2 j))) ∧ Below W.heap.size W w') := fun co1 co2 cc1 cc2 W h1 h2 h3 h4 => equal_any co1 co2 cc1 cc2 _ _ W h1 h2 h3 h4 (by rw [hl0]; exact hm64) (by rw [hl0]; omega)
              have yC : y < C := hyt
              have jC : j < C := by omega
              clear hl0
              go_wp2_with fail
              go_region_held3 (fun W => W.cell? ⟨q1, 5, none⟩ = some (.slice G.m.1 G.m.2.2.length G.m.2.1)) (first | with_reducible exact KC.out _ e3 | with_reducible exact KC.out _ e2 | with_reducible exact KC.out _ e1 | with_reducible exact KC.out _ e0 | go_keep) (first | (go_at_call 56; refine (C56.out co1 co2 cc1 cc2 _ (l1.below b2) l2 hc1 hc2).mono ?_; rintro e w3 ⟨rfl, b3⟩; have e3 : Below wr.heap.size wr w3 := e2.trans (b3.mono e2.size); clear b3) | (go_at_call 41; have G1 := l1; clear G1; refine (C41.out j _ jC e1).mono ?_; rintro e w2 ⟨co2, cc2, rfl, l2, hc2, b2⟩; have e2 : Below wr.heap.size wr w2 := e1.trans (b2.mono e1.size)) | (go_at_call 41; refine (C41.out y _ yC e0).mono ?_; rintro e w1 ⟨co1, cc1, rfl, l1, hc1, b1⟩; have e1 : Below wr.heap.size wr w1 := e0.trans (b1.mono e0.size); clear b1))
              rename_i hHeld
              clear hHeld d5 KC KM C41 C56 l1 l2 hc1 hc2 b2 e0 e1 e2 yC jC
              have B5 := hide' (BJ.out.below e3)
              clear e3 BJ
              by_cases he : col G.m.2.2 y = col G.m.2.2 j
              · have hd : decide (col G.m.2.2 y = col G.m.2.2 j) = true := decide_eq_true he
                have hF : Hid (vld G = false) := by
                  show _ = _
                  rw [HU.out]
                  exact unl_col_no (show C ≤ 64 by omega) (by have := LN.out.1; omega) hjt hyt he
                clear he
                rw [hd]
                clear hd
                go_wp2_with fail
                go_ret
                exact ⟨ret_b hF.out.symm, B5.out.b⟩
              · have hd : decide (col G.m.2.2 y = col G.m.2.2 j) = false := decide_eq_false he
                have HJ2 : Hid (∀ a, a < j + 1 → col G.m.2.2 y ≠ col G.m.2.2 a) := fun a ha => by
                  by_cases q : a < j
                  · exact HJ.out a q
                  · rw [show a = j by omega]; exact he
                clear he
                rw [hd]
                clear hd HJ
                go_wp2_with fail
                exact ⟨⟨j + 1, by go_num, by omega, HJ2, B5⟩, by simp [intOf]; omega⟩
            · have hj' : j = y := by omega
              subst hj'
              have hjt' : ¬ (j : Int) < (j : Int) := by omega
              have HY2 : Hid (∀ b, b < j + 1 → ∀ a, a < b → col G.m.2.2 b ≠ col G.m.2.2 a) := fun b hb => by
                by_cases q : b < j
                · exact HY.out b q
                · rw [show b = j by omega]; exact HJ.out
              clear hjt hj HJ HY
              go_wp2_with fail
              exact ⟨⟨j + 1, by go_num, by omega, HY2, BJ⟩, by simp [intOf]; omega⟩
        · have hy' : y = C := by omega
          have hyt' : ¬ (y : Int) < (C : Int) := by omega
          have hT : Hid (vld G = true) := by
            show _ = _
            rw [HU.out]
            exact unl_col_yes (show C ≤ 64 by omega) (by have := LN.out.1; omega) (by rw [← hy']; exact HY.out)
          clear hyt hy hy' HY HU
          go_wp2_with fail
          go_ret
          exact ⟨ret_b hT.out.symm, BY.out.b⟩
end V
end Go.Proofs.Ytmcdifmbblbhgaa
