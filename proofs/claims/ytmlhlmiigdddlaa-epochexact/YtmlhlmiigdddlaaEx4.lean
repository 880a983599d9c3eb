import Derived.Test.YtmlhlmiigdddlaaEx3
set_option linter.unusedVariables false
set_option linter.unusedSimpArgs false
namespace Go.Proofs.Ytmlhlmiigdddlaa
open Go.RowKit
namespace V
open M F
variable {w0 w w' : World} {Ln s x y N : Nat}
theorem mk_md (m : Nat) (sn : Int) : mk (md m) sn = mk (m : Nat) sn := by
  unfold mk md
  by_cases h : m < 2
  · rw [if_pos h]
  · rw [if_neg h, if_neg (by omega), if_neg (by omega)]
theorem Wn.flagT (h : Wn w0 Ln s x y N w) : Wn w0 Ln s x y N (w.setCell ⟨s, 8, none⟩ (.bool true)) := by
  obtain ⟨bel, U, ws, tr, bad, S, X, G, r, hP, h1, h2, h3, h4, hW, hR⟩ := h
  exact ⟨bel_flag bel hW.ls _ 8, U, ws, tr, bad, S, X, G, r, Pr.flagged hP hW true, h1, h2, h3, h4, hW.flag true, hR⟩
set_option maxRecDepth 100000 in
set_option maxHeartbeats 4000000 in
theorem se_mark (wh nn v : Int) (h : Wn w0 Ln s x y N w) (hN : N < 1999990) (hLn : Ln ≤ 60) :
    Calls Try.prog 35 #[.pointer (some ⟨s, 0, none⟩), .agg #[.int .i64 3, .int .i64 wh, .int .i64 nn, .int .i64 v]] w fun e w' => e = .returned (.tuple #[]) ∧ Wn w0 Ln s x y (N + 1) w' := by
  have h0 := h
  obtain ⟨bel, U, ws, tr, bad, S, X, G, r, hP, h1, h2, h3, h4, hW, hRt⟩ := h
  obtain ⟨D, R, hM, hR, hdis, hU⟩ := hP
  have hB0 : Below w.heap.size w (w.alloc (.cells #[.int .i64 3, .int .i64 wh, .int .i64 nn, .int .i64 v] 52)) := (Below.refl _ _).alloc (Nat.le_refl _) _
  have hW0 := hW.below hB0
  have hb0 := heap_alloc_new w (.cells #[.int .i64 3, .int .i64 wh, .int .i64 nn, .int .i64 v] 52)
  have q0 : (w.alloc (.cells #[.int .i64 3, .int .i64 wh, .int .i64 nn, .int .i64 v] 52)).cell? ⟨w.heap.size, 0, none⟩ = some (.int .i64 3) := by rw [Lib.cell_of_heap hb0]; rfl
  have q1 : (w.alloc (.cells #[.int .i64 3, .int .i64 wh, .int .i64 nn, .int .i64 v] 52)).cell? ⟨w.heap.size, 1, none⟩ = some (.int .i64 wh) := by rw [Lib.cell_of_heap hb0]; rfl
  have s4 := hW0.c4
  have s5 := hW0.c5
  rw [show r.L 2 = X.length from h4.2.2.1] at s4
  rw [show r.L 3 = X.length from h4.2.2.2.1] at s5
  have HQ : Hid (∀ V', Below w.heap.size w V' → Wn w0 Ln s x y (N + 1) V') := hide' (fun V' hb => h0.quiet hb)
  by_cases hz : X.length = 0
  · have F := hide' (HQ.out _ hB0)
    rw [hz] at s4
    clear h0 bel hM hR hdis hU h1 h2 h3 h4 hW hRt hW0 hb0 HQ hz hB0 s5
    go_enter Try.func35, Try.ntmps35
    go_wp2
    refine bodyPost_ret (results_none rfl _ _ _) rfl ?_
    exact ⟨rfl, F.out⟩
  have hL0 : (0 : Int) < (X.length : Int) := by omega
  have hi1 := Int.emod_nonneg wh (b := (X.length : Int)) (by omega)
  have hi2 := Int.emod_lt_of_pos wh (b := (X.length : Int)) hL0
  have HPk := hide' (fun V => pick_big wh (X.length : Int) V hL0 (by omega))
  generalize wh % (X.length : Int) = zi at *
  obtain ⟨i, rfl⟩ : ∃ i : Nat, zi = (i : Int) := ⟨zi.toNat, by omega⟩
  have hil : i < X.length := by omega
  obtain ⟨p, hp⟩ : ∃ p, X[i]? = some p := ⟨_, List.getElem?_eq_getElem hil⟩
  obtain ⟨xg, exg, cxg⟩ := ptr_cell (i := i) (b := p.b) (hW0.row 2) (by show (X.map Xp.b)[i]? = _; rw [List.getElem?_map, hp]; rfl)
  obtain ⟨yg, eyg, cyg⟩ := ptr_cell (i := i) (b := p.c) (hW0.row 3) (by show (X.map Xp.c)[i]? = _; rw [List.getElem?_map, hp]; rfl)
  rw [exg] at s4
  rw [eyg] at s5
  have hdz : ((X.length : Int) == 0) = false := by rw [beq_eq_false_iff_ne]; omega
  have HCell : Hid (∀ V' fm ok, Ws w0.heap.size s x y r (rsOf S X G) fm ok V' → V'.cell? ⟨s, 4, none⟩ = some (.slice (some ⟨xg, 0, none⟩) X.length (r.cap 2)) ∧ V'.cell? ⟨s, 5, none⟩ = some (.slice (some ⟨yg, 0, none⟩) X.length (r.cap 3)) ∧ V'.cell? ⟨xg, i, none⟩ = some (.pointer (some ⟨p.b, 0, none⟩)) ∧ V'.cell? ⟨yg, i, none⟩ = some (.pointer (some ⟨p.c, 0, none⟩))) := hide' (fun V' fm ok hx => by
    have z1 := hx.c4
    have z2 := hx.c5
    rw [show r.L 2 = X.length from h4.2.2.1, exg] at z1
    rw [show r.L 3 = X.length from h4.2.2.2.1, eyg] at z2
    obtain ⟨g1, e1, z3⟩ := ptr_cell (i := i) (b := p.b) (hx.row 2) (by show (X.map Xp.b)[i]? = _; rw [List.getElem?_map, hp]; rfl)
    obtain ⟨g2, e2, z4⟩ := ptr_cell (i := i) (b := p.c) (hx.row 3) (by show (X.map Xp.c)[i]? = _; rw [List.getElem?_map, hp]; rfl)
    rw [exg] at e1
    rw [eyg] at e2
    cases e1
    cases e2
    exact ⟨z1, z2, z3, z4⟩)
  have HWt : Hid (∀ V', Below w.heap.size w V' → Below w0.heap.size w0 V' ∧ Mem D w0.heap.size x ws tr bad V' ∧ Rem R w0.heap.size y ws N tr bad V' ∧ Ws w0.heap.size s x y r (rsOf S X G) (fmOf x y S X G) true V') := hide' (fun V' hb => ⟨bel.trans (hb.mono bel.size), hM.below hb, hR.below hb, hW.below hb⟩)
  have HP := hide' (And.intro hp (And.intro hdis (And.intro h1 (And.intro h2 (And.intro h3 (And.intro h4 (And.intro hRt hN)))))))
  have HB0 := hide' hB0
  have hil' : (i : Int) < (X.length : Int) := by omega
  have HLn := hide' hLn
  clear h0 bel hM hR hdis hU h1 h2 h3 h4 hW hRt hW0 hb0 hz hB0 hi1 hi2 hp exg eyg hLn
  generalize hLg : X.length = L at *
  have HLg := hide' hLg
  clear hLg hil
  generalize r.cap 2 = cp1 at *
  generalize r.cap 3 = cp2 at *
  go_enter Try.func35, Try.ntmps35
  go_wp2_with fail
  generalize (w.alloc (.cells #[.int .i64 3, .int .i64 wh, .int .i64 nn, .int .i64 v] 52)) = W at *
  generalize hβg : w.heap.size = β at *
  have HBg := hide' hβg
  clear hβg
  go_quiet ((go_at_call 7; exact Calls.quiet_of_same (HPk.out _)))
  have HB1 : Hid (Below β w (W.drewN nq)) := hide' (HB0.out.trans ⟨rfl, rfl, rfl, Nat.le_refl _, fun _ _ => rfl⟩)
  replace s4 : (W.drewN nq).cell? ⟨s, 4, none⟩ = some (.slice (some ⟨xg, 0, none⟩) L cp1) := s4
  replace s5 : (W.drewN nq).cell? ⟨s, 5, none⟩ = some (.slice (some ⟨yg, 0, none⟩) L cp2) := s5
  replace cxg : (W.drewN nq).cell? ⟨xg, i, none⟩ = some (.pointer (some ⟨p.b, 0, none⟩)) := cxg
  replace cyg : (W.drewN nq).cell? ⟨yg, i, none⟩ = some (.pointer (some ⟨p.c, 0, none⟩)) := cyg
  replace q0 : (W.drewN nq).cell? ⟨β, 0, none⟩ = some (.int .i64 3) := q0
  clear q1 HB0 hdz HPk hL0
  generalize W.drewN nq = V1 at *

  have HBd : Hid (Below β w V1.drew) := hide' (HB1.out.trans ⟨rfl, rfl, rfl, Nat.le_refl _, fun _ _ => rfl⟩)
  have BL2 : Hid (∀ (V V' : World), Below β w V → Below V.heap.size V V' → Below β w V') := hide' (fun V V' hb hb' => by
    have hz : β ≤ V.heap.size := by have := hb.size; rw [HBg.out] at this; exact this
    exact hb.trans (hb'.mono hz))
  have CE := hide' (fun (V : World) (hb : Below β w V) => HCell.out V _ _ (HWt.out V hb).2.2.2)
  have CE2 := hide' (fun (V : World) (z : Bool) (hb : Below β w V) => HCell.out _ _ _ ((HWt.out V hb).2.2.2.flag z))
  have HF := hide' (fun (V : World) (hb : Below β w V) => Wn.flagT (HQ.out V hb))

  have HT1 : Hid (∀ V, Below β w V → Calls Try.prog 30 #[.pointer (some ⟨p.b, 0, none⟩)] V fun e V' => e = .returned (.int .i64 (mk (p.m : Nat) p.sn)) ∧ Below β w V') := hide' (fun V hb => by
    obtain ⟨y1, y2, y3, y4⟩ := HWt.out V hb
    refine (mark_any (show Sc p.b x p.q.e p.q.f p.q.n p.s (md p.m) p.sn V from ((y4.fam 2).at_ i (p.b, scc x p.q.e p.q.f p.q.n p.s (md p.m) p.sn) (by show (X.map _)[i]? = _; rw [List.getElem?_map, HP.out.1]; rfl)).1)).mono fun e V' ⟨h1, h2⟩ => ⟨by rw [h1, mk_md], by rw [h2]; exact hb⟩)
  have HT2 : Hid (∀ V, Below β w V → Calls Try.prog 63 #[.pointer (some ⟨p.c, 0, none⟩)] V fun e V' => e = .returned (.int .i64 (mk (p.m : Nat) p.sn)) ∧ Below β w V') := hide' (fun V hb => by
    obtain ⟨y1, y2, y3, y4⟩ := HWt.out V hb
    refine (rmark_any (show RSc p.c p.q.c p.s p.m p.sn V from ((y4.fam 3).at_ i (p.c, rscc p.q.c p.s p.m p.sn) (by show (X.map _)[i]? = _; rw [List.getElem?_map, HP.out.1]; rfl)).1)).mono fun e V' ⟨h1, h2⟩ => ⟨h1, by rw [h2]; exact hb⟩)
  go_wp2_with fail
  generalize mk (p.m : Nat) p.sn = vv at *
  go_region_held3 (fun w' => w'.cell? ⟨s, 4, none⟩ = some (.slice (some ⟨xg, 0, none⟩) L cp1) ∧ w'.cell? ⟨s, 5, none⟩ = some (.slice (some ⟨yg, 0, none⟩) L cp2) ∧ w'.cell? ⟨xg, i, none⟩ = some (.pointer (some ⟨p.b, 0, none⟩)) ∧ w'.cell? ⟨yg, i, none⟩ = some (.pointer (some ⟨p.c, 0, none⟩))) (first | exact ⟨s4, s5, cxg, cyg⟩ | exact k2 | exact k3 | exact CE2.out _ _ B3.out) ((first | (go_at_call 30; refine (HT1.out _ HBd.out).mono ?_; rintro e w2 ⟨rfl, b2⟩; have B2 := hide' b2; have k2 := CE.out _ B2.out; clear b2) | (go_at_call 63; refine (HT2.out _ B2.out).mono ?_; rintro e w3 ⟨rfl, b3⟩; have B3 := hide' b3; have k3 := CE.out _ B3.out; have c8 := (HWt.out _ B3.out).2.2.2.c8; have f8 := (HWt.out _ B3.out).2.2.2.fz 8; clear b3)))
  rename_i hHeld
  clear hHeld
  have FF := hide' (HF.out w3 B3.out)
  clear HT1 HT2 HQ HWt HP HB1 HBd cxg cyg s4 s5 k2 k3 B2 B3 BL2 CE CE2 HF HCell q0 c8 f8
  go_wp2
  go_end0
  exact ⟨rfl, by first | exact FF.out | simpa using FF.out⟩
set_option maxRecDepth 100000 in
set_option maxHeartbeats 4000000 in
theorem gr_at (wh nn v : Int) (h : Wn w0 Ln s x y N w) (hN : N < 1999990) (hLn : Ln ≤ 60) :
    Calls Try.prog 36 #[.pointer (some ⟨s, 0, none⟩), .agg #[.int .i64 8, .int .i64 wh, .int .i64 nn, .int .i64 v]] w fun e w' => e = .returned (.tuple #[]) ∧ Wn w0 Ln s x y (N + 1) w' := by
  have h0 := h
  obtain ⟨bel, U, ws, tr, bad, S, X, G, r, hP, h1, h2, h3, h4, hW, hRt⟩ := h
  obtain ⟨D, R, hM, hR, hdis, hU⟩ := hP
  have hB0 : Below w.heap.size w (w.alloc (.cells #[.int .i64 8, .int .i64 wh, .int .i64 nn, .int .i64 v] 52)) := (Below.refl _ _).alloc (Nat.le_refl _) _
  have hW0 := hW.below hB0
  have hb0 := heap_alloc_new w (.cells #[.int .i64 8, .int .i64 wh, .int .i64 nn, .int .i64 v] 52)
  have q0 : (w.alloc (.cells #[.int .i64 8, .int .i64 wh, .int .i64 nn, .int .i64 v] 52)).cell? ⟨w.heap.size, 0, none⟩ = some (.int .i64 8) := by rw [Lib.cell_of_heap hb0]; rfl
  have q1 : (w.alloc (.cells #[.int .i64 8, .int .i64 wh, .int .i64 nn, .int .i64 v] 52)).cell? ⟨w.heap.size, 1, none⟩ = some (.int .i64 wh) := by rw [Lib.cell_of_heap hb0]; rfl
  have s4 := hW0.c6
  have s5 := hW0.c7
  rw [show r.L 4 = G.length from h4.2.2.2.2.1] at s4
  rw [show r.L 5 = G.length from h4.2.2.2.2.2] at s5
  have HQ : Hid (∀ V', Below w.heap.size w V' → Wn w0 Ln s x y (N + 1) V') := hide' (fun V' hb => h0.quiet hb)
  by_cases hz : G.length = 0
  · have F := hide' (HQ.out _ hB0)
    rw [hz] at s4
    clear h0 bel hM hR hdis hU h1 h2 h3 h4 hW hRt hW0 hb0 HQ hz hB0 s5
    go_enter Try.func36, Try.ntmps36
    go_wp2
    refine bodyPost_ret (results_none rfl _ _ _) rfl ?_
    exact ⟨rfl, F.out⟩
  have hL0 : (0 : Int) < (G.length : Int) := by omega
  have hi1 := Int.emod_nonneg wh (b := (G.length : Int)) (by omega)
  have hi2 := Int.emod_lt_of_pos wh (b := (G.length : Int)) hL0
  have HPk := hide' (fun V => pick_big wh (G.length : Int) V hL0 (by omega))
  generalize wh % (G.length : Int) = zi at *
  obtain ⟨i, rfl⟩ : ∃ i : Nat, zi = (i : Int) := ⟨zi.toNat, by omega⟩
  have hil : i < G.length := by omega
  obtain ⟨p, hp⟩ : ∃ p, G[i]? = some p := ⟨_, List.getElem?_eq_getElem hil⟩
  obtain ⟨xg, exg, cxg⟩ := ptr_cell (i := i) (b := p.b) (hW0.row 4) (by show (G.map Gp.b)[i]? = _; rw [List.getElem?_map, hp]; rfl)
  obtain ⟨yg, eyg, cyg⟩ := ptr_cell (i := i) (b := p.c) (hW0.row 5) (by show (G.map Gp.c)[i]? = _; rw [List.getElem?_map, hp]; rfl)
  rw [exg] at s4
  rw [eyg] at s5
  have hdz : ((G.length : Int) == 0) = false := by rw [beq_eq_false_iff_ne]; omega
  have HCell : Hid (∀ V' fm ok, Ws w0.heap.size s x y r (rsOf S X G) fm ok V' → V'.cell? ⟨s, 6, none⟩ = some (.slice (some ⟨xg, 0, none⟩) G.length (r.cap 4)) ∧ V'.cell? ⟨s, 7, none⟩ = some (.slice (some ⟨yg, 0, none⟩) G.length (r.cap 5)) ∧ V'.cell? ⟨xg, i, none⟩ = some (.pointer (some ⟨p.b, 0, none⟩)) ∧ V'.cell? ⟨yg, i, none⟩ = some (.pointer (some ⟨p.c, 0, none⟩))) := hide' (fun V' fm ok hx => by
    have z1 := hx.c6
    have z2 := hx.c7
    rw [show r.L 4 = G.length from h4.2.2.2.2.1, exg] at z1
    rw [show r.L 5 = G.length from h4.2.2.2.2.2, eyg] at z2
    obtain ⟨g1, e1, z3⟩ := ptr_cell (i := i) (b := p.b) (hx.row 4) (by show (G.map Gp.b)[i]? = _; rw [List.getElem?_map, hp]; rfl)
    obtain ⟨g2, e2, z4⟩ := ptr_cell (i := i) (b := p.c) (hx.row 5) (by show (G.map Gp.c)[i]? = _; rw [List.getElem?_map, hp]; rfl)
    rw [exg] at e1
    rw [eyg] at e2
    cases e1
    cases e2
    exact ⟨z1, z2, z3, z4⟩)
  have HWt : Hid (∀ V', Below w.heap.size w V' → Below w0.heap.size w0 V' ∧ Mem D w0.heap.size x ws tr bad V' ∧ Rem R w0.heap.size y ws N tr bad V' ∧ Ws w0.heap.size s x y r (rsOf S X G) (fmOf x y S X G) true V') := hide' (fun V' hb => ⟨bel.trans (hb.mono bel.size), hM.below hb, hR.below hb, hW.below hb⟩)
  have HP := hide' (And.intro hp (And.intro hdis (And.intro h1 (And.intro h2 (And.intro h3 (And.intro h4 (And.intro hRt hN)))))))
  have HB0 := hide' hB0
  have hil' : (i : Int) < (G.length : Int) := by omega
  have HLn := hide' hLn
  clear h0 bel hM hR hdis hU h1 h2 h3 h4 hW hRt hW0 hb0 hz hB0 hi1 hi2 hp exg eyg hLn
  generalize hLg : G.length = L at *
  have HLg := hide' hLg
  clear hLg hil
  generalize r.cap 4 = cp1 at *
  generalize r.cap 5 = cp2 at *
  go_enter Try.func36, Try.ntmps36
  go_wp2_with fail
  generalize (w.alloc (.cells #[.int .i64 8, .int .i64 wh, .int .i64 nn, .int .i64 v] 52)) = W at *
  generalize hβg : w.heap.size = β at *
  have HBg := hide' hβg
  clear hβg
  go_quiet ((go_at_call 7; exact Calls.quiet_of_same (HPk.out _)))
  have HB1 : Hid (Below β w (W.drewN nq)) := hide' (HB0.out.trans ⟨rfl, rfl, rfl, Nat.le_refl _, fun _ _ => rfl⟩)
  replace s4 : (W.drewN nq).cell? ⟨s, 6, none⟩ = some (.slice (some ⟨xg, 0, none⟩) L cp1) := s4
  replace s5 : (W.drewN nq).cell? ⟨s, 7, none⟩ = some (.slice (some ⟨yg, 0, none⟩) L cp2) := s5
  replace cxg : (W.drewN nq).cell? ⟨xg, i, none⟩ = some (.pointer (some ⟨p.b, 0, none⟩)) := cxg
  replace cyg : (W.drewN nq).cell? ⟨yg, i, none⟩ = some (.pointer (some ⟨p.c, 0, none⟩)) := cyg
  replace q0 : (W.drewN nq).cell? ⟨β, 0, none⟩ = some (.int .i64 8) := q0
  clear q1 HB0 hdz HPk hL0
  generalize W.drewN nq = V1 at *

  have HBd : Hid (Below β w V1.drew) := hide' (HB1.out.trans ⟨rfl, rfl, rfl, Nat.le_refl _, fun _ _ => rfl⟩)
  have BL2 : Hid (∀ (V V' : World), Below β w V → Below V.heap.size V V' → Below β w V') := hide' (fun V V' hb hb' => by
    have hz : β ≤ V.heap.size := by have := hb.size; rw [HBg.out] at this; exact this
    exact hb.trans (hb'.mono hz))
  have CE := hide' (fun (V : World) (hb : Below β w V) => HCell.out V _ _ (HWt.out V hb).2.2.2)
  have CE2 := hide' (fun (V : World) (z : Bool) (hb : Below β w V) => HCell.out _ _ _ ((HWt.out V hb).2.2.2.flag z))
  have HF := hide' (fun (V : World) (hb : Below β w V) => Wn.flagT (HQ.out V hb))
  obtain ⟨jq, hjq⟩ := (HP.out.2.2.2.2.2.2.1.hG i p HP.out.1).2.2
  have HYS := hide' (And.intro hjq (And.intro (HP.out.2.2.2.2.2.2.1.hS jq p.q hjq) (HP.out.2.2.2.2.2.2.1.hG i p HP.out.1)))
  clear hjq
  have HT1 : Hid (∀ V, Below β w V → Calls Try.prog 27 #[.pointer (some ⟨p.b, 0, none⟩)] V fun e V' => e = .returned (.int .i64 (rgat p.q.n p.ad p.go)) ∧ Below β w V') := hide' (fun V hb => by
    obtain ⟨y1, y2, y3, y4⟩ := HWt.out V hb
    refine (at_any (show Gr p.b x p.q.e p.q.f p.q.n p.si (nx p.ad p.go) V from ((y4.fam 4).at_ i (p.b, grc x p.q.e p.q.f p.q.n p.si (nx p.ad p.go)) (by show (G.map _)[i]? = _; rw [List.getElem?_map, HP.out.1]; rfl)).1)).mono fun e V' ⟨h1, k, h2⟩ => ⟨by rw [h1, at_same _ _ _ HYS.out.2.2.1], by rw [h2]; exact hb.trans ⟨rfl, rfl, rfl, Nat.le_refl _, fun _ _ => rfl⟩⟩)
  have HT2 : Hid (∀ V, Below β w V → Calls Try.prog 66 #[.pointer (some ⟨p.c, 0, none⟩)] V fun e V' => e = .returned (.int .i64 (rgat p.q.n p.ad p.go)) ∧ Below β w V') := hide' (fun V hb => by
    obtain ⟨y1, y2, y3, y4⟩ := HWt.out V hb
    refine (rat_any (show RSl p.q.c y p.q.e p.q.f p.q.n V from ((y4.fam 1).at_ jq (p.q.c, slc y p.q.e p.q.f p.q.n) (by show (S.map _)[jq]? = _; rw [List.getElem?_map, HYS.out.1]; rfl)).1) (show RGr p.c p.q.c p.ad p.si p.go V from ((y4.fam 5).at_ i (p.c, rgrc p.q.c p.ad p.si p.go) (by show (G.map _)[i]? = _; rw [List.getElem?_map, HP.out.1]; rfl)).1)).mono fun e V' ⟨h1, k, h2⟩ => ⟨h1, by rw [h2]; exact hb.trans ⟨rfl, rfl, rfl, Nat.le_refl _, fun _ _ => rfl⟩⟩)
  go_wp2_with fail
  generalize rgat p.q.n p.ad p.go = vv at *
  go_region_held3 (fun w' => w'.cell? ⟨s, 6, none⟩ = some (.slice (some ⟨xg, 0, none⟩) L cp1) ∧ w'.cell? ⟨s, 7, none⟩ = some (.slice (some ⟨yg, 0, none⟩) L cp2) ∧ w'.cell? ⟨xg, i, none⟩ = some (.pointer (some ⟨p.b, 0, none⟩)) ∧ w'.cell? ⟨yg, i, none⟩ = some (.pointer (some ⟨p.c, 0, none⟩))) (first | exact ⟨s4, s5, cxg, cyg⟩ | exact k2 | exact k3 | exact CE2.out _ _ B3.out) ((first | (go_at_call 27; refine (HT1.out _ HBd.out).mono ?_; rintro e w2 ⟨rfl, b2⟩; have B2 := hide' b2; have k2 := CE.out _ B2.out; clear b2) | (go_at_call 66; refine (HT2.out _ B2.out).mono ?_; rintro e w3 ⟨rfl, b3⟩; have B3 := hide' b3; have k3 := CE.out _ B3.out; have c8 := (HWt.out _ B3.out).2.2.2.c8; have f8 := (HWt.out _ B3.out).2.2.2.fz 8; clear b3)))
  rename_i hHeld
  clear hHeld
  have FF := hide' (HF.out w3 B3.out)
  clear HT1 HT2 HQ HWt HP HB1 HBd cxg cyg s4 s5 k2 k3 B2 B3 BL2 CE CE2 HF HCell q0 c8 f8
  go_wp2
  go_end0
  exact ⟨rfl, by first | exact FF.out | simpa using FF.out⟩
set_option maxRecDepth 100000 in
set_option maxHeartbeats 4000000 in
theorem gr_ready (wh nn v : Int) (h : Wn w0 Ln s x y N w) (hN : N < 1999990) (hLn : Ln ≤ 60) :
    Calls Try.prog 36 #[.pointer (some ⟨s, 0, none⟩), .agg #[.int .i64 7, .int .i64 wh, .int .i64 nn, .int .i64 v]] w fun e w' => e = .returned (.tuple #[]) ∧ Wn w0 Ln s x y (N + 1) w' := by
  have h0 := h
  obtain ⟨bel, U, ws, tr, bad, S, X, G, r, hP, h1, h2, h3, h4, hW, hRt⟩ := h
  obtain ⟨D, R, hM, hR, hdis, hU⟩ := hP
  have hB0 : Below w.heap.size w (w.alloc (.cells #[.int .i64 7, .int .i64 wh, .int .i64 nn, .int .i64 v] 52)) := (Below.refl _ _).alloc (Nat.le_refl _) _
  have hW0 := hW.below hB0
  have hb0 := heap_alloc_new w (.cells #[.int .i64 7, .int .i64 wh, .int .i64 nn, .int .i64 v] 52)
  have q0 : (w.alloc (.cells #[.int .i64 7, .int .i64 wh, .int .i64 nn, .int .i64 v] 52)).cell? ⟨w.heap.size, 0, none⟩ = some (.int .i64 7) := by rw [Lib.cell_of_heap hb0]; rfl
  have q1 : (w.alloc (.cells #[.int .i64 7, .int .i64 wh, .int .i64 nn, .int .i64 v] 52)).cell? ⟨w.heap.size, 1, none⟩ = some (.int .i64 wh) := by rw [Lib.cell_of_heap hb0]; rfl
  have s4 := hW0.c6
  have s5 := hW0.c7
  rw [show r.L 4 = G.length from h4.2.2.2.2.1] at s4
  rw [show r.L 5 = G.length from h4.2.2.2.2.2] at s5
  have HQ : Hid (∀ V', Below w.heap.size w V' → Wn w0 Ln s x y (N + 1) V') := hide' (fun V' hb => h0.quiet hb)
  by_cases hz : G.length = 0
  · have F := hide' (HQ.out _ hB0)
    rw [hz] at s4
    clear h0 bel hM hR hdis hU h1 h2 h3 h4 hW hRt hW0 hb0 HQ hz hB0 s5
    go_enter Try.func36, Try.ntmps36
    go_wp2
    refine bodyPost_ret (results_none rfl _ _ _) rfl ?_
    exact ⟨rfl, F.out⟩
  have hL0 : (0 : Int) < (G.length : Int) := by omega
  have hi1 := Int.emod_nonneg wh (b := (G.length : Int)) (by omega)
  have hi2 := Int.emod_lt_of_pos wh (b := (G.length : Int)) hL0
  have HPk := hide' (fun V => pick_big wh (G.length : Int) V hL0 (by omega))
  generalize wh % (G.length : Int) = zi at *
  obtain ⟨i, rfl⟩ : ∃ i : Nat, zi = (i : Int) := ⟨zi.toNat, by omega⟩
  have hil : i < G.length := by omega
  obtain ⟨p, hp⟩ : ∃ p, G[i]? = some p := ⟨_, List.getElem?_eq_getElem hil⟩
  obtain ⟨xg, exg, cxg⟩ := ptr_cell (i := i) (b := p.b) (hW0.row 4) (by show (G.map Gp.b)[i]? = _; rw [List.getElem?_map, hp]; rfl)
  obtain ⟨yg, eyg, cyg⟩ := ptr_cell (i := i) (b := p.c) (hW0.row 5) (by show (G.map Gp.c)[i]? = _; rw [List.getElem?_map, hp]; rfl)
  rw [exg] at s4
  rw [eyg] at s5
  have hdz : ((G.length : Int) == 0) = false := by rw [beq_eq_false_iff_ne]; omega
  have HCell : Hid (∀ V' fm ok, Ws w0.heap.size s x y r (rsOf S X G) fm ok V' → V'.cell? ⟨s, 6, none⟩ = some (.slice (some ⟨xg, 0, none⟩) G.length (r.cap 4)) ∧ V'.cell? ⟨s, 7, none⟩ = some (.slice (some ⟨yg, 0, none⟩) G.length (r.cap 5)) ∧ V'.cell? ⟨xg, i, none⟩ = some (.pointer (some ⟨p.b, 0, none⟩)) ∧ V'.cell? ⟨yg, i, none⟩ = some (.pointer (some ⟨p.c, 0, none⟩))) := hide' (fun V' fm ok hx => by
    have z1 := hx.c6
    have z2 := hx.c7
    rw [show r.L 4 = G.length from h4.2.2.2.2.1, exg] at z1
    rw [show r.L 5 = G.length from h4.2.2.2.2.2, eyg] at z2
    obtain ⟨g1, e1, z3⟩ := ptr_cell (i := i) (b := p.b) (hx.row 4) (by show (G.map Gp.b)[i]? = _; rw [List.getElem?_map, hp]; rfl)
    obtain ⟨g2, e2, z4⟩ := ptr_cell (i := i) (b := p.c) (hx.row 5) (by show (G.map Gp.c)[i]? = _; rw [List.getElem?_map, hp]; rfl)
    rw [exg] at e1
    rw [eyg] at e2
    cases e1
    cases e2
    exact ⟨z1, z2, z3, z4⟩)
  have HWt : Hid (∀ V', Below w.heap.size w V' → Below w0.heap.size w0 V' ∧ Mem D w0.heap.size x ws tr bad V' ∧ Rem R w0.heap.size y ws N tr bad V' ∧ Ws w0.heap.size s x y r (rsOf S X G) (fmOf x y S X G) true V') := hide' (fun V' hb => ⟨bel.trans (hb.mono bel.size), hM.below hb, hR.below hb, hW.below hb⟩)
  have HP := hide' (And.intro hp (And.intro hdis (And.intro h1 (And.intro h2 (And.intro h3 (And.intro h4 (And.intro hRt hN)))))))
  have HB0 := hide' hB0
  have hil' : (i : Int) < (G.length : Int) := by omega
  have HLn := hide' hLn
  clear h0 bel hM hR hdis hU h1 h2 h3 h4 hW hRt hW0 hb0 hz hB0 hi1 hi2 hp exg eyg hLn
  generalize hLg : G.length = L at *
  have HLg := hide' hLg
  clear hLg hil
  generalize r.cap 4 = cp1 at *
  generalize r.cap 5 = cp2 at *
  go_enter Try.func36, Try.ntmps36
  go_wp2_with fail
  generalize (w.alloc (.cells #[.int .i64 7, .int .i64 wh, .int .i64 nn, .int .i64 v] 52)) = W at *
  generalize hβg : w.heap.size = β at *
  have HBg := hide' hβg
  clear hβg
  go_quiet ((go_at_call 7; exact Calls.quiet_of_same (HPk.out _)))
  have HB1 : Hid (Below β w (W.drewN nq)) := hide' (HB0.out.trans ⟨rfl, rfl, rfl, Nat.le_refl _, fun _ _ => rfl⟩)
  replace s4 : (W.drewN nq).cell? ⟨s, 6, none⟩ = some (.slice (some ⟨xg, 0, none⟩) L cp1) := s4
  replace s5 : (W.drewN nq).cell? ⟨s, 7, none⟩ = some (.slice (some ⟨yg, 0, none⟩) L cp2) := s5
  replace cxg : (W.drewN nq).cell? ⟨xg, i, none⟩ = some (.pointer (some ⟨p.b, 0, none⟩)) := cxg
  replace cyg : (W.drewN nq).cell? ⟨yg, i, none⟩ = some (.pointer (some ⟨p.c, 0, none⟩)) := cyg
  replace q0 : (W.drewN nq).cell? ⟨β, 0, none⟩ = some (.int .i64 7) := q0
  clear q1 HB0 hdz HPk hL0
  generalize W.drewN nq = V1 at *

  have HBd : Hid (Below β w V1.drew) := hide' (HB1.out.trans ⟨rfl, rfl, rfl, Nat.le_refl _, fun _ _ => rfl⟩)
  have BL2 : Hid (∀ (V V' : World), Below β w V → Below V.heap.size V V' → Below β w V') := hide' (fun V V' hb hb' => by
    have hz : β ≤ V.heap.size := by have := hb.size; rw [HBg.out] at this; exact this
    exact hb.trans (hb'.mono hz))
  have CE := hide' (fun (V : World) (hb : Below β w V) => HCell.out V _ _ (HWt.out V hb).2.2.2)
  have CE2 := hide' (fun (V : World) (z : Bool) (hb : Below β w V) => HCell.out _ _ _ ((HWt.out V hb).2.2.2.flag z))
  have HF := hide' (fun (V : World) (hb : Below β w V) => Wn.flagT (HQ.out V hb))
  obtain ⟨jq, hjq⟩ := (HP.out.2.2.2.2.2.2.1.hG i p HP.out.1).2.2
  have HYS := hide' (And.intro hjq (And.intro (HP.out.2.2.2.2.2.2.1.hS jq p.q hjq) (HP.out.2.2.2.2.2.2.1.hG i p HP.out.1)))
  clear hjq
  have HT1 : Hid (∀ V, Below β w V → Calls Try.prog 28 #[.pointer (some ⟨p.b, 0, none⟩)] V fun e V' => e = .returned (.bool (rdB ws p.q.f p.q.n p.ad p.si p.go)) ∧ Below β w V') := hide' (fun V hb => by
    obtain ⟨y1, y2, y3, y4⟩ := HWt.out V hb
    refine (pready y2 (show Gr p.b x p.q.e p.q.f p.q.n p.si (nx p.ad p.go) V from ((y4.fam 4).at_ i (p.b, grc x p.q.e p.q.f p.q.n p.si (nx p.ad p.go)) (by show (G.map _)[i]? = _; rw [List.getElem?_map, HP.out.1]; rfl)).1) (by have := HYS.out.2.1.2.2; have := HP.out.2.2.1; omega)).mono fun e V' ⟨h1, h2⟩ => ⟨h1, BL2.out V V' hb h2⟩)
  have HT2 : Hid (∀ V, Below β w V → Calls Try.prog 65 #[.pointer (some ⟨p.c, 0, none⟩)] V fun e V' => e = .returned (.bool (rdB ws p.q.f p.q.n p.ad p.si p.go)) ∧ Below β w V') := hide' (fun V hb => by
    obtain ⟨y1, y2, y3, y4⟩ := HWt.out V hb
    refine (rready y3 (show RSl p.q.c y p.q.e p.q.f p.q.n V from ((y4.fam 1).at_ jq (p.q.c, slc y p.q.e p.q.f p.q.n) (by show (S.map _)[jq]? = _; rw [List.getElem?_map, HYS.out.1]; rfl)).1) (show RGr p.c p.q.c p.ad p.si p.go V from ((y4.fam 5).at_ i (p.c, rgrc p.q.c p.ad p.si p.go) (by show (G.map _)[i]? = _; rw [List.getElem?_map, HP.out.1]; rfl)).1) (by have := HYS.out.2.1.2.2; have := HP.out.2.2.1; omega) HYS.out.2.2.1 (by have := HP.out; omega)).mono fun e V' ⟨h1, h2⟩ => ⟨h1, BL2.out V V' hb h2⟩)
  go_wp2_with fail
  generalize rdB ws p.q.f p.q.n p.ad p.si p.go = vv at *
  go_region_held3 (fun w' => w'.cell? ⟨s, 6, none⟩ = some (.slice (some ⟨xg, 0, none⟩) L cp1) ∧ w'.cell? ⟨s, 7, none⟩ = some (.slice (some ⟨yg, 0, none⟩) L cp2) ∧ w'.cell? ⟨xg, i, none⟩ = some (.pointer (some ⟨p.b, 0, none⟩)) ∧ w'.cell? ⟨yg, i, none⟩ = some (.pointer (some ⟨p.c, 0, none⟩))) (first | exact ⟨s4, s5, cxg, cyg⟩ | exact k2 | exact k3 | exact CE2.out _ _ B3.out) ((first | (go_at_call 28; refine (HT1.out _ HBd.out).mono ?_; rintro e w2 ⟨rfl, b2⟩; have B2 := hide' b2; have k2 := CE.out _ B2.out; clear b2) | (go_at_call 65; refine (HT2.out _ B2.out).mono ?_; rintro e w3 ⟨rfl, b3⟩; have B3 := hide' b3; have k3 := CE.out _ B3.out; have c8 := (HWt.out _ B3.out).2.2.2.c8; have f8 := (HWt.out _ B3.out).2.2.2.fz 8; clear b3)))
  rename_i hHeld
  clear hHeld
  have FF := hide' (HF.out w3 B3.out)
  clear HT1 HT2 HQ HWt HP HB1 HBd cxg cyg s4 s5 k2 k3 B2 B3 BL2 CE CE2 HF HCell q0 c8 f8
  go_wp2
  go_end0
  exact ⟨rfl, by first | exact FF.out | simpa using FF.out⟩
end V
end Go.Proofs.Ytmlhlmiigdddlaa
