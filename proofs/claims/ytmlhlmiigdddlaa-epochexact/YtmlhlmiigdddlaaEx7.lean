import Derived.Test.YtmlhlmiigdddlaaEx6
import Derived.Deep.RegionLaw
set_option linter.unusedVariables false
set_option linter.unusedSimpArgs false
namespace Go.Proofs.Ytmlhlmiigdddlaa
open Go.RowKit
namespace V
open M F
variable {w0 w w' : World} {Ln s x y N : Nat} {D R U : Nat → Prop} {ws ws' : List Int} {tr tr' : List Ac} {bad bad' : Nat} {S : List Sp} {X : List Xp} {G : List Gp} {r : Ro}
/-- Wait is through -/
theorem wait_fin {bG gg cap' gg2 cap2 i : Nat} {p : Sp} {V3 V4 w4 w6 : World} {o1 : Obj} (bel : Below w0.heap.size w0 V3) (hP : Pr U w0.heap.size x y ws N tr bad V3) (hW : Ws w0.heap.size s x y r (rsOf S X G) (fmOf x y S X G) true V3) (hG : Gr bG x p.e p.f p.n 0 (-1) V3) (hbG : w0.heap.size ≤ bG) (hnG : ∀ (i : Nat) (q : Ob), (fmOf x y S X G 4)[i]? = some q → q.1 ≠ bG)
    (hr4 : w4.ownsRow w0.heap.size 71 1 (.slice (some ⟨gg, 0, none⟩) (r.L 4 + 1) cap') (r.L 4 + 1) ((rsOf S X G 4).map ptr ++ [ptr bG])) (t4 : Turn (At (r.ao 4)) V3 w4) (hV4 : V4 = w4.setCell ⟨s, 6, none⟩ (.slice (some ⟨gg, 0, none⟩) (r.L 4 + 1) cap'))
    (hown : w6.ownsRow w0.heap.size 119 1 (.slice (some ⟨gg2, 0, none⟩) (r.L 5 + 1) cap2) (r.L 5 + 1) ((rsOf S X G 5).map ptr ++ [ptr V4.heap.size])) (hgrow : ((V4.alloc (.cells (rgrc p.c false 0 0) 131)).alloc o1).drew.grownBy w6 (Value.slice (r.ao 5) (r.L 5) (r.cap 5)).ownBlock)
    (h1 : ws.length = Ln) (h2 : tr.length ≤ N) (h3 : S.length ≤ N ∧ X.length ≤ N ∧ G.length ≤ N) (h4 : r.L 0 = S.length ∧ r.L 1 = S.length ∧ r.L 2 = X.length ∧ r.L 3 = X.length ∧ r.L 4 = G.length ∧ r.L 5 = G.length) (hRt : Rt Ln S X G N) (hp : S[i]? = some p) :
    Wn w0 Ln s x y (N + 1) (w6.setCell ⟨s, 7, none⟩ (.slice (some ⟨gg2, 0, none⟩) (r.L 5 + 1) cap2)) := by
  obtain ⟨bel4, P4, W4, K4⟩ := grow1 4 bel hP hW hG hbG hnG hr4 t4
  rw [show (w4.setCell ⟨s, 2 + (4 : Fin 6).1, none⟩ (.slice (some ⟨gg, 0, none⟩) (r.L 4 + 1) cap')) = V4 from hV4.symm] at bel4 P4 W4 K4
  have B5 : Below V4.heap.size V4 ((V4.alloc (.cells (rgrc p.c false 0 0) 131)).alloc o1).drew := (((Below.refl _ _).alloc (Nat.le_refl _) _).alloc (by simp) _).drew
  have hH : RGr V4.heap.size p.c false 0 0 ((V4.alloc (.cells (rgrc p.c false 0 0) 131)).alloc o1).drew := (Below.heap_alloc _ _ _ (by simp)).trans (rwait_gr p.c V4)
  have t6 : Turn (At (r.ao 5)) ((V4.alloc (.cells (rgrc p.c false 0 0) 131)).alloc o1).drew w6 := (Turn.refl _ _).grown hgrow (fun j hj _ => own_at hj)
  obtain ⟨bel6, P6, W6, _⟩ := grow1 5 (bel4.trans (B5.mono bel4.size)) (P4.below B5) (W4.below B5) hH bel4.size (fresh W4 5 (Nat.le_refl _)) hown t6
  refine ⟨bel6, U, ws, tr, bad, S, X, G ++ [⟨bG, V4.heap.size, p, false, 0, 0⟩], _, pr_more P6, h1, by omega, by rw [List.length_append]; simp; omega, ?_, W6.congr (fun k => ?_) (fun k => ?_), ?_⟩
  · rw [List.length_append]
    obtain ⟨e0, e1, e2, e3, e4, e5⟩ := h4
    exact ⟨e0, e1, e2, e3, by show r.L 4 + 1 = _; rw [e4]; rfl, by show r.L 5 + 1 = _; rw [e5]; rfl⟩
  · rcases fin6 k with rfl | rfl | rfl | rfl | rfl | rfl
    · rfl
    · rfl
    · rfl
    · rfl
    · show G.map Gp.b ++ [bG] = (G ++ [_]).map Gp.b; rw [List.map_append]; rfl
    · show G.map Gp.c ++ [V4.heap.size] = (G ++ [_]).map Gp.c; rw [List.map_append]; rfl
  · rcases fin6 k with rfl | rfl | rfl | rfl | rfl | rfl
    · rfl
    · rfl
    · rfl
    · rfl
    · show G.map _ ++ [_] = (G ++ [_]).map _; rw [List.map_append]; rfl
    · show G.map _ ++ [_] = (G ++ [_]).map _; rw [List.map_append]; rfl
  · refine ⟨hRt.hS, hRt.more.hX, fun j u hu => ?_⟩
    rcases add_getO j u hu with ⟨_, rfl⟩ | ⟨_, hu'⟩
    · exact ⟨Nat.zero_le _, fun _ => rfl, i, hp⟩
    · exact hRt.hG j u hu'
set_option maxRecDepth 100000 in
set_option maxHeartbeats 4000000 in
theorem sl_wait (wh nn v : Int) (h : Wn w0 Ln s x y N w) (hN : N < 1999990) (hLn : Ln ≤ 60) :
    Calls Try.prog 34 #[.pointer (some ⟨s, 0, none⟩), .agg #[.int .i64 5, .int .i64 wh, .int .i64 nn, .int .i64 v]] w fun e w' => e = .returned (.tuple #[]) ∧ Wn w0 Ln s x y (N + 1) w' := by
  have h0 := h
  obtain ⟨bel, U, ws, tr, bad, S, X, G, r, hP, h1, h2, h3, h4, hW, hRt⟩ := h
  obtain ⟨D, R, hM, hR, hdis, hU⟩ := hP
  have hB0 : Below w.heap.size w (w.alloc (.cells #[.int .i64 5, .int .i64 wh, .int .i64 nn, .int .i64 v] 52)) := (Below.refl _ _).alloc (Nat.le_refl _) _
  have hW0 := hW.below hB0
  have hb0 := heap_alloc_new w (.cells #[.int .i64 5, .int .i64 wh, .int .i64 nn, .int .i64 v] 52)
  have q0 : (w.alloc (.cells #[.int .i64 5, .int .i64 wh, .int .i64 nn, .int .i64 v] 52)).cell? ⟨w.heap.size, 0, none⟩ = some (.int .i64 5) := by rw [Lib.cell_of_heap hb0]; rfl
  have q1 : (w.alloc (.cells #[.int .i64 5, .int .i64 wh, .int .i64 nn, .int .i64 v] 52)).cell? ⟨w.heap.size, 1, none⟩ = some (.int .i64 wh) := by rw [Lib.cell_of_heap hb0]; rfl
  have q2 : (w.alloc (.cells #[.int .i64 5, .int .i64 wh, .int .i64 nn, .int .i64 v] 52)).cell? ⟨w.heap.size, 2, none⟩ = some (.int .i64 nn) := by rw [Lib.cell_of_heap hb0]; rfl
  have hbx : Bs w.heap.size 5 wh nn v (w.alloc (.cells #[.int .i64 5, .int .i64 wh, .int .i64 nn, .int .i64 v] 52)) := hb0
  have s4 := hW0.c2
  have s5 := hW0.c3
  rw [show r.L 0 = S.length from h4.1] at s4
  rw [show r.L 1 = S.length from h4.2.1] at s5
  have HQ : Hid (∀ V', Below w.heap.size w V' → Wn w0 Ln s x y (N + 1) V') := hide' (fun V' hb => h0.quiet hb)
  by_cases hz : S.length = 0
  · have F := hide' (HQ.out _ hB0)
    rw [hz] at s4
    clear h0 bel hM hR hdis hU h1 h2 h3 h4 hW hRt hW0 hb0 HQ hz hB0 s5 q2 hbx 
    go_enter Try.func34, Try.ntmps34
    go_wp2
    refine bodyPost_ret (results_none rfl _ _ _) rfl ?_
    exact ⟨rfl, F.out⟩
  have hL0 : (0 : Int) < (S.length : Int) := by omega
  have hi1 := Int.emod_nonneg wh (b := (S.length : Int)) (by omega)
  have hi2 := Int.emod_lt_of_pos wh (b := (S.length : Int)) hL0
  have HPk := hide' (fun V => pick_big wh (S.length : Int) V hL0 (by omega))
  generalize wh % (S.length : Int) = zi at *
  obtain ⟨i, rfl⟩ : ∃ i : Nat, zi = (i : Int) := ⟨zi.toNat, by omega⟩
  have hil : i < S.length := by omega
  obtain ⟨p, hp⟩ : ∃ p, S[i]? = some p := ⟨_, List.getElem?_eq_getElem hil⟩
  obtain ⟨xg, exg, cxg⟩ := ptr_cell (i := i) (b := p.b) (hW0.row 0) (by show (S.map Sp.b)[i]? = _; rw [List.getElem?_map, hp]; rfl)
  obtain ⟨yg, eyg, cyg⟩ := ptr_cell (i := i) (b := p.c) (hW0.row 1) (by show (S.map Sp.c)[i]? = _; rw [List.getElem?_map, hp]; rfl)
  rw [exg] at s4
  rw [eyg] at s5
  have hdz : ((S.length : Int) == 0) = false := by rw [beq_eq_false_iff_ne]; omega
  have HCell : Hid (∀ V' fm ok, Ws w0.heap.size s x y r (rsOf S X G) fm ok V' → V'.cell? ⟨s, 2, none⟩ = some (.slice (some ⟨xg, 0, none⟩) S.length (r.cap 0)) ∧ V'.cell? ⟨s, 3, none⟩ = some (.slice (some ⟨yg, 0, none⟩) S.length (r.cap 1)) ∧ V'.cell? ⟨xg, i, none⟩ = some (.pointer (some ⟨p.b, 0, none⟩)) ∧ V'.cell? ⟨yg, i, none⟩ = some (.pointer (some ⟨p.c, 0, none⟩))) := hide' (fun V' fm ok hx => by
    have z1 := hx.c2
    have z2 := hx.c3
    rw [show r.L 0 = S.length from h4.1, exg] at z1
    rw [show r.L 1 = S.length from h4.2.1, eyg] at z2
    obtain ⟨g1, e1, z3⟩ := ptr_cell (i := i) (b := p.b) (hx.row 0) (by show (S.map Sp.b)[i]? = _; rw [List.getElem?_map, hp]; rfl)
    obtain ⟨g2, e2, z4⟩ := ptr_cell (i := i) (b := p.c) (hx.row 1) (by show (S.map Sp.c)[i]? = _; rw [List.getElem?_map, hp]; rfl)
    rw [exg] at e1
    rw [eyg] at e2
    cases e1
    cases e2
    exact ⟨z1, z2, z3, z4⟩)
  have HWt : Hid (∀ V', Below w.heap.size w V' → Below w0.heap.size w0 V' ∧ Mem D w0.heap.size x ws tr bad V' ∧ Rem R w0.heap.size y ws N tr bad V' ∧ Ws w0.heap.size s x y r (rsOf S X G) (fmOf x y S X G) true V') := hide' (fun V' hb => ⟨bel.trans (hb.mono bel.size), hM.below hb, hR.below hb, hW.below hb⟩)
  have HP := hide' (And.intro hp (And.intro hdis (And.intro h1 (And.intro h2 (And.intro h3 (And.intro h4 (And.intro hRt hN)))))))
  have HB0 := hide' hB0
  have HBx0 := hide' hbx
  clear hbx
  have hil' : (i : Int) < (S.length : Int) := by omega
  have HLn := hide' hLn
  clear h0 bel hM hR hdis hU h1 h2 h3 h4 hW hRt hW0 hb0 hz hB0 hi1 hi2 hp exg eyg hLn
  generalize hLg : S.length = L at *
  have HLg := hide' hLg
  clear hLg hil
  generalize r.cap 0 = cp1 at *
  generalize r.cap 1 = cp2 at *
  go_enter Try.func34, Try.ntmps34
  go_wp2_with fail
  generalize (w.alloc (.cells #[.int .i64 5, .int .i64 wh, .int .i64 nn, .int .i64 v] 52)) = W at *
  generalize hβg : w.heap.size = β at *
  have HBg := hide' hβg
  clear hβg
  go_quiet ((go_at_call 7; exact Calls.quiet_of_same (HPk.out _)))
  have HB1 : Hid (Below β w (W.drewN nq)) := hide' (HB0.out.trans ⟨rfl, rfl, rfl, Nat.le_refl _, fun _ _ => rfl⟩)
  replace s4 : (W.drewN nq).cell? ⟨s, 2, none⟩ = some (.slice (some ⟨xg, 0, none⟩) L cp1) := s4
  replace s5 : (W.drewN nq).cell? ⟨s, 3, none⟩ = some (.slice (some ⟨yg, 0, none⟩) L cp2) := s5
  replace cxg : (W.drewN nq).cell? ⟨xg, i, none⟩ = some (.pointer (some ⟨p.b, 0, none⟩)) := cxg
  replace cyg : (W.drewN nq).cell? ⟨yg, i, none⟩ = some (.pointer (some ⟨p.c, 0, none⟩)) := cyg
  replace q2 : (W.drewN nq).cell? ⟨β, 2, none⟩ = some (.int .i64 nn) := q2
  have HBx : Hid (Bs β 5 wh nn v (W.drewN nq)) := HBx0
  clear HBx0
  replace q0 : (W.drewN nq).cell? ⟨β, 0, none⟩ = some (.int .i64 5) := q0
  clear q1 HB0 hdz HPk hL0
  generalize W.drewN nq = V1 at *

  have HS := hide' (HWt.out V1 HB1.out)
  have HRS := hide' (HP.out.2.2.2.2.2.2.1.hS i p HP.out.1)
  have hSl : Hid (∀ V' ok, Ws w0.heap.size s x y r (rsOf S X G) (fmOf x y S X G) ok V' → Sl p.b x p.e p.f p.n V' ∧ RSl p.c y p.e p.f p.n V') := hide' (fun V' ok hx => hx.sl HP.out.1)

  have BL : Hid (∀ (V V' : World), Below β w V → Below V.heap.size V V' → Below β w V') := hide' (fun V V' hb hb' => by
    have hq : β ≤ V.heap.size := by have := hb.size; rw [HBg.out] at this; exact this
    exact hb.trans (hb'.mono hq))
  have HC : Hid (Calls Try.prog 23 #[.pointer (some ⟨p.b, 0, none⟩)] V1 fun e V' => e = .returned (.pointer (some ⟨V1.heap.size, 0, none⟩)) ∧ Below V1.heap.size V1 V' ∧ Gr V1.heap.size x p.e p.f p.n 0 (-1) V') := hide' ((wait_any (hSl.out V1 true HS.out.2.2.2).1).mono fun e V' ⟨h1, h2⟩ => ⟨h1, by rw [h2]; exact (Below.refl _ _).alloc (Nat.le_refl _) _, by rw [h2]; exact wait_gr x p.e p.f p.n V1⟩)
  obtain ⟨bG, hbG⟩ : ∃ bG, V1.heap.size = bG := ⟨_, rfl⟩
  have HbG := hide' hbG
  rw [hbG] at HC
  go_wp2_with fail
  refine HC.out.mono ?_
  rintro e1 V2 ⟨rfl, b2, hg2⟩
  have b2' : Below V1.heap.size V1 V2 := by rw [HbG.out]; exact b2
  have hb2 := BL.out V1 V2 HB1.out b2'
  obtain ⟨bl2, m2, r2, W2⟩ := HWt.out V2 hb2
  have c8 := W2.c8
  have f8 := W2.fz 8
  have P2 : Pr (fun j => D j ∨ R j) w0.heap.size x y ws N tr bad V2 := ⟨D, R, m2, r2, HP.out.2.1, fun j => Iff.rfl⟩
  have HV3 : Hid (∀ V3, V3 = V2.setCell ⟨s, 8, none⟩ (.bool true) → Below w0.heap.size w0 V3 ∧ Pr (fun j => D j ∨ R j) w0.heap.size x y ws N tr bad V3 ∧ Ws w0.heap.size s x y r (rsOf S X G) (fmOf x y S X G) true V3 ∧ Gr bG x p.e p.f p.n 0 (-1) V3) := hide' (fun V3 h3 => by
    subst h3
    exact ⟨bel_flag bl2 W2.ls _ 8, Pr.flagged P2 W2 true, W2.flag true, hg2.kept (turn_b s 8 _ V2) (fun e => cells_ne hg2 W2.hs (by decide) e)⟩)
  have HNX : Hid (w0.heap.size ≤ bG ∧ (∀ (i : Nat) (q : Ob), (fmOf x y S X G 4)[i]? = some q → q.1 ≠ bG)) := hide' (by
    have z1 := HS.out.1.size
    rw [HbG.out] at z1
    exact ⟨z1, fresh HS.out.2.2.2 4 (by rw [HbG.out]; exact Nat.le_refl _)⟩)
  clear HC s4 s5 cxg cyg q0 q2 b2 b2' hb2 bl2 m2 r2 W2 P2 hg2 HQ HWt HB1 HBx HS hSl BL hbG
  go_upto_region 17 with fail
  clear c8 f8
  obtain ⟨V3, hV3⟩ : ∃ V3, V3 = V2.setCell ⟨s, 8, none⟩ (.bool true) := ⟨_, rfl⟩
  have HX3 := hide' (HV3.out V3 hV3)
  rw [← hV3]
  clear hV3 HV3
  have c6 := HX3.out.2.2.1.c6
  have HRw : Hid (V3.ownsRow w0.heap.size 71 1 (.slice (r.ao 4) (r.L 4) (r.cap 4)) (r.L 4) ((rsOf S X G 4).map ptr)) := hide' (HX3.out.2.2.1.row 4)
  have HB9 := hide' (HX3.out.1.size)
  have HLX := hide' (show r.L 4 < 3000000000000 by have := HP.out.2.2.2.2.2.1.2.2.2.2.1; have := HP.out.2.2.2.2.1; have := HP.out; omega)
  have HLY := hide' (show r.L 5 < 2000000 by have := HP.out.2.2.2.2.2.1.2.2.2.2.2; have := HP.out.2.2.2.2.1; have := HP.out; omega)
  have nws : Hid (¬ At (r.ao 4) s) := hide' (fun q => by obtain ⟨_, _, cs', h'⟩ := row_atk (HX3.out.2.2.1.row 4) q; exact cells_ne HX3.out.2.2.1.hs h' (by decide) rfl)
  go_upto_region 18 with (at_builtin; refine wpList_more (e := 71) (m := 1) Try.underlying41 info71 rfl (by decide) (by decide) V3 rfl _ _ rfl HRw.out HLX.out HB9.out [.pointer (some ⟨bG, 0, none⟩)] rfl (by simp [Value.oneCell']) _ rfl rfl ?_; intro gg cap' w4 hr4 t4 hg4; have a0 := (t4.cell (p := ⟨s, 6, none⟩) (lt_of_heap HX3.out.2.2.1.hs) nws.out).trans c6; have a1 : w4.frozen? ⟨s, 6, none⟩ = false := Lib.frozen_of_heap ((t4.block s (lt_of_heap HX3.out.2.2.1.hs) nws.out).trans HX3.out.2.2.1.hs) 6)
  obtain ⟨V4, hV4⟩ : ∃ V4, V4 = w4.setCell ⟨s, 6, none⟩ (.slice (some ⟨gg, 0, none⟩) (r.L 4 + 1) cap') := ⟨_, rfl⟩
  have G4 := grow1 4 HX3.out.1 HX3.out.2.1 HX3.out.2.2.1 HX3.out.2.2.2 HNX.out.1 HNX.out.2 hr4 t4
  have W4 : Ws w0.heap.size s x y (r.more 4 gg cap') (upd (rsOf S X G) 4 (rsOf S X G 4 ++ [bG])) (upd (fmOf x y S X G) 4 (fmOf x y S X G 4 ++ [(bG, grc x p.e p.f p.n 0 (-1))])) true V4 := by rw [hV4]; exact G4.2.2.1
  have bl4 : Below w0.heap.size w0 V4 := by rw [hV4]; exact G4.1
  rw [← hV4]
  have s7 : V4.cell? ⟨s, 7, none⟩ = some (.slice (r.ao 5) (r.L 5) (r.cap 5)) := W4.c7
  have f7 : V4.frozen? ⟨s, 7, none⟩ = false := W4.fz 7
  have s3 : V4.cell? ⟨s, 3, none⟩ = some (.slice (some ⟨yg, 0, none⟩) L cp2) := by
    have z1 := W4.c3
    obtain ⟨q1, q2, q3, q4⟩ := HCell.out V3 _ _ HX3.out.2.2.1
    have z2 := HX3.out.2.2.1.c3
    rw [q2] at z2
    rw [z2]
    exact z1
  have cy : V4.cell? ⟨yg, i, none⟩ = some (.pointer (some ⟨p.c, 0, none⟩)) := by
    obtain ⟨q1, q2, q3, q4⟩ := HCell.out V3 _ _ HX3.out.2.2.1
    have z2 := HX3.out.2.2.1.c3
    rw [q2] at z2
    obtain ⟨g1, e1, z3⟩ := ptr_cell (i := i) (b := p.c) (W4.row 1) (by show (S.map Sp.c)[i]? = _; rw [List.getElem?_map, HP.out.1]; rfl)
    have e2 : r.ao 1 = some ⟨g1, 0, none⟩ := e1
    rw [e2] at z2
    cases z2
    exact z3
  have row : V4.ownsRow w0.heap.size 119 1 (.slice (r.ao 5) (r.L 5) (r.cap 5)) (r.L 5) ((rsOf S X G 5).map ptr) := W4.row 5
  have lts : s < V4.heap.size := lt_of_heap W4.hs
  have hwB : w0.heap.size ≤ V4.heap.size := bl4.size
  obtain ⟨i0, hi1, hz0, hz1, hz2⟩ := info_parts info119
  have n1 : Hid (r.L 5 + 1 ≤ maxLen) := hide' (by have := HLY.out; unfold maxLen; omega)
  have n2 : Hid ((r.L 5 + 1) * 8 ≤ 140737488355328) := hide' (by have := HLY.out; omega)
  have ne : some s ≠ (Value.slice (r.ao 5) (r.L 5) (r.cap 5)).ownBlock := fun z => by
    obtain ⟨_, _, cs', h'⟩ := row_at row (own_at z.symm)
    exact cells_ne W4.hs h' (by decide) rfl
  have new7 := World.new_ne V4 ⟨s, 7, none⟩ s7
  have new3 := World.new_ne V4 ⟨s, 3, none⟩ s3
  have newy := World.new_ne V4 ⟨yg, i, none⟩ cy
  have new2 : ∀ o o', ((V4.alloc o).alloc o').drew.heap[V4.heap.size + 1]? = some o' := fun o o' => by show ((V4.alloc o).alloc o').heap[V4.heap.size + 1]? = some o'; have := heap_alloc_new (V4.alloc o) o'; rw [show (V4.alloc o).heap.size = V4.heap.size + 1 by simp] at this; exact this
  have fal : ∀ o o', ((V4.alloc o).alloc o').drew.frozen? ⟨s, 7, none⟩ = false := fun o o' => (World.frozen?_of_block (w := V4) ((Below.heap_alloc _ _ _ (by simp; omega)).trans (Below.heap_alloc _ _ _ lts))).trans f7
  have cal : ∀ o o', ((V4.alloc o).alloc o').drew.cell? ⟨s, 7, none⟩ = some (.slice (r.ao 5) (r.L 5) (r.cap 5)) := fun o o' => (World.cell?_of_block (w := V4) ((Below.heap_alloc _ _ _ (by simp; omega)).trans (Below.heap_alloc _ _ _ lts))).trans s7
  have HQ := hide' (rwait_any p.c V4.drew)
  have H4 := hide' (And.intro hr4 (And.intro t4 hV4))
  clear a0 a1 c6 hr4 t4 hg4 W4 hV4 bl4 G4 HRw HB9 nws
  go_wp2_with fail
  go_region_law ((first | (refine step_append_lies _ (by rfl) _ _ _ (by rfl) w0.heap.size 119 i0 _ 1 8 Try.underlying42 hi1 hz0 hz1 hz2 rfl (by omega) (.slice (r.ao 5) (r.L 5) (r.cap 5)) (r.L 5) ((rsOf S X G 5).map ptr) (by rfl) (((row.alloc _).alloc _).drew) ⟨V4.heap.size + 1, 0, none⟩ 1 1 [.pointer (some ⟨V4.heap.size, 0, none⟩)] (by rfl) (by rfl) (World.news_of_block (cs := #[.pointer (some ⟨V4.heap.size, 0, none⟩)]) (t := 119) (fr := (0, 0)) (new2 _ _)) (by simp [Value.oneCell']) (by omega) n1.out n2.out (by simp; omega) (V4.heap.size + 2) (by simp) ?_; intro gg2 cap2 w6 hown1 hgrow hat hlt; have a0 := (hgrow.cell_far ⟨s, 7, none⟩ (by simp; omega) ne).trans (cal _ _); have a0f := (hgrow.frozen_far ⟨s, 7, none⟩ (by simp; omega) ne).trans (fal _ _)) | (go_simp; refine HQ.out.mono ?_; rintro e2 w5 ⟨rfl, rfl⟩)))
  all_goals
    have FF := hide' (wait_fin HX3.out.1 HX3.out.2.1 HX3.out.2.2.1 HX3.out.2.2.2 HNX.out.1 HNX.out.2 H4.out.1 H4.out.2.1 H4.out.2.2 hown1 hgrow HP.out.2.2.1 HP.out.2.2.2.1 (by rw [HLg.out]; exact HP.out.2.2.2.2.1) (by rw [HLg.out]; exact HP.out.2.2.2.2.2.1) HP.out.2.2.2.2.2.2.1 HP.out.1)
    clear HX3 hown1 hgrow hat hlt a0 a0f s7 s3 cy f7 row lts hwB n1 n2 ne new7 new3 newy new2 fal cal HQ H4
    generalize w6.setCell ⟨s, 7, none⟩ (.slice (some ⟨gg2, 0, none⟩) (r.L 5 + 1) cap2) = W7 at *
    go_wp2
    go_end0
    exact ⟨rfl, FF.out⟩
end V
end Go.Proofs.Ytmlhlmiigdddlaa
