import Derived.Test.YtmlhlmiigdddlaaEx2
import Derived.Test.YtmlhlmiigdddlaaMade
set_option linter.unusedVariables false
set_option linter.unusedSimpArgs false
namespace Go.Proofs.Ytmlhlmiigdddlaa
open Go.RowKit
namespace V
open M F
set_option maxRecDepth 100000 in
set_option maxHeartbeats 1000000 in
theorem pick_big (k n : Int) (w : World) (hn : 0 < n) (hn2 : n ≤ 4000000) : Calls Try.prog 7 #[.int .i64 k, .int .i64 n] w fun e w' => e = .returned (.int .i64 (k % n)) ∧ w' = w := by
  by_cases h : k < 0
  · obtain ⟨t1, t2, t3, t4⟩ := tmod_neg h hn
    by_cases hz : k.tmod n < 0
    · rw [t3 hz]
      clear t3 t4 h
      go_enter Try.func7, Try.ntmps7
      go_wp2
      go_ret
      exact ⟨rfl, rfl⟩
    · have e := t4 (by omega)
      have e2 : k.tmod n = 0 := by omega
      rw [e]
      clear t3 t4 h e
      go_enter Try.func7, Try.ntmps7
      go_wp2
      go_ret
      exact ⟨rfl, rfl⟩
  · have h3 := Int.emod_nonneg k (b := n) (by omega)
    go_enter Try.func7, Try.ntmps7
    go_wp2
    go_ret
    exact ⟨rfl, rfl⟩
variable {w0 w w' : World} {Ln s x y N : Nat}
set_option maxRecDepth 100000 in
set_option maxHeartbeats 4000000 in
theorem se_step (wh nn v : Int) (h : Wn w0 Ln s x y N w) (hN : N < 1999990) (hLn : Ln ≤ 60) :
    Calls Try.prog 35 #[.pointer (some ⟨s, 0, none⟩), .agg #[.int .i64 2, .int .i64 wh, .int .i64 nn, .int .i64 v]] w fun e w' => e = .returned (.tuple #[]) ∧ Wn w0 Ln s x y (N + 1) w' := by
  have h0 := h
  obtain ⟨bel, U, ws, tr, bad, S, X, G, r, hP, h1, h2, h3, h4, hW, hRt⟩ := h
  obtain ⟨D, R, hM, hR, hdis, hU⟩ := hP
  have hB0 : Below w.heap.size w (w.alloc (.cells #[.int .i64 2, .int .i64 wh, .int .i64 nn, .int .i64 v] 52)) := (Below.refl _ _).alloc (Nat.le_refl _) _
  have hW0 := hW.below hB0
  have hb0 := heap_alloc_new w (.cells #[.int .i64 2, .int .i64 wh, .int .i64 nn, .int .i64 v] 52)
  have q0 : (w.alloc (.cells #[.int .i64 2, .int .i64 wh, .int .i64 nn, .int .i64 v] 52)).cell? ⟨w.heap.size, 0, none⟩ = some (.int .i64 2) := by rw [Lib.cell_of_heap hb0]; rfl
  have q1 : (w.alloc (.cells #[.int .i64 2, .int .i64 wh, .int .i64 nn, .int .i64 v] 52)).cell? ⟨w.heap.size, 1, none⟩ = some (.int .i64 wh) := by rw [Lib.cell_of_heap hb0]; rfl
  have s4 := hW0.c4
  have s5 := hW0.c5
  rw [show r.L 2 = X.length from h4.2.2.1] at s4
  rw [show r.L 3 = X.length from h4.2.2.2.1] at s5
  have HQ : Hid (∀ V', Below w.heap.size w V' → Wn w0 Ln s x y (N + 1) V') := hide' (fun V' hb => h0.quiet hb)
  by_cases hz : X.length = 0
  · have F := hide' (HQ.out _ hB0)
    rw [hz] at s4
    clear h0 bel hM hR hdis hU h1 h2 h3 h4 hW hRt hW0 hb0 HQ hz hB0 s5
    go_enter Try.func35, Try.ntmps35
    go_wp2
    refine bodyPost_ret (results_none rfl _ _ _) rfl ?_
    exact ⟨rfl, F.out⟩
  have hL0 : (0 : Int) < (X.length : Int) := by omega
  have hi1 := Int.emod_nonneg wh (b := (X.length : Int)) (by omega)
  have hi2 := Int.emod_lt_of_pos wh (b := (X.length : Int)) hL0
  have HPk := hide' (fun V => pick_big wh (X.length : Int) V hL0 (by omega))
  generalize wh % (X.length : Int) = zi at *
  obtain ⟨i, rfl⟩ : ∃ i : Nat, zi = (i : Int) := ⟨zi.toNat, by omega⟩
  have hil : i < X.length := by omega
  obtain ⟨p, hp⟩ : ∃ p, X[i]? = some p := ⟨_, List.getElem?_eq_getElem hil⟩
  obtain ⟨xg, exg, cxg⟩ := ptr_cell (i := i) (b := p.b) (hW0.row 2) (by show (X.map Xp.b)[i]? = _; rw [List.getElem?_map, hp]; rfl)
  obtain ⟨yg, eyg, cyg⟩ := ptr_cell (i := i) (b := p.c) (hW0.row 3) (by show (X.map Xp.c)[i]? = _; rw [List.getElem?_map, hp]; rfl)
  rw [exg] at s4
  rw [eyg] at s5
  have hdz : ((X.length : Int) == 0) = false := by rw [beq_eq_false_iff_ne]; omega
  have HCell : Hid (∀ V' fm ok, Ws w0.heap.size s x y r (rsOf S X G) fm ok V' → V'.cell? ⟨s, 4, none⟩ = some (.slice (some ⟨xg, 0, none⟩) X.length (r.cap 2)) ∧ V'.cell? ⟨s, 5, none⟩ = some (.slice (some ⟨yg, 0, none⟩) X.length (r.cap 3)) ∧ V'.cell? ⟨xg, i, none⟩ = some (.pointer (some ⟨p.b, 0, none⟩)) ∧ V'.cell? ⟨yg, i, none⟩ = some (.pointer (some ⟨p.c, 0, none⟩))) := hide' (fun V' fm ok hx => by
    have z1 := hx.c4
    have z2 := hx.c5
    rw [show r.L 2 = X.length from h4.2.2.1, exg] at z1
    rw [show r.L 3 = X.length from h4.2.2.2.1, eyg] at z2
    obtain ⟨g1, e1, z3⟩ := ptr_cell (i := i) (b := p.b) (hx.row 2) (by show (X.map Xp.b)[i]? = _; rw [List.getElem?_map, hp]; rfl)
    obtain ⟨g2, e2, z4⟩ := ptr_cell (i := i) (b := p.c) (hx.row 3) (by show (X.map Xp.c)[i]? = _; rw [List.getElem?_map, hp]; rfl)
    rw [exg] at e1
    rw [eyg] at e2
    cases e1
    cases e2
    exact ⟨z1, z2, z3, z4⟩)
  have HWt : Hid (∀ V', Below w.heap.size w V' → Below w0.heap.size w0 V' ∧ Mem D w0.heap.size x ws tr bad V' ∧ Rem R w0.heap.size y ws N tr bad V' ∧ Ws w0.heap.size s x y r (rsOf S X G) (fmOf x y S X G) true V') := hide' (fun V' hb => ⟨bel.trans (hb.mono bel.size), hM.below hb, hR.below hb, hW.below hb⟩)
  have HP := hide' (And.intro hp (And.intro hdis (And.intro h1 (And.intro h2 (And.intro h3 (And.intro h4 (And.intro hRt hN)))))))
  have HB0 := hide' hB0
  have hil' : (i : Int) < (X.length : Int) := by omega
  have HLn := hide' hLn
  clear h0 bel hM hR hdis hU h1 h2 h3 h4 hW hRt hW0 hb0 hz hB0 hi1 hi2 hp exg eyg hLn
  generalize hLg : X.length = L at *
  have HLg := hide' hLg
  clear hLg hil
  generalize r.cap 2 = cp1 at *
  generalize r.cap 3 = cp2 at *
  go_enter Try.func35, Try.ntmps35
  go_wp2_with fail
  generalize (w.alloc (.cells #[.int .i64 2, .int .i64 wh, .int .i64 nn, .int .i64 v] 52)) = W at *
  generalize hβg : w.heap.size = β at *
  have HBg := hide' hβg
  clear hβg
  go_quiet ((go_at_call 7; exact Calls.quiet_of_same (HPk.out _)))
  have HB1 : Hid (Below β w (W.drewN nq)) := hide' (HB0.out.trans ⟨rfl, rfl, rfl, Nat.le_refl _, fun _ _ => rfl⟩)
  replace s4 : (W.drewN nq).cell? ⟨s, 4, none⟩ = some (.slice (some ⟨xg, 0, none⟩) L cp1) := s4
  replace s5 : (W.drewN nq).cell? ⟨s, 5, none⟩ = some (.slice (some ⟨yg, 0, none⟩) L cp2) := s5
  replace cxg : (W.drewN nq).cell? ⟨xg, i, none⟩ = some (.pointer (some ⟨p.b, 0, none⟩)) := cxg
  replace cyg : (W.drewN nq).cell? ⟨yg, i, none⟩ = some (.pointer (some ⟨p.c, 0, none⟩)) := cyg
  replace q0 : (W.drewN nq).cell? ⟨β, 0, none⟩ = some (.int .i64 2) := q0
  clear q1 HB0 hdz HPk hL0
  generalize W.drewN nq = V1 at *

  have HS := hide' (HWt.out V1 HB1.out)
  obtain ⟨jq, hjq⟩ := (HP.out.2.2.2.2.2.2.1.hX i p HP.out.1).2.2
  obtain ⟨y1, y2, y3⟩ := HP.out.2.2.2.2.2.2.1.hS jq p.q hjq
  have HYS := hide' (And.intro hjq (And.intro y3 (HP.out.2.2.2.2.2.2.1.hX i p HP.out.1)))
  have HC := hide' (psec (a := p.q.f + p.s) rfl (by have := HYS.out.2.1; have := HYS.out.2.2.1; have := HLn.out; omega) HS.out.2.1 (show Sc p.b x p.q.e p.q.f p.q.n p.s (md p.m) p.sn V1 from ((HS.out.2.2.2.fam 2).at_ i (p.b, scc x p.q.e p.q.f p.q.n p.s (md p.m) p.sn) (by show (X.map _)[i]? = _; rw [List.getElem?_map, HP.out.1]; rfl)).1) (by have := HP.out; omega))
  clear y1 y2 y3 hjq
  go_wp2_with fail
  refine HC.out.mono ?_
  rintro e1 W2 ⟨rfl, k1⟩
  obtain ⟨D1, m1, r1, d1, W1s, rc1, bl1⟩ := sec_fin HS.out.1 HS.out.2.1 HS.out.2.2.1 HP.out.2.1 HS.out.2.2.2 HP.out.1 k1
  obtain ⟨z4, z5, zx, zy⟩ := HCell.out W2 _ _ W1s
  have hsl := (W1s.kept (Turn.refl (fun _ => False) W2) (fun _ _ _ _ q => q.elim)).fam 1
  have hsl2 : RSl p.q.c y p.q.e p.q.f p.q.n W2 := (hsl.at_ jq (p.q.c, slc y p.q.e p.q.f p.q.n) (by show (S.map _)[jq]? = _; rw [List.getElem?_map, HYS.out.1]; rfl)).1
  have HC2 := hide' (rsec (a := p.q.f + p.s) rfl (by have := HYS.out.2.1; have := HYS.out.2.2.1; have := HLn.out; omega) r1 hsl2 rc1 (by have := HP.out; omega) (by have := HP.out; omega) (by have := HYS.out.2.2.2.1; have := HP.out; omega))
  clear hsl hsl2
  have HF1 := hide' (And.intro m1 (And.intro r1 (And.intro d1 (And.intro W1s bl1))))
  clear HC HS m1 r1 d1 W1s rc1 bl1 k1 s4 s5 cxg cyg q0
  go_wp2_with fail
  refine HC2.out.mono ?_
  rintro e2 W3 ⟨rfl, k2⟩
  obtain ⟨⟨U3, fm3, hP3, hW3⟩, hF⟩ := sec_fin2 HF1.out.2.2.2.2 HF1.out.1 HF1.out.2.1 HF1.out.2.2.1 HF1.out.2.2.2.1 HP.out.1 k2 HP.out.2.2.1 HP.out.2.2.2.1 (by rw [HLg.out]; exact HP.out.2.2.2.2.1) (by rw [HLg.out]; exact HP.out.2.2.2.2.2.1) HP.out.2.2.2.2.2.2.1
  have FF := hide' hF
  have c8 := hW3.c8
  have f8 := hW3.fz 8
  clear HC2 HF1 k2 hP3 hW3 hF z4 z5 zx zy HWt HCell HQ
  generalize decide (1 ≤ p.m) = bb at *
  go_wp2
  go_end0
  exact ⟨rfl, FF.out⟩
set_option maxRecDepth 100000 in
set_option maxHeartbeats 4000000 in
theorem gr_step (wh nn v : Int) (h : Wn w0 Ln s x y N w) (hN : N < 1999990) (hLn : Ln ≤ 60) :
    Calls Try.prog 36 #[.pointer (some ⟨s, 0, none⟩), .agg #[.int .i64 6, .int .i64 wh, .int .i64 nn, .int .i64 v]] w fun e w' => e = .returned (.tuple #[]) ∧ Wn w0 Ln s x y (N + 1) w' := by
  have h0 := h
  obtain ⟨bel, U, ws, tr, bad, S, X, G, r, hP, h1, h2, h3, h4, hW, hRt⟩ := h
  obtain ⟨D, R, hM, hR, hdis, hU⟩ := hP
  have hB0 : Below w.heap.size w (w.alloc (.cells #[.int .i64 6, .int .i64 wh, .int .i64 nn, .int .i64 v] 52)) := (Below.refl _ _).alloc (Nat.le_refl _) _
  have hW0 := hW.below hB0
  have hb0 := heap_alloc_new w (.cells #[.int .i64 6, .int .i64 wh, .int .i64 nn, .int .i64 v] 52)
  have q0 : (w.alloc (.cells #[.int .i64 6, .int .i64 wh, .int .i64 nn, .int .i64 v] 52)).cell? ⟨w.heap.size, 0, none⟩ = some (.int .i64 6) := by rw [Lib.cell_of_heap hb0]; rfl
  have q1 : (w.alloc (.cells #[.int .i64 6, .int .i64 wh, .int .i64 nn, .int .i64 v] 52)).cell? ⟨w.heap.size, 1, none⟩ = some (.int .i64 wh) := by rw [Lib.cell_of_heap hb0]; rfl
  have s4 := hW0.c6
  have s5 := hW0.c7
  rw [show r.L 4 = G.length from h4.2.2.2.2.1] at s4
  rw [show r.L 5 = G.length from h4.2.2.2.2.2] at s5
  have HQ : Hid (∀ V', Below w.heap.size w V' → Wn w0 Ln s x y (N + 1) V') := hide' (fun V' hb => h0.quiet hb)
  by_cases hz : G.length = 0
  · have F := hide' (HQ.out _ hB0)
    rw [hz] at s4
    clear h0 bel hM hR hdis hU h1 h2 h3 h4 hW hRt hW0 hb0 HQ hz hB0 s5
    go_enter Try.func36, Try.ntmps36
    go_wp2
    refine bodyPost_ret (results_none rfl _ _ _) rfl ?_
    exact ⟨rfl, F.out⟩
  have hL0 : (0 : Int) < (G.length : Int) := by omega
  have hi1 := Int.emod_nonneg wh (b := (G.length : Int)) (by omega)
  have hi2 := Int.emod_lt_of_pos wh (b := (G.length : Int)) hL0
  have HPk := hide' (fun V => pick_big wh (G.length : Int) V hL0 (by omega))
  generalize wh % (G.length : Int) = zi at *
  obtain ⟨i, rfl⟩ : ∃ i : Nat, zi = (i : Int) := ⟨zi.toNat, by omega⟩
  have hil : i < G.length := by omega
  obtain ⟨p, hp⟩ : ∃ p, G[i]? = some p := ⟨_, List.getElem?_eq_getElem hil⟩
  obtain ⟨xg, exg, cxg⟩ := ptr_cell (i := i) (b := p.b) (hW0.row 4) (by show (G.map Gp.b)[i]? = _; rw [List.getElem?_map, hp]; rfl)
  obtain ⟨yg, eyg, cyg⟩ := ptr_cell (i := i) (b := p.c) (hW0.row 5) (by show (G.map Gp.c)[i]? = _; rw [List.getElem?_map, hp]; rfl)
  rw [exg] at s4
  rw [eyg] at s5
  have hdz : ((G.length : Int) == 0) = false := by rw [beq_eq_false_iff_ne]; omega
  have HCell : Hid (∀ V' fm ok, Ws w0.heap.size s x y r (rsOf S X G) fm ok V' → V'.cell? ⟨s, 6, none⟩ = some (.slice (some ⟨xg, 0, none⟩) G.length (r.cap 4)) ∧ V'.cell? ⟨s, 7, none⟩ = some (.slice (some ⟨yg, 0, none⟩) G.length (r.cap 5)) ∧ V'.cell? ⟨xg, i, none⟩ = some (.pointer (some ⟨p.b, 0, none⟩)) ∧ V'.cell? ⟨yg, i, none⟩ = some (.pointer (some ⟨p.c, 0, none⟩))) := hide' (fun V' fm ok hx => by
    have z1 := hx.c6
    have z2 := hx.c7
    rw [show r.L 4 = G.length from h4.2.2.2.2.1, exg] at z1
    rw [show r.L 5 = G.length from h4.2.2.2.2.2, eyg] at z2
    obtain ⟨g1, e1, z3⟩ := ptr_cell (i := i) (b := p.b) (hx.row 4) (by show (G.map Gp.b)[i]? = _; rw [List.getElem?_map, hp]; rfl)
    obtain ⟨g2, e2, z4⟩ := ptr_cell (i := i) (b := p.c) (hx.row 5) (by show (G.map Gp.c)[i]? = _; rw [List.getElem?_map, hp]; rfl)
    rw [exg] at e1
    rw [eyg] at e2
    cases e1
    cases e2
    exact ⟨z1, z2, z3, z4⟩)
  have HWt : Hid (∀ V', Below w.heap.size w V' → Below w0.heap.size w0 V' ∧ Mem D w0.heap.size x ws tr bad V' ∧ Rem R w0.heap.size y ws N tr bad V' ∧ Ws w0.heap.size s x y r (rsOf S X G) (fmOf x y S X G) true V') := hide' (fun V' hb => ⟨bel.trans (hb.mono bel.size), hM.below hb, hR.below hb, hW.below hb⟩)
  have HP := hide' (And.intro hp (And.intro hdis (And.intro h1 (And.intro h2 (And.intro h3 (And.intro h4 (And.intro hRt hN)))))))
  have HB0 := hide' hB0
  have hil' : (i : Int) < (G.length : Int) := by omega
  have HLn := hide' hLn
  clear h0 bel hM hR hdis hU h1 h2 h3 h4 hW hRt hW0 hb0 hz hB0 hi1 hi2 hp exg eyg hLn
  generalize hLg : G.length = L at *
  have HLg := hide' hLg
  clear hLg hil
  generalize r.cap 4 = cp1 at *
  generalize r.cap 5 = cp2 at *
  go_enter Try.func36, Try.ntmps36
  go_wp2_with fail
  generalize (w.alloc (.cells #[.int .i64 6, .int .i64 wh, .int .i64 nn, .int .i64 v] 52)) = W at *
  generalize hβg : w.heap.size = β at *
  have HBg := hide' hβg
  clear hβg
  go_quiet ((go_at_call 7; exact Calls.quiet_of_same (HPk.out _)))
  have HB1 : Hid (Below β w (W.drewN nq)) := hide' (HB0.out.trans ⟨rfl, rfl, rfl, Nat.le_refl _, fun _ _ => rfl⟩)
  replace s4 : (W.drewN nq).cell? ⟨s, 6, none⟩ = some (.slice (some ⟨xg, 0, none⟩) L cp1) := s4
  replace s5 : (W.drewN nq).cell? ⟨s, 7, none⟩ = some (.slice (some ⟨yg, 0, none⟩) L cp2) := s5
  replace cxg : (W.drewN nq).cell? ⟨xg, i, none⟩ = some (.pointer (some ⟨p.b, 0, none⟩)) := cxg
  replace cyg : (W.drewN nq).cell? ⟨yg, i, none⟩ = some (.pointer (some ⟨p.c, 0, none⟩)) := cyg
  replace q0 : (W.drewN nq).cell? ⟨β, 0, none⟩ = some (.int .i64 6) := q0
  clear q1 HB0 hdz HPk hL0
  generalize W.drewN nq = V1 at *

  have HS := hide' (HWt.out V1 HB1.out)
  obtain ⟨jq, hjq⟩ := (HP.out.2.2.2.2.2.2.1.hG i p HP.out.1).2.2
  obtain ⟨y1, y2, y3⟩ := HP.out.2.2.2.2.2.2.1.hS jq p.q hjq
  have HYS := hide' (And.intro hjq (And.intro y3 (And.intro y1 (HP.out.2.2.2.2.2.2.1.hG i p HP.out.1))))
  have HC := hide' (pgr (a := p.q.f + p.go) rfl (by have := HYS.out.2.1; have := HYS.out.2.2.2.1; have := HLn.out; omega) HS.out.2.1 (show Gr p.b x p.q.e p.q.f p.q.n p.si (nx p.ad p.go) V1 from ((HS.out.2.2.2.fam 4).at_ i (p.b, grc x p.q.e p.q.f p.q.n p.si (nx p.ad p.go)) (by show (G.map _)[i]? = _; rw [List.getElem?_map, HP.out.1]; rfl)).1) HYS.out.2.2.2.2.1 HYS.out.2.2.2.1 HYS.out.2.2.1 (by have := HP.out; omega))
  clear y1 y2 y3 hjq
  go_wp2_with fail
  refine HC.out.mono ?_
  rintro e1 W2 ⟨rfl, k1⟩
  obtain ⟨D1, m1, r1, d1, W1s, rc1, bl1⟩ := gr_fin HS.out.1 HS.out.2.1 HS.out.2.2.1 HP.out.2.1 HS.out.2.2.2 HP.out.1 k1
  obtain ⟨z4, z5, zx, zy⟩ := HCell.out W2 _ _ W1s
  have hsl := W1s.fam 1
  have hsl2 : RSl p.q.c y p.q.e p.q.f p.q.n W2 := (hsl.at_ jq (p.q.c, slc y p.q.e p.q.f p.q.n) (by show (S.map _)[jq]? = _; rw [List.getElem?_map, HYS.out.1]; rfl)).1
  have HC2 := hide' (rgr (a := p.q.f + p.go) rfl (by have := HYS.out.2.1; have := HYS.out.2.2.2.1; have := HLn.out; omega) r1 hsl2 rc1 HYS.out.2.2.2.2.1 HYS.out.2.2.2.1 HYS.out.2.2.1 (by have := HP.out; omega) (by have := HP.out; omega))
  clear hsl hsl2
  have HF1 := hide' (And.intro m1 (And.intro r1 (And.intro d1 (And.intro W1s bl1))))
  clear HC HS m1 r1 d1 W1s rc1 bl1 k1 s4 s5 cxg cyg q0
  go_wp2_with fail
  refine HC2.out.mono ?_
  rintro e2 W3 ⟨rfl, k2⟩
  obtain ⟨⟨U3, fm3, hP3, hW3⟩, hF⟩ := gr_fin2 HF1.out.2.2.2.2 HF1.out.1 HF1.out.2.1 HF1.out.2.2.1 HF1.out.2.2.2.1 HP.out.1 k2 HP.out.2.2.1 HP.out.2.2.2.1 (by rw [HLg.out]; exact HP.out.2.2.2.2.1) (by rw [HLg.out]; exact HP.out.2.2.2.2.2.1) HP.out.2.2.2.2.2.2.1
  have FF := hide' hF
  have c8 := hW3.c8
  have f8 := hW3.fz 8
  clear HC2 HF1 k2 hP3 hW3 hF z4 z5 zx zy HWt HCell HQ
  generalize (p.ad && decide (gG ws (p.q.f + p.go) p.q.n p.ad p.si p.go = p.q.n)) = bb at *
  go_wp2
  go_end0
  exact ⟨rfl, FF.out⟩
end V
end Go.Proofs.Ytmlhlmiigdddlaa
