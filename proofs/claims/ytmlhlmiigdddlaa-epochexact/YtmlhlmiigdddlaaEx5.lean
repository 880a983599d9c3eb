import Derived.Test.YtmlhlmiigdddlaaEx4
set_option linter.unusedVariables false
set_option linter.unusedSimpArgs false
namespace Go.Proofs.Ytmlhlmiigdddlaa
open Go.RowKit
namespace V
open M F
variable {w0 w w' : World} {Ln s x y N : Nat}
theorem info33 : (Try.prog.info? 33).map (fun i => (i.zero, i.size, i.bytes)) = some (some (.pointer none), 1, 8) := by kernel_rfl
theorem info47 : (Try.prog.info? 47).map (fun i => (i.zero, i.size, i.bytes)) = some (some (.pointer none), 1, 8) := by kernel_rfl
theorem info76 : (Try.prog.info? 76).map (fun i => (i.zero, i.size, i.bytes)) = some (some (.pointer none), 1, 8) := by kernel_rfl
theorem info116 : (Try.prog.info? 116).map (fun i => (i.zero, i.size, i.bytes)) = some (some (.pointer none), 1, 8) := by kernel_rfl
theorem info71 : (Try.prog.info? 71).map (fun i => (i.zero, i.size, i.bytes)) = some (some (.pointer none), 1, 8) := by kernel_rfl
theorem info119 : (Try.prog.info? 119).map (fun i => (i.zero, i.size, i.bytes)) = some (some (.pointer none), 1, 8) := by kernel_rfl
theorem Bs.c2 {q : Nat} {d k n v : Int} (h : Bs q d k n v w) : w.cell? ⟨q, 2, none⟩ = some (.int .i64 n) := by rw [Lib.cell_of_heap h]; rfl
theorem Bs.kept {S : Nat → Prop} {q : Nat} {d k n v : Int} (h : Bs q d k n v w) (t : Turn S w w') (hn : ¬ S q) : Bs q d k n v w' := (t.block q (lt_of_heap h) hn).trans h
theorem Bs.below {q : Nat} {d k n v : Int} (h : Bs q d k n v w) (t : Below w.heap.size w w') : Bs q d k n v w' := (t.block q (lt_of_heap h)).trans h
variable {D R : Nat → Prop} {ws ws' : List Int} {tr tr' : List Ac} {bad bad' : Nat} {S : List Sp} {X : List Xp} {G : List Gp} {r : Ro}
/-- behind an access on both sides -/
theorem to_fin {w1 w2 : World} (bel : Below w0.heap.size w0 w) (hM : Mem D w0.heap.size x ws tr bad w) (hR : Rem R w0.heap.size y ws N tr bad w) (hdis : ∀ j, D j → ¬ R j) (hW : Ws w0.heap.size s x y r (rsOf S X G) (fmOf x y S X G) true w)
    (k1 : To D w0.heap.size x ws' tr' bad' w w1) (k2 : RTo R w0.heap.size y ws' (N + 1) tr' bad' w1 w2)
    (h1 : ws'.length = Ln) (h2 : tr'.length ≤ N + 1) (h3 : S.length ≤ N ∧ X.length ≤ N ∧ G.length ≤ N) (h4 : r.L 0 = S.length ∧ r.L 1 = S.length ∧ r.L 2 = X.length ∧ r.L 3 = X.length ∧ r.L 4 = G.length ∧ r.L 5 = G.length) (hRt : Rt Ln S X G N) :
    Ws w0.heap.size s x y r (rsOf S X G) (fmOf x y S X G) true w2 ∧ Wn w0 Ln s x y (N + 1) w2 := by
  have hR1 := rem_behind hR hdis k1
  obtain ⟨U', hP, t, q⟩ := pair_to (U := fun j => D j ∨ R j) hM hR hdis (fun j => Iff.rfl) k1 k2
  obtain ⟨D', hm', t1, q1⟩ := k1
  obtain ⟨R', hr', t2, q2⟩ := k2
  have W2 := (hW.mem hM t1).rem hR1 t2
  have bel1 := bel.trans (t1.below (fun j hj => (hM.lo hj).1) bel.size)
  have bel2 := bel1.trans (t2.below (fun j hj => (hR1.low hj).1) bel1.size)
  exact ⟨W2, bel2, U', ws', tr', bad', S, X, G, r, hP, h1, h2, by omega, h4, W2, hRt.more⟩
set_option maxRecDepth 100000 in
set_option maxHeartbeats 4000000 in
theorem sl_leave (wh nn v : Int) (h : Wn w0 Ln s x y N w) (hN : N < 1999990) (hLn : Ln ≤ 60) :
    Calls Try.prog 34 #[.pointer (some ⟨s, 0, none⟩), .agg #[.int .i64 4, .int .i64 wh, .int .i64 nn, .int .i64 v]] w fun e w' => e = .returned (.tuple #[]) ∧ Wn w0 Ln s x y (N + 1) w' := by
  have h0 := h
  obtain ⟨bel, U, ws, tr, bad, S, X, G, r, hP, h1, h2, h3, h4, hW, hRt⟩ := h
  obtain ⟨D, R, hM, hR, hdis, hU⟩ := hP
  have hB0 : Below w.heap.size w (w.alloc (.cells #[.int .i64 4, .int .i64 wh, .int .i64 nn, .int .i64 v] 52)) := (Below.refl _ _).alloc (Nat.le_refl _) _
  have hW0 := hW.below hB0
  have hb0 := heap_alloc_new w (.cells #[.int .i64 4, .int .i64 wh, .int .i64 nn, .int .i64 v] 52)
  have q0 : (w.alloc (.cells #[.int .i64 4, .int .i64 wh, .int .i64 nn, .int .i64 v] 52)).cell? ⟨w.heap.size, 0, none⟩ = some (.int .i64 4) := by rw [Lib.cell_of_heap hb0]; rfl
  have q1 : (w.alloc (.cells #[.int .i64 4, .int .i64 wh, .int .i64 nn, .int .i64 v] 52)).cell? ⟨w.heap.size, 1, none⟩ = some (.int .i64 wh) := by rw [Lib.cell_of_heap hb0]; rfl
  have q2 : (w.alloc (.cells #[.int .i64 4, .int .i64 wh, .int .i64 nn, .int .i64 v] 52)).cell? ⟨w.heap.size, 2, none⟩ = some (.int .i64 nn) := by rw [Lib.cell_of_heap hb0]; rfl
  have hbx : Bs w.heap.size 4 wh nn v (w.alloc (.cells #[.int .i64 4, .int .i64 wh, .int .i64 nn, .int .i64 v] 52)) := hb0
  have s4 := hW0.c2
  have s5 := hW0.c3
  rw [show r.L 0 = S.length from h4.1] at s4
  rw [show r.L 1 = S.length from h4.2.1] at s5
  have HQ : Hid (∀ V', Below w.heap.size w V' → Wn w0 Ln s x y (N + 1) V') := hide' (fun V' hb => h0.quiet hb)
  by_cases hz : S.length = 0
  · have F := hide' (HQ.out _ hB0)
    rw [hz] at s4
    clear h0 bel hM hR hdis hU h1 h2 h3 h4 hW hRt hW0 hb0 HQ hz hB0 s5 q2 hbx 
    go_enter Try.func34, Try.ntmps34
    go_wp2
    refine bodyPost_ret (results_none rfl _ _ _) rfl ?_
    exact ⟨rfl, F.out⟩
  have hL0 : (0 : Int) < (S.length : Int) := by omega
  have hi1 := Int.emod_nonneg wh (b := (S.length : Int)) (by omega)
  have hi2 := Int.emod_lt_of_pos wh (b := (S.length : Int)) hL0
  have HPk := hide' (fun V => pick_big wh (S.length : Int) V hL0 (by omega))
  generalize wh % (S.length : Int) = zi at *
  obtain ⟨i, rfl⟩ : ∃ i : Nat, zi = (i : Int) := ⟨zi.toNat, by omega⟩
  have hil : i < S.length := by omega
  obtain ⟨p, hp⟩ : ∃ p, S[i]? = some p := ⟨_, List.getElem?_eq_getElem hil⟩
  obtain ⟨xg, exg, cxg⟩ := ptr_cell (i := i) (b := p.b) (hW0.row 0) (by show (S.map Sp.b)[i]? = _; rw [List.getElem?_map, hp]; rfl)
  obtain ⟨yg, eyg, cyg⟩ := ptr_cell (i := i) (b := p.c) (hW0.row 1) (by show (S.map Sp.c)[i]? = _; rw [List.getElem?_map, hp]; rfl)
  rw [exg] at s4
  rw [eyg] at s5
  have hdz : ((S.length : Int) == 0) = false := by rw [beq_eq_false_iff_ne]; omega
  have HCell : Hid (∀ V' fm ok, Ws w0.heap.size s x y r (rsOf S X G) fm ok V' → V'.cell? ⟨s, 2, none⟩ = some (.slice (some ⟨xg, 0, none⟩) S.length (r.cap 0)) ∧ V'.cell? ⟨s, 3, none⟩ = some (.slice (some ⟨yg, 0, none⟩) S.length (r.cap 1)) ∧ V'.cell? ⟨xg, i, none⟩ = some (.pointer (some ⟨p.b, 0, none⟩)) ∧ V'.cell? ⟨yg, i, none⟩ = some (.pointer (some ⟨p.c, 0, none⟩))) := hide' (fun V' fm ok hx => by
    have z1 := hx.c2
    have z2 := hx.c3
    rw [show r.L 0 = S.length from h4.1, exg] at z1
    rw [show r.L 1 = S.length from h4.2.1, eyg] at z2
    obtain ⟨g1, e1, z3⟩ := ptr_cell (i := i) (b := p.b) (hx.row 0) (by show (S.map Sp.b)[i]? = _; rw [List.getElem?_map, hp]; rfl)
    obtain ⟨g2, e2, z4⟩ := ptr_cell (i := i) (b := p.c) (hx.row 1) (by show (S.map Sp.c)[i]? = _; rw [List.getElem?_map, hp]; rfl)
    rw [exg] at e1
    rw [eyg] at e2
    cases e1
    cases e2
    exact ⟨z1, z2, z3, z4⟩)
  have HWt : Hid (∀ V', Below w.heap.size w V' → Below w0.heap.size w0 V' ∧ Mem D w0.heap.size x ws tr bad V' ∧ Rem R w0.heap.size y ws N tr bad V' ∧ Ws w0.heap.size s x y r (rsOf S X G) (fmOf x y S X G) true V') := hide' (fun V' hb => ⟨bel.trans (hb.mono bel.size), hM.below hb, hR.below hb, hW.below hb⟩)
  have HP := hide' (And.intro hp (And.intro hdis (And.intro h1 (And.intro h2 (And.intro h3 (And.intro h4 (And.intro hRt hN)))))))
  have HB0 := hide' hB0
  have HBx0 := hide' hbx
  clear hbx
  have hil' : (i : Int) < (S.length : Int) := by omega
  have HLn := hide' hLn
  clear h0 bel hM hR hdis hU h1 h2 h3 h4 hW hRt hW0 hb0 hz hB0 hi1 hi2 hp exg eyg hLn
  generalize hLg : S.length = L at *
  have HLg := hide' hLg
  clear hLg hil
  generalize r.cap 0 = cp1 at *
  generalize r.cap 1 = cp2 at *
  go_enter Try.func34, Try.ntmps34
  go_wp2_with fail
  generalize (w.alloc (.cells #[.int .i64 4, .int .i64 wh, .int .i64 nn, .int .i64 v] 52)) = W at *
  generalize hβg : w.heap.size = β at *
  have HBg := hide' hβg
  clear hβg
  go_quiet ((go_at_call 7; exact Calls.quiet_of_same (HPk.out _)))
  have HB1 : Hid (Below β w (W.drewN nq)) := hide' (HB0.out.trans ⟨rfl, rfl, rfl, Nat.le_refl _, fun _ _ => rfl⟩)
  replace s4 : (W.drewN nq).cell? ⟨s, 2, none⟩ = some (.slice (some ⟨xg, 0, none⟩) L cp1) := s4
  replace s5 : (W.drewN nq).cell? ⟨s, 3, none⟩ = some (.slice (some ⟨yg, 0, none⟩) L cp2) := s5
  replace cxg : (W.drewN nq).cell? ⟨xg, i, none⟩ = some (.pointer (some ⟨p.b, 0, none⟩)) := cxg
  replace cyg : (W.drewN nq).cell? ⟨yg, i, none⟩ = some (.pointer (some ⟨p.c, 0, none⟩)) := cyg
  replace q2 : (W.drewN nq).cell? ⟨β, 2, none⟩ = some (.int .i64 nn) := q2
  have HBx : Hid (Bs β 4 wh nn v (W.drewN nq)) := HBx0
  clear HBx0
  replace q0 : (W.drewN nq).cell? ⟨β, 0, none⟩ = some (.int .i64 4) := q0
  clear q1 HB0 hdz HPk hL0
  generalize W.drewN nq = V1 at *

  have HS := hide' (HWt.out V1 HB1.out)
  have HRS := hide' (HP.out.2.2.2.2.2.2.1.hS i p HP.out.1)
  have hSl : Hid (∀ V' ok, Ws w0.heap.size s x y r (rsOf S X G) (fmOf x y S X G) ok V' → Sl p.b x p.e p.f p.n V' ∧ RSl p.c y p.e p.f p.n V') := hide' (fun V' ok hx => hx.sl HP.out.1)

  by_cases hz : isl p.n nn = true
  · obtain ⟨z, rfl⟩ : ∃ z : Nat, nn = (z : Int) := ⟨nn.toNat, by have := of_decide_eq_true hz; omega⟩
    have hzn : z < p.n := by have := of_decide_eq_true hz; omega
    have HC : Hid (Calls Try.prog 29 #[.pointer (some ⟨p.b, 0, none⟩), .int .i64 (z : Nat)] V1.drew fun e V' => e = .returned (.int .i64 (er ws ((p.f + z : Nat) : Int))) ∧ To D w0.heap.size x (put ws ((p.f + z : Nat) : Int) 0) (tr ++ [⟨2, ((p.f + z : Nat) : Int), 0, std ws ((p.f + z : Nat) : Int), good ws ((p.f + z : Nat) : Int)⟩]) (bad + bd ws ((p.f + z : Nat) : Int)) V1 V') := hide' ((leave_ok z (p.f + z) rfl (by have := HRS.out; have := HLn.out; omega) (show Sl p.b x p.e p.f p.n V1.drew from (hSl.out V1 true HS.out.2.2.2).1) HS.out.2.1.drew (by have := HP.out; omega) hzn).mono fun e V' ⟨h1, h2⟩ => ⟨h1, To.drew h2⟩)
    generalize hA : (p.f + z : Nat) = a at *
    have HA := hide' hA
    have HZN := hide' hzn
    clear hA hz hzn
    generalize hw1 : put ws (a : Int) 0 = ws1 at *
    have HW1 := hide' (show ws1.length = Ln by rw [← hw1, put_len]; exact HP.out.2.2.1)
    generalize ht1 : tr ++ [(⟨2, (a : Int), 0, std ws (a : Int), good ws (a : Int)⟩ : Ac)] = tr1 at *
    have HT1 := hide' (show tr1.length ≤ N + 1 by rw [← ht1, List.length_append]; have := HP.out.2.2.2.1; simp; omega)
    generalize hb1 : bad + bd ws (a : Int) = bad1 at *
    have HR2 : Hid (∀ V2, To D w0.heap.size x ws1 tr1 bad1 V1 V2 → Calls Try.prog 60 #[.pointer (some ⟨p.c, 0, none⟩), .int .i64 (z : Nat)] V2.drew fun e V' => e = .returned (.int .i64 (er ws (a : Int))) ∧ RTo R w0.heap.size y ws1 (N + 1) tr1 bad1 V2 V') := hide' (fun V2 t2 => by
      have hr2 := rem_behind HS.out.2.2.1 HP.out.2.1 t2
      have hw2 := HS.out.2.2.2.mem HS.out.2.1 (by obtain ⟨_, _, q, _⟩ := t2; exact q)
      rw [← hw1, ← ht1, ← hb1]
      exact (rleave_ok z a HA.out.symm (by have := HRS.out; have := HLn.out; have := HA.out; have := HZN.out; omega) (show RSl p.c y p.e p.f p.n V2.drew from (hSl.out V2 true hw2).2) (Rem.drew hr2) (by have := HP.out; omega) (by have := HP.out; omega) HZN.out).mono fun e V' ⟨h1, h2⟩ => ⟨h1, RTo.drew h2⟩)
    have HFN : Hid (∀ V2 V3, To D w0.heap.size x ws1 tr1 bad1 V1 V2 → RTo R w0.heap.size y ws1 (N + 1) tr1 bad1 V2 V3 → Ws w0.heap.size s x y r (rsOf S X G) (fmOf x y S X G) true V3 ∧ Wn w0 Ln s x y (N + 1) V3) := hide' (fun V2 V3 t2 t3 => to_fin HS.out.1 HS.out.2.1 HS.out.2.2.1 HP.out.2.1 HS.out.2.2.2 t2 t3 HW1.out HT1.out (by rw [HLg.out]; exact HP.out.2.2.2.2.1) (by rw [HLg.out]; exact HP.out.2.2.2.2.2.1) HP.out.2.2.2.2.2.2.1)
    have HK2 : Hid (∀ V2, To D w0.heap.size x ws1 tr1 bad1 V1 V2 → Ws w0.heap.size s x y r (rsOf S X G) (fmOf x y S X G) true V2 ∧ Bs β 4 wh (z : Nat) v V2) := hide' (fun V2 t2 => by
      obtain ⟨D2, m2, t, q⟩ := t2
      exact ⟨HS.out.2.2.2.mem HS.out.2.1 t, HBx.out.kept t (HS.out.2.1.not HBx.out (by decide))⟩)
    have HK3 : Hid (∀ V2 V3, To D w0.heap.size x ws1 tr1 bad1 V1 V2 → RTo R w0.heap.size y ws1 (N + 1) tr1 bad1 V2 V3 → Bs β 4 wh (z : Nat) v V3) := hide' (fun V2 V3 t2 t3 => by
      have hr2 := rem_behind HS.out.2.2.1 HP.out.2.1 t2
      have hb2 := (HK2.out V2 t2).2
      obtain ⟨R3, m3, t, q⟩ := t3
      exact hb2.kept t (hr2.not hb2 (by decide)))
    generalize er ws (a : Int) = E at *
    clear hw1 ht1 hb1
    go_wp2_with fail
    go_region_held3 (fun w' => w'.cell? ⟨s, 2, none⟩ = some (.slice (some ⟨xg, 0, none⟩) L cp1) ∧ w'.cell? ⟨xg, i, none⟩ = some (.pointer (some ⟨p.b, 0, none⟩)) ∧ w'.cell? ⟨β, 2, none⟩ = some (.int .i64 (z : Nat))) (first | exact ⟨s4, cxg, q2⟩ | exact k2) ((go_at_call 29; refine HC.out.mono ?_; rintro e1 V2 ⟨rfl, t2⟩; have kc := HCell.out V2 _ _ (HK2.out V2 t2).1; have kb := (HK2.out V2 t2).2.c2; have k2 : V2.cell? ⟨s, 2, none⟩ = some (.slice (some ⟨xg, 0, none⟩) L cp1) ∧ V2.cell? ⟨xg, i, none⟩ = some (.pointer (some ⟨p.b, 0, none⟩)) ∧ V2.cell? ⟨β, 2, none⟩ = some (.int .i64 (z : Nat)) := ⟨kc.1, kc.2.2.1, kb⟩))
    rename_i hHeld
    clear hHeld
    obtain ⟨_, kc2, _, kc4⟩ := kc
    have HC2 := hide' (HR2.out V2 t2)
    have T2 := hide' t2
    clear k2 HC t2 s4 s5 cxg cyg q0 q2 HR2
    go_wp2_with fail
    go_region_held3 (fun w' => w'.cell? ⟨s, 3, none⟩ = some (.slice (some ⟨yg, 0, none⟩) L cp2) ∧ w'.cell? ⟨yg, i, none⟩ = some (.pointer (some ⟨p.c, 0, none⟩)) ∧ w'.cell? ⟨β, 2, none⟩ = some (.int .i64 (z : Nat))) (first | exact ⟨kc2, kc4, kb⟩ | exact k3 | exact HK9.out _) ((go_at_call 60; refine HC2.out.mono ?_; rintro e1 V3 ⟨rfl, t3⟩; have hw3 := (HFN.out V2 V3 T2.out t3).1; have HF3 := hide' (HFN.out V2 V3 T2.out t3).2; have kd := HCell.out V3 _ _ hw3; have hb3 := HK3.out V2 V3 T2.out t3; have k3 : V3.cell? ⟨s, 3, none⟩ = some (.slice (some ⟨yg, 0, none⟩) L cp2) ∧ V3.cell? ⟨yg, i, none⟩ = some (.pointer (some ⟨p.c, 0, none⟩)) ∧ V3.cell? ⟨β, 2, none⟩ = some (.int .i64 (z : Nat)) := ⟨kd.2.1, kd.2.2.2, hb3.c2⟩; have c8 := hw3.c8; have f8 := hw3.fz 8; have HK9 := hide' (fun (zz : Bool) => (show (V3.setCell ⟨s, 8, none⟩ (.bool zz)).cell? ⟨s, 3, none⟩ = some (.slice (some ⟨yg, 0, none⟩) L cp2) ∧ (V3.setCell ⟨s, 8, none⟩ (.bool zz)).cell? ⟨yg, i, none⟩ = some (.pointer (some ⟨p.c, 0, none⟩)) ∧ (V3.setCell ⟨s, 8, none⟩ (.bool zz)).cell? ⟨β, 2, none⟩ = some (.int .i64 (z : Nat)) from ⟨(HCell.out _ _ _ (hw3.flag zz)).2.1, (HCell.out _ _ _ (hw3.flag zz)).2.2.2, (hb3.kept (turn_b s 8 (.bool zz) V3) (fun e => cells_ne hb3 hw3.hs (by decide) e)).c2⟩)); clear t3 kd hb3 hw3))
    rename_i hHeld
    clear hHeld
    have FF := hide' (Wn.flagT HF3.out)
    clear HC2 HF3 HQ HWt HP HB1 HCell HFN HK2 HK3 HK9 k3 c8 f8 HBx hSl HS kc2 kc4 kb T2
    go_wp2
    go_end0
    exact ⟨rfl, by first | exact FF.out | simpa using FF.out⟩
  · have hz' : isl p.n nn = false := by simpa using hz
    have HT1 : Hid (∀ V, Below β w V → Calls Try.prog 29 #[.pointer (some ⟨p.b, 0, none⟩), .int .i64 nn] V fun e V' => e = .returned (.int .i64 181) ∧ V' = V) := hide' (fun V hb => leave_no nn (hSl.out V true (HWt.out V hb).2.2.2).1 hz')
    have HT2 : Hid (∀ V, Below β w V → Calls Try.prog 60 #[.pointer (some ⟨p.c, 0, none⟩), .int .i64 nn] V fun e V' => e = .returned (.int .i64 181) ∧ V' = V) := hide' (fun V hb => rleave_no nn (hSl.out V true (HWt.out V hb).2.2.2).2 hz')
    have HBd : Hid (∀ k, Below β w (V1.drewN k)) := hide' (fun k => HB1.out.trans ⟨rfl, rfl, rfl, Nat.le_refl _, fun _ _ => rfl⟩)
    clear hz hz'
    go_wp2_with fail
    go_quiet ((go_at_call 29; exact Calls.quiet_of_same (HT1.out _ (HBd.out _))))
    have HB2 : Hid (Below β w (V1.drewN nq)) := HBd.out nq
    have HBx2 : Hid (Bs β 4 wh nn v (V1.drewN nq)) := HBx
    replace s5 : (V1.drewN nq).cell? ⟨s, 3, none⟩ = some (.slice (some ⟨yg, 0, none⟩) L cp2) := s5
    replace cyg : (V1.drewN nq).cell? ⟨yg, i, none⟩ = some (.pointer (some ⟨p.c, 0, none⟩)) := cyg
    replace q2 : (V1.drewN nq).cell? ⟨β, 2, none⟩ = some (.int .i64 nn) := q2
    clear HBd HT1 s4 cxg q0 HBx HS
    generalize V1.drewN nq = V2 at *
    have HT3 : Hid (Calls Try.prog 60 #[.pointer (some ⟨p.c, 0, none⟩), .int .i64 nn] V2.drew fun e V' => e = .returned (.int .i64 181) ∧ Below β w V' ∧ Bs β 4 wh nn v V') := hide' ((HT2.out V2.drew (HB2.out.trans ⟨rfl, rfl, rfl, Nat.le_refl _, fun _ _ => rfl⟩)).mono fun e V' ⟨h1, h2⟩ => ⟨h1, by rw [h2]; exact HB2.out.trans ⟨rfl, rfl, rfl, Nat.le_refl _, fun _ _ => rfl⟩, by rw [h2]; exact HBx2.out⟩)
    clear HT2
    go_wp2_with fail
    go_region_held3 (fun w' => w'.cell? ⟨s, 3, none⟩ = some (.slice (some ⟨yg, 0, none⟩) L cp2) ∧ w'.cell? ⟨yg, i, none⟩ = some (.pointer (some ⟨p.c, 0, none⟩)) ∧ w'.cell? ⟨β, 2, none⟩ = some (.int .i64 nn)) (first | exact ⟨s5, cyg, q2⟩ | exact k3 | exact HK9.out _) ((go_at_call 60; refine HT3.out.mono ?_; rintro e1 V3 ⟨rfl, b3, hb3⟩; have hw3 := (HWt.out V3 b3).2.2.2; have HF3 := hide' (HQ.out V3 b3); have kd := HCell.out V3 _ _ hw3; have k3 : V3.cell? ⟨s, 3, none⟩ = some (.slice (some ⟨yg, 0, none⟩) L cp2) ∧ V3.cell? ⟨yg, i, none⟩ = some (.pointer (some ⟨p.c, 0, none⟩)) ∧ V3.cell? ⟨β, 2, none⟩ = some (.int .i64 nn) := ⟨kd.2.1, kd.2.2.2, hb3.c2⟩; have c8 := hw3.c8; have f8 := hw3.fz 8; have HK9 := hide' (fun (zz : Bool) => (show (V3.setCell ⟨s, 8, none⟩ (.bool zz)).cell? ⟨s, 3, none⟩ = some (.slice (some ⟨yg, 0, none⟩) L cp2) ∧ (V3.setCell ⟨s, 8, none⟩ (.bool zz)).cell? ⟨yg, i, none⟩ = some (.pointer (some ⟨p.c, 0, none⟩)) ∧ (V3.setCell ⟨s, 8, none⟩ (.bool zz)).cell? ⟨β, 2, none⟩ = some (.int .i64 nn) from ⟨(HCell.out _ _ _ (hw3.flag zz)).2.1, (HCell.out _ _ _ (hw3.flag zz)).2.2.2, (hb3.kept (turn_b s 8 (.bool zz) V3) (fun e => cells_ne hb3 hw3.hs (by decide) e)).c2⟩)); clear b3 kd hb3 hw3))
    rename_i hHeld
    clear hHeld
    have FF := hide' (Wn.flagT HF3.out)
    clear HQ HWt HP HB1 HCell HBx2 hSl HT3 HK9 k3 s5 cyg q2 c8 f8 HB2 HF3
    go_wp2
    go_end0
    exact ⟨rfl, by first | exact FF.out | simpa using FF.out⟩
end V
end Go.Proofs.Ytmlhlmiigdddlaa
