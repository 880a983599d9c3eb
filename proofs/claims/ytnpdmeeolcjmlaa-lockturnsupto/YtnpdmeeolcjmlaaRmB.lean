import Derived.Test.YtnpdmeeolcjmlaaRmA
set_option linter.unusedVariables false
set_option linter.unusedSimpArgs false
namespace Go.Proofs.Ytnpdmeeolcjmlaa
open Go.RowKit
namespace T
open M
variable {w w' : World} {w0 : World} {bg : Int} {N r x lb l1 l2 g tc : Nat} {ts : List Tk} {c f o : Nat} {D : Nat → Prop} {tr : List Ac} {bad : Nat} {oo : Option Addr} {oc : Nat}
theorem wr_wr (a : Int) (c : Nat) : wrap64 (wrap64 (a + (c : Nat)) + 1) = wrap64 (a + ((c + 1 : Nat) : Int)) := by unfold wrap64; omega
set_option maxRecDepth 100000 in
set_option maxHeartbeats 4000000 in
theorem move_enter (i : Nat) (tn : Int) (sy : Int) (h : Rm w0 bg N r x lb l1 l2 g tc ts c f o D tr bad oo oc w) (hi : ts[i]? = some ⟨none, tn, false, 0⟩) (hN : N < 1999999999998) (hc : c < 1999999999998) (hp : wrap64 (bg + (c : Nat)) ≠ P) :
    Calls Try.prog 21 #[.pointer (some ⟨r, 0, none⟩), .int .i64 (i : Nat), .int .i64 sy] w fun e w' => e = .returned (.bool true) ∧ ∃ bb D' tr' bad' oo' oc', Rm w0 bg (N + 1) r x lb l1 l2 g tc (ts.set i ⟨some bb, (c : Nat), false, 0⟩) (c + 1) f o D' tr' bad' oo' oc' w' := by
  have hil : i < ts.length := (List.getElem?_eq_some_iff.1 hi).1
  have hil' : (i : Int) < (ts.length : Int) := by omega
  have c2 : w.cell? ⟨r, 2, none⟩ = some (.slice (some ⟨g, 0, none⟩) ts.length tc) := by rw [Lib.cell_of_heap h.hr]; rfl
  have c1 : w.cell? ⟨r, 1, none⟩ = some (.slice (some ⟨lb, 0, none⟩) 2 2) := by rw [Lib.cell_of_heap h.hr]; rfl
  obtain ⟨d0, d1, d2, d3⟩ := row_cells4 h.row hi
  replace d0 : w.cell? ⟨g, i * 4, none⟩ = some (.pointer none) := d0
  replace d1 : w.cell? ⟨g, i * 4 + 1, none⟩ = some (.int .i64 tn) := d1
  replace d2 : w.cell? ⟨g, i * 4 + 2, none⟩ = some (.bool false) := d2
  replace d3 : w.cell? ⟨g, i * 4 + 3, none⟩ = some (.int .i64 0) := d3
  obtain ⟨E, hEw, hE⟩ : ∃ E : Env, E = ⟨w0, w, bg, N, r, x, lb, l1, l2, g, tc, ts, c, f, o, D, tr, bad, oo, oc, i, ⟨none, tn, false, 0⟩⟩ ∧ E.Ok := ⟨_, rfl, h, hi⟩
  have HE := hide' hE
  have HEw := hide' hEw
  have HS : Hid (Mid E w.heap.size ⟨none, tn, false, 0⟩ D (wrap64 (bg + (c : Nat))) (wrap64 (bg + (f : Nat))) tr bad c f oo o oc (w.alloc (.cells #[.pointer none, .int .i64 tn, .bool false, .int .i64 0] 87))) := by have := Mid.start hE ⟨none, tn, false, 0⟩; rw [hEw] at this ⊢; exact this
  have HR := hide' h
  have lr := lt_of_heap h.hr
  have hi0 := hide' hi
  obtain ⟨c1', hc1⟩ : ∃ c1, c1 = c + 1 := ⟨_, rfl⟩
  have hwc : wrap64 ((c : Int) + 1) = (c1' : Int) := by subst hc1; unfold wrap64; omega
  have HC1 := hide' hc1
  obtain ⟨e, he, hpar⟩ := par i
  have he' : (e : Int) < 2 := by omega
  obtain ⟨l, hl, cl⟩ := (show Lb lb l1 l2 (w.alloc (.cells #[.pointer none, .int .i64 tn, .bool false, .int .i64 0] 87)) by have := HS.out.lbk hE; rw [hEw] at this; exact this).at e he
  have cr : (w.alloc (.cells #[.pointer none, .int .i64 tn, .bool false, .int .i64 0] 87)).cell? ⟨r, 1, none⟩ = some (.slice (some ⟨lb, 0, none⟩) 2 2) := (World.cell?_of_block (Below.heap_alloc _ _ _ lr)).trans c1
  have HL := hide' hl
  have HP := hide' hp
  have HN := hide' hN
  have HC := hide' (wait_new l (w.alloc (.cells #[.pointer none, .int .i64 tn, .bool false, .int .i64 0] 87)))
  have hsz : (w.alloc (.cells #[.pointer none, .int .i64 tn, .bool false, .int .i64 0] 87)).heap.size = w.heap.size + 1 := by simp
  have HX : Hid (∀ w2, w2 = (w.alloc (.cells #[.pointer none, .int .i64 tn, .bool false, .int .i64 0] 87)).alloc (.cells #[.pointer (some ⟨l, 0, none⟩), .int .i64 (-1), .bool false, .bool false] 73) → Mid E w.heap.size ⟨none, tn, false, 0⟩ D (wrap64 (bg + (c : Nat))) (wrap64 (bg + (f : Nat))) tr bad c f oo o oc w2 ∧ Wt (w.heap.size + 1) l (-1) false false w2) := hide' (fun w2 hw2 => by
    subst hw2
    refine ⟨HS.out.below ((Below.refl _ _).alloc (Nat.le_refl _) _), ?_⟩
    rw [← hsz]
    exact wait_wt l _)
  clear h hi hE hEw hl hc1 hp he hN hc
  go_enter Try.func21, Try.ntmps21
  go_wp2_with fail
  refine HC.out.mono ?_
  rintro e2 w2 ⟨rfl, hw2⟩
  rw [hsz]
  obtain ⟨M2, W2⟩ := HX.out w2 hw2
  obtain ⟨q, hq⟩ : ∃ q, w.heap.size = q := ⟨_, rfl⟩
  obtain ⟨b, hb⟩ : ∃ b, q + 1 = b := ⟨_, rfl⟩
  rw [hq, hb] at W2 ⊢
  rw [hq] at M2
  have x0 : w2.cell? ⟨q, 0, none⟩ = some (.pointer none) := M2.bx.e0
  have x1 := M2.bx.e1
  have x2 := M2.bx.e2
  have x3 := M2.bx.e3
  have fx : ∀ j, w2.frozen? ⟨q, j, none⟩ = false := fun j => M2.bx.fz j
  have M3 := (M2.b0 b).b1 (-1)
  have W3 := (W2.kept (turn_b q 0 (.pointer (some ⟨b, 0, none⟩)) w2) (fun z => cells_ne W2 M2.bx (by decide) z)).kept (turn_b q 1 (.int .i64 (-1)) _) (fun z => cells_ne W2 M2.bx (by decide) z)
  have hbw : Hid (w.heap.size ≤ b) := hide' (by omega)
  have HM3 := hide' (And.intro M3 W3)
  clear HC hw2 HX hsz cl cr d0 d1 d2 d3 c1 c2 HS lr M2 W2 M3 W3 hq hb hpar he'
  go_wp2_with fail
  generalize (w2.setCell ⟨q, 0, none⟩ (.pointer (some ⟨b, 0, none⟩))).setCell ⟨q, 1, none⟩ (.int .i64 (-1)) = w3 at *
  have HLk : Hid (∀ {tq D1 v1 v2 tr1 bad1 c1 f1 oo1 o1 oc1 W}, Mid E q tq D1 v1 v2 tr1 bad1 c1 f1 oo1 o1 oc1 W → Lk l x 1 2 W) := hide' (fun hm => by
    obtain ⟨y1, y2⟩ := hm.lk HE.out
    rw [HEw.out] at y1 y2
    rcases HL.out with rfl | rfl
    · exact y1
    · exact y2)
  have HMm : Hid (∀ {tq D1 v1 v2 tr1 bad1 c1 f1 oo1 o1 oc1 W}, Mid E q tq D1 v1 v2 tr1 bad1 c1 f1 oo1 o1 oc1 W → Mem D1 w0.heap.size x [0, v1, v2] tr1 bad1 W) := hide' (fun hm => by have := hm.mem; rw [HEw.out] at this; exact this)
  have HC := hide' (ready_any (HMm.out HM3.out.1) (HLk.out HM3.out.1) HM3.out.2 (by simp))
  rw [show rdy [0, wrap64 (bg + (c : Nat)), wrap64 (bg + (f : Nat))] 2 (-1) false false = true by simp [rdy]] at HC
  clear x0 x1 x2 x3 fx
  refine HC.out.mono ?_
  rintro e3 w4 ⟨rfl, b4⟩
  have M4 := HM3.out.1.below b4
  have W4 := HM3.out.2.below b4
  have x0 : w4.cell? ⟨q, 0, none⟩ = some (.pointer (some ⟨b, 0, none⟩)) := M4.bx.e0
  have HM4 := hide' (And.intro M4 W4)
  have HC2 := hide' (step_any (HMm.out M4) (HLk.out M4) W4 (fun _ => rfl) (by have := HR.out.len; have := HN.out; omega))
  clear HC b4 HM3 M4 W4
  rw [show wO [0, wrap64 (bg + (c : Nat)), wrap64 (bg + (f : Nat))] 2 (-1) false false = false from rfl, show wM [0, wrap64 (bg + (c : Nat)), wrap64 (bg + (f : Nat))] 1 false = [0, wrap64 (bg + ((c + 1 : Nat) : Int)), wrap64 (bg + (f : Nat))] by unfold wM; rw [if_pos rfl, put3 HP.out, (at3 HP.out).2, wr_wr], show wT [0, wrap64 (bg + (c : Nat)), wrap64 (bg + (f : Nat))] 1 (-1) false = wrap64 (bg + (c : Nat)) by unfold wT; rw [if_pos ⟨rfl, (at3 HP.out).1⟩, (at3 HP.out).2], show wH [0, wrap64 (bg + (c : Nat)), wrap64 (bg + (f : Nat))] 1 false = true by unfold wH good; rw [decide_eq_true (at3 HP.out).1]; rfl] at HC2
  go_wp2_with fail
  refine HC2.out.mono ?_
  rintro e4 w5 ⟨rfl, k5⟩
  obtain ⟨D5, M5, W5⟩ := HM4.out.1.wto (u1 := wrap64 (bg + ((c + 1 : Nat) : Int))) (u2 := wrap64 (bg + (f : Nat))) HM4.out.2 (.inr (by rw [HEw.out]; exact hbw.out)) (by rw [HEw.out]; exact k5)
  have x0 : w5.cell? ⟨q, 0, none⟩ = some (.pointer (some ⟨b, 0, none⟩)) := M5.bx.e0
  have x1 : w5.cell? ⟨q, 1, none⟩ = some (.int .i64 (-1)) := M5.bx.e1
  have x2 := M5.bx.e2
  have x3 := M5.bx.e3
  have fx : ∀ j, w5.frozen? ⟨q, j, none⟩ = false := fun j => M5.bx.fz j
  have y3 : w5.cell? ⟨r, 3, none⟩ = some (.int .i64 (c : Nat)) := by have := M5.rc3; rw [HEw.out] at this; exact this
  have fy : ∀ j, w5.frozen? ⟨r, j, none⟩ = false := fun j => by have := M5.rf j; rw [HEw.out] at this; exact this
  have nrq : r ≠ q := by have := M5.rq; rw [HEw.out] at this; exact this
  have nqr : q ≠ r := fun z => nrq z.symm
  have M6 := (M5.b1 (c : Nat)).r3 c1'
  have W6 := (W5.kept (turn_b q 1 (.int .i64 (c : Nat)) w5) (fun z => cells_ne W5 M5.bx (by decide) z)).kept (turn_b r 3 (.int .i64 (c1' : Nat)) _) (fun z => cells_ne W5 (by have := M5.hr; rw [HEw.out] at this; exact this) (by decide) z)
  have KX : Hid (Mid E q ⟨some b, (c : Nat), false, 0⟩ D5 (wrap64 (bg + ((c + 1 : Nat) : Int))) (wrap64 (bg + (f : Nat))) (tr ++ wR [0, wrap64 (bg + (c : Nat)), wrap64 (bg + (f : Nat))] 1 2 false false) (bad + wB [0, wrap64 (bg + (c : Nat)), wrap64 (bg + (f : Nat))] 1 2 false false) c1' f oo o oc ((w5.setCell ⟨q, 1, none⟩ (.int .i64 (c : Nat))).setCell ⟨r, 3, none⟩ (.int .i64 (c1' : Nat)))) := by
    rw [HEw.out] at M6 ⊢
    exact M6
  have KW := hide' W6
  clear HC2 k5 HM4 M5 W5 M6 W6
  go_wp2_with fail
  clear x0 x1 x2 x3 fx y3 fy
  generalize (w5.setCell ⟨q, 1, none⟩ (.int .i64 (c : Nat))).setCell ⟨r, 3, none⟩ (.int .i64 (c1' : Nat)) = W at *
  have KM := KX
  have cW : W.cell? ⟨r, 2, none⟩ = some (.slice (some ⟨g, 0, none⟩) ts.length tc) := by have := KM.out.rc2; rw [HEw.out] at this; exact this
  have gg : ∀ j, W.frozen? ⟨g, j, none⟩ = false := fun j => by have := KM.out.gf j; rw [HEw.out] at this; exact this
  have lgq : g < q := by have := KM.out.gq; rw [HEw.out] at this; exact this
  have hrow : W.ownsRow w0.heap.size 87 4 (.slice (some ⟨g, 0, none⟩) ts.length tc) ts.length (tks ts) := by have := KM.out.row; rw [HEw.out] at this; exact this
  obtain ⟨g0, g1, g2, g3⟩ := row_cells4 hrow hi0.out
  have e0 : W.cell? ⟨q, 0, none⟩ = some (.pointer (some ⟨b, 0, none⟩)) := KM.out.bx.e0
  have e1 : W.cell? ⟨q, 1, none⟩ = some (.int .i64 (c : Nat)) := KM.out.bx.e1
  have e2 : W.cell? ⟨q, 2, none⟩ = some (.bool false) := KM.out.bx.e2
  have e3 : W.cell? ⟨q, 3, none⟩ = some (.int .i64 0) := KM.out.bx.e3
  have HF := hide' (by
    have := KM.out.fin HE.out (N' := N + 1) (by rw [HEw.out, HC1.out]) (by rw [HEw.out]) (by have := HR.out.len; simp [wR]; omega) (fun b' hb' => by
      cases hb'
      have z0 := HR.out.bel.size
      have z1 := hbw.out
      rw [HEw.out]
      exact ⟨by simp only; omega, .inr hbw.out, l, HL.out, KW.out⟩)
    rw [HEw.out, HC1.out] at this
    exact this)
  clear hrow
  clear KM KX KW HE HEw HR HC1 hwc HL HP HLk HMm hbw
  go_region
  go_wp2
  go_ret
  exact ⟨rfl, _, _, _, _, _, _, Rm.drew HF.out⟩
end T
end Go.Proofs.Ytnpdmeeolcjmlaa
