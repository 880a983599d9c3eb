import Derived.Test.YtnpdmeeolcjmlaaRmM
set_option linter.unusedVariables false
set_option linter.unusedSimpArgs false
namespace Go.Proofs.Ytnpdmeeolcjmlaa
open Go.RowKit
namespace T
open M
theorem par (i : Nat) : ∃ e : Nat, e < 2 ∧ Int.tmod (i : Int) 2 = (e : Int) := by
  refine ⟨i % 2, by omega, ?_⟩
  rw [Int.tmod_eq_emod_of_nonneg (by omega)]
  omega
theorem Lb.at {lb l1 l2 : Nat} {w : World} (h : Lb lb l1 l2 w) (e : Nat) (he : e < 2) : ∃ l, (l = l1 ∨ l = l2) ∧ w.cell? ⟨lb, e, none⟩ = some (.pointer (some ⟨l, 0, none⟩)) := by
  have : e = 0 ∨ e = 1 := by omega
  rcases this with rfl | rfl
  · exact ⟨l1, .inl rfl, by rw [Lib.cell_of_heap h]; rfl⟩
  · exact ⟨l2, .inr rfl, by rw [Lib.cell_of_heap h]; rfl⟩
theorem at3 {a b c : Int} (h : b ≠ P) : er [a, b, c] ((1 : Nat) : Int) = 0 ∧ std [a, b, c] ((1 : Nat) : Int) = b := er_ok (ws := [a, b, c]) (k := 1) (by simp) h
theorem at4 {a b c : Int} (h : c ≠ P) : er [a, b, c] ((2 : Nat) : Int) = 0 ∧ std [a, b, c] ((2 : Nat) : Int) = c := er_ok (ws := [a, b, c]) (k := 2) (by simp) h
theorem put3 {a b c v : Int} (h : b ≠ P) : put [a, b, c] ((1 : Nat) : Int) v = [a, v, c] := by rw [put_ok (at3 h).1]; rfl
theorem put4 {a b c v : Int} (h : c ≠ P) : put [a, b, c] ((2 : Nat) : Int) v = [a, b, v] := by rw [put_ok (at4 h).1]; rfl
variable {w w' : World} {w0 : World} {bg : Int} {N r x lb l1 l2 g tc : Nat} {ts : List Tk} {c f o : Nat} {D : Nat → Prop} {tr : List Ac} {bad : Nat} {oo : Option Addr} {oc : Nat}
set_option maxRecDepth 100000 in
set_option maxHeartbeats 4000000 in
theorem move_stay (i : Nat) (tn : Int) (b : Nat) (tst : Int) (sy : Int) (h : Rm w0 bg N r x lb l1 l2 g tc ts c f o D tr bad oo oc w) (hi : ts[i]? = some ⟨some b, tn, true, tst⟩) (hs : 0 < tst) :
    Calls Try.prog 21 #[.pointer (some ⟨r, 0, none⟩), .int .i64 (i : Nat), .int .i64 sy] w fun e w' => e = .returned (.bool true) ∧ ∃ D' tr' bad' oo' oc', Rm w0 bg (N + 1) r x lb l1 l2 g tc (ts.set i ⟨some b, tn, true, wrap64 (tst - 1)⟩) c f o D' tr' bad' oo' oc' w' := by
  have hil : i < ts.length := (List.getElem?_eq_some_iff.1 hi).1
  have hil' : (i : Int) < (ts.length : Int) := by omega
  have c2 : w.cell? ⟨r, 2, none⟩ = some (.slice (some ⟨g, 0, none⟩) ts.length tc) := by rw [Lib.cell_of_heap h.hr]; rfl
  have c1 : w.cell? ⟨r, 1, none⟩ = some (.slice (some ⟨lb, 0, none⟩) 2 2) := by rw [Lib.cell_of_heap h.hr]; rfl
  obtain ⟨d0, d1, d2, d3⟩ := row_cells4 h.row hi
  replace d0 : w.cell? ⟨g, i * 4, none⟩ = some (.pointer (some ⟨b, 0, none⟩)) := d0
  replace d1 : w.cell? ⟨g, i * 4 + 1, none⟩ = some (.int .i64 tn) := d1
  replace d2 : w.cell? ⟨g, i * 4 + 2, none⟩ = some (.bool true) := d2
  replace d3 : w.cell? ⟨g, i * 4 + 3, none⟩ = some (.int .i64 tst) := d3
  obtain ⟨E, hEw, hE⟩ : ∃ E : Env, E = ⟨w0, w, bg, N, r, x, lb, l1, l2, g, tc, ts, c, f, o, D, tr, bad, oo, oc, i, ⟨some b, tn, true, tst⟩⟩ ∧ E.Ok := ⟨_, rfl, h, hi⟩
  have HE := hide' hE
  have HEw := hide' hEw
  have HS : Hid (Mid E w.heap.size ⟨some b, tn, true, wrap64 (tst - 1)⟩ D (wrap64 (bg + (c : Nat))) (wrap64 (bg + (f : Nat))) tr bad c f oo o oc (w.alloc (.cells #[.pointer (some ⟨b, 0, none⟩), .int .i64 tn, .bool true, .int .i64 (wrap64 (tst - 1))] 87))) := by have := Mid.start hE ⟨some b, tn, true, wrap64 (tst - 1)⟩; rw [hEw] at this ⊢; exact this
  have HR := hide' h
  have lr := lt_of_heap h.hr
  have hi0 := hide' hi
  obtain ⟨z1, l, z2, z3⟩ := h.wt i _ b hi rfl
  have KW := hide' (And.intro z1 (And.intro z2 (z3.below ((Below.refl _ _).alloc (Nat.le_refl _) (.cells #[.pointer (some ⟨b, 0, none⟩), .int .i64 tn, .bool true, .int .i64 (wrap64 (tst - 1))] 87)))))
  clear h hi hE hEw z1 z2 z3
  go_enter Try.func21, Try.ntmps21
  go_wp2_with fail
  clear c2 c1 d0 d1 d2 d3
  generalize w.alloc (.cells #[.pointer (some ⟨b, 0, none⟩), .int .i64 tn, .bool true, .int .i64 (wrap64 (tst - 1))] 87) = W at *
  obtain ⟨q, hq⟩ : ∃ q, w.heap.size = q := ⟨_, rfl⟩
  rw [hq] at HS ⊢
  clear hq
  have KM := HS
  have cW : W.cell? ⟨r, 2, none⟩ = some (.slice (some ⟨g, 0, none⟩) ts.length tc) := by have := KM.out.rc2; rw [HEw.out] at this; exact this
  have gg : ∀ j, W.frozen? ⟨g, j, none⟩ = false := fun j => by have := KM.out.gf j; rw [HEw.out] at this; exact this
  have lgq : g < q := by have := KM.out.gq; rw [HEw.out] at this; exact this
  have hrow : W.ownsRow w0.heap.size 87 4 (.slice (some ⟨g, 0, none⟩) ts.length tc) ts.length (tks ts) := by have := KM.out.row; rw [HEw.out] at this; exact this
  obtain ⟨g0, g1, g2, g3⟩ := row_cells4 hrow hi0.out
  have e0 : W.cell? ⟨q, 0, none⟩ = some (.pointer (some ⟨b, 0, none⟩)) := KM.out.bx.e0
  have e1 : W.cell? ⟨q, 1, none⟩ = some (.int .i64 tn) := KM.out.bx.e1
  have e2 : W.cell? ⟨q, 2, none⟩ = some (.bool true) := KM.out.bx.e2
  have e3 : W.cell? ⟨q, 3, none⟩ = some (.int .i64 (wrap64 (tst - 1))) := KM.out.bx.e3
  have HF := hide' (by
    have := KM.out.fin HE.out (N' := N + 1) (by rw [HEw.out]) (by rw [HEw.out]) (Nat.le_succ_of_le HR.out.len) (fun b' hb' => by
      cases hb'
      rw [HEw.out]
      exact ⟨KW.out.1, .inl rfl, l, KW.out.2.1, KW.out.2.2⟩)
    rw [HEw.out] at this
    exact this)
  clear hrow
  clear KM KW HS HE HEw HR
  go_region
  go_wp2
  go_ret
  exact ⟨rfl, _, _, _, _, _, Rm.drew HF.out⟩
set_option maxRecDepth 100000 in
set_option maxHeartbeats 4000000 in
theorem move_leave (i : Nat) (tn : Int) (b : Nat) (tst : Int) (sy : Int) (h : Rm w0 bg N r x lb l1 l2 g tc ts c f o D tr bad oo oc w) (hi : ts[i]? = some ⟨some b, tn, true, tst⟩) (hs : ¬ 0 < tst) (hN : N < 1999999999998) (hf : f < 1999999999998) (hp : wrap64 (bg + (f : Nat)) ≠ P) (hi8 : i < 8) :
    Calls Try.prog 21 #[.pointer (some ⟨r, 0, none⟩), .int .i64 (i : Nat), .int .i64 sy] w fun e w' => e = .returned (.bool true) ∧ ∃ D' tr' bad' oo' oc', Rm w0 bg (N + 1) r x lb l1 l2 g tc (ts.set i ⟨none, -1, false, 0⟩) c (f + 1) o D' tr' bad' oo' oc' w' := by
  have hil : i < ts.length := (List.getElem?_eq_some_iff.1 hi).1
  have hil' : (i : Int) < (ts.length : Int) := by omega
  have c2 : w.cell? ⟨r, 2, none⟩ = some (.slice (some ⟨g, 0, none⟩) ts.length tc) := by rw [Lib.cell_of_heap h.hr]; rfl
  have c1 : w.cell? ⟨r, 1, none⟩ = some (.slice (some ⟨lb, 0, none⟩) 2 2) := by rw [Lib.cell_of_heap h.hr]; rfl
  obtain ⟨d0, d1, d2, d3⟩ := row_cells4 h.row hi
  replace d0 : w.cell? ⟨g, i * 4, none⟩ = some (.pointer (some ⟨b, 0, none⟩)) := d0
  replace d1 : w.cell? ⟨g, i * 4 + 1, none⟩ = some (.int .i64 tn) := d1
  replace d2 : w.cell? ⟨g, i * 4 + 2, none⟩ = some (.bool true) := d2
  replace d3 : w.cell? ⟨g, i * 4 + 3, none⟩ = some (.int .i64 tst) := d3
  obtain ⟨E, hEw, hE⟩ : ∃ E : Env, E = ⟨w0, w, bg, N, r, x, lb, l1, l2, g, tc, ts, c, f, o, D, tr, bad, oo, oc, i, ⟨some b, tn, true, tst⟩⟩ ∧ E.Ok := ⟨_, rfl, h, hi⟩
  have HE := hide' hE
  have HEw := hide' hEw
  have HS : Hid (Mid E w.heap.size ⟨some b, tn, true, tst⟩ D (wrap64 (bg + (c : Nat))) (wrap64 (bg + (f : Nat))) tr bad c f oo o oc (w.alloc (.cells #[.pointer (some ⟨b, 0, none⟩), .int .i64 tn, .bool true, .int .i64 tst] 87))) := by have := Mid.start hE ⟨some b, tn, true, tst⟩; rw [hEw] at this ⊢; exact this
  have HR := hide' h
  have lr := lt_of_heap h.hr
  have hi0 := hide' hi
  obtain ⟨i1, hi1⟩ : ∃ i1, i1 = i + 1 := ⟨_, rfl⟩
  have hwi : wrap64 ((i : Int) + 1) = (i1 : Int) := by subst hi1; unfold wrap64; omega
  obtain ⟨f1, hf1⟩ : ∃ f1, f1 = f + 1 := ⟨_, rfl⟩
  have hwf : wrap64 ((f : Int) + 1) = (f1 : Int) := by subst hf1; unfold wrap64; omega
  obtain ⟨e, he, hpar⟩ := par i1
  have he' : (e : Int) < 2 := by omega
  have HF1 := hide' hf1
  have hds : decide (0 < tst) = false := by simpa using hs
  obtain ⟨l, hl, cl⟩ := (show Lb lb l1 l2 (w.alloc (.cells #[.pointer (some ⟨b, 0, none⟩), .int .i64 tn, .bool true, .int .i64 tst] 87)) by have := HS.out.lbk hE; rw [hEw] at this; exact this).at e he
  have cr : (w.alloc (.cells #[.pointer (some ⟨b, 0, none⟩), .int .i64 tn, .bool true, .int .i64 tst] 87)).cell? ⟨r, 1, none⟩ = some (.slice (some ⟨lb, 0, none⟩) 2 2) := (World.cell?_of_block (Below.heap_alloc _ _ _ lr)).trans c1
  have HLk : Hid (Lk l x 1 2 (w.alloc (.cells #[.pointer (some ⟨b, 0, none⟩), .int .i64 tn, .bool true, .int .i64 tst] 87))) := by
    obtain ⟨y1, y2⟩ := HS.out.lk hE
    rw [hEw] at y1 y2
    rcases hl with rfl | rfl
    · exact y1
    · exact y2
  have HM : Hid (Mem D w0.heap.size x [0, wrap64 (bg + (c : Nat)), wrap64 (bg + (f : Nat))] tr bad (w.alloc (.cells #[.pointer (some ⟨b, 0, none⟩), .int .i64 tn, .bool true, .int .i64 tst] 87))) := by have := HS.out.mem; rw [hEw] at this; exact this
  have HC := hide' (leave_any HM.out HLk.out (by have := HR.out.len; omega))
  rw [(at4 hp).1, put4 hp, (at4 hp).2, wrap_wrap] at HC
  have HP := hide' hp
  clear h hi hE hEw hl hi1 hf1 hp he hs hi8 hN hf
  go_enter Try.func21, Try.ntmps21
  go_wp2_with fail
  refine HC.out.mono ?_
  rintro e2 w2 ⟨rfl, t2⟩
  have T2 : Hid (∃ D2, Mid E w.heap.size ⟨some b, tn, true, tst⟩ D2 (wrap64 (bg + (c : Nat))) (wrap64 (bg + (f : Nat) + 1)) (tr ++ [⟨4, 2, 1, wrap64 (bg + (f : Nat)), good [0, wrap64 (bg + (c : Nat)), wrap64 (bg + (f : Nat))] 2⟩]) (bad + bd [0, wrap64 (bg + (c : Nat)), wrap64 (bg + (f : Nat))] 2) c f oo o oc w2) := hide' (HS.out.to (by rw [HEw.out]; exact t2))
  obtain ⟨D2, M2⟩ := T2.out
  have KM0 := hide' M2
  obtain ⟨q, hq⟩ : ∃ q, w.heap.size = q := ⟨_, rfl⟩
  rw [hq] at KM0 M2 ⊢
  have x0 : w2.cell? ⟨q, 0, none⟩ = some (.pointer (some ⟨b, 0, none⟩)) := M2.bx.e0
  have x1 := M2.bx.e1
  have x2 := M2.bx.e2
  have x3 := M2.bx.e3
  have y4 : w2.cell? ⟨r, 4, none⟩ = some (.int .i64 (f : Nat)) := by have := M2.rc4; rw [HEw.out] at this; exact this
  have fy : ∀ j, w2.frozen? ⟨r, j, none⟩ = false := fun j => by have := M2.rf j; rw [HEw.out] at this; exact this
  have fx : ∀ j, w2.frozen? ⟨q, j, none⟩ = false := fun j => M2.bx.fz j
  have nrq : r ≠ q := by have := M2.rq; rw [HEw.out] at this; exact this
  have nqr : q ≠ r := fun z => nrq z.symm
  clear HC t2 T2 M2 HM HLk cl cr d0 d1 d2 d3 c1 c2 hq HS lr
  go_wp2_with fail
  have KX : Hid (Mid E q ⟨none, -1, false, 0⟩ D2 (wrap64 (bg + (c : Nat))) (wrap64 (bg + (f : Nat) + 1)) (tr ++ [⟨4, 2, 1, wrap64 (bg + (f : Nat)), good [0, wrap64 (bg + (c : Nat)), wrap64 (bg + (f : Nat))] 2⟩]) (bad + bd [0, wrap64 (bg + (c : Nat)), wrap64 (bg + (f : Nat))] 2) c f1 oo o oc (((((w2.setCell ⟨r, 4, none⟩ (.int .i64 (f1 : Nat))).setCell ⟨q, 0, none⟩ (.pointer none)).setCell ⟨q, 1, none⟩ (.int .i64 (-1))).setCell ⟨q, 2, none⟩ (.bool false)).setCell ⟨q, 3, none⟩ (.int .i64 0))) := by
    have := ((((KM0.out.r4 f1).b0n).b1 (-1)).b2 false).b3 0
    rw [HEw.out] at this ⊢
    exact this
  clear KM0 x0 x1 x2 x3 y4 fy fx
  generalize (((((w2.setCell ⟨r, 4, none⟩ (.int .i64 (f1 : Nat))).setCell ⟨q, 0, none⟩ (.pointer none)).setCell ⟨q, 1, none⟩ (.int .i64 (-1))).setCell ⟨q, 2, none⟩ (.bool false)).setCell ⟨q, 3, none⟩ (.int .i64 0)) = W at *
  have KM := KX
  have cW : W.cell? ⟨r, 2, none⟩ = some (.slice (some ⟨g, 0, none⟩) ts.length tc) := by have := KM.out.rc2; rw [HEw.out] at this; exact this
  have gg : ∀ j, W.frozen? ⟨g, j, none⟩ = false := fun j => by have := KM.out.gf j; rw [HEw.out] at this; exact this
  have lgq : g < q := by have := KM.out.gq; rw [HEw.out] at this; exact this
  have hrow : W.ownsRow w0.heap.size 87 4 (.slice (some ⟨g, 0, none⟩) ts.length tc) ts.length (tks ts) := by have := KM.out.row; rw [HEw.out] at this; exact this
  obtain ⟨g0, g1, g2, g3⟩ := row_cells4 hrow hi0.out
  have e0 : W.cell? ⟨q, 0, none⟩ = some (.pointer none) := KM.out.bx.e0
  have e1 : W.cell? ⟨q, 1, none⟩ = some (.int .i64 (-1)) := KM.out.bx.e1
  have e2 : W.cell? ⟨q, 2, none⟩ = some (.bool false) := KM.out.bx.e2
  have e3 : W.cell? ⟨q, 3, none⟩ = some (.int .i64 0) := KM.out.bx.e3
  have HF := hide' (by
    have := KM.out.fin HE.out (N' := N + 1) (by rw [HEw.out]) (by rw [HEw.out, HF1.out]; congr 1; simp only; omega) (by have := HR.out.len; simp; omega) (fun b' hb' => by cases hb')
    rw [HEw.out, HF1.out] at this
    exact this)
  clear hrow
  clear KM KX HE HEw HR HF1 hwf hwi hpar he'
  go_region
  go_wp2
  go_ret
  exact ⟨rfl, _, _, _, _, _, Rm.drew HF.out⟩
end T
end Go.Proofs.Ytnpdmeeolcjmlaa
