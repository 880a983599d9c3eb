import Derived.Test.YtnpdmeeolcjmlaaRmB
set_option linter.unusedVariables false
set_option linter.unusedSimpArgs false
namespace Go.Proofs.Ytnpdmeeolcjmlaa
open Go.RowKit
namespace T
open M
variable {w w' : World} {w0 : World} {bg : Int} {N r x lb l1 l2 g tc : Nat} {ts : List Tk} {c f o : Nat} {D : Nat → Prop} {tr : List Ac} {bad : Nat} {oo : Option Addr} {oc : Nat}
theorem same_wrap {bg : Int} {m f : Nat} (hm : m < 1999999999998) (hf : f < 1999999999998) : wrap64 (bg + (f : Nat)) = wrap64 (bg + (m : Nat)) ↔ m = f := by
  constructor
  · intro h
    unfold wrap64 at h
    omega
  · rintro rfl
    rfl
/-- one number more in the order -/
theorem Mid.ordered {E : Env} {q : Nat} {tq : Tk} {D1 : Nat → Prop} {v1 v2 : Int} {tr1 : List Ac} {bad1 c1 f1 : Nat} {oo1 : Option Addr} {o1 oc1 : Nat} {W : World} (h : Mid E q tq D1 v1 v2 tr1 bad1 c1 f1 oo1 o1 oc1 W) {gg cap' : Nat} {W0 W1 : World} (hb0 : Below W.heap.size W W0)
    (hown1 : W1.ownsRow E.w0.heap.size 3 1 (.slice (some ⟨gg, 0, none⟩) (o1 + 1) cap') (o1 + 1) (ivs ((List.range o1).map fun (k : Nat) => (k : Int)) ++ [.int .i64 (o1 : Nat)])) (hgrow : W0.grownBy W1 (Value.slice oo1 o1 oc1).ownBlock) (hat : (Value.slice oo1 o1 oc1).ownBlock = some gg ∨ gg = W0.heap.size) :
    Mid E q tq D1 v1 v2 tr1 bad1 c1 f1 (some ⟨gg, 0, none⟩) (o1 + 1) cap' (W1.setCell ⟨E.r, 5, none⟩ (.slice (some ⟨gg, 0, none⟩) (o1 + 1) cap')) := by
  obtain ⟨_, csg, hg⟩ := row_blk h.row
  have hgb : At oo1 gg ∨ W.heap.size ≤ gg := by
    rcases hat with z | z
    · exact .inl (own_at z)
    · exact .inr (by rw [z]; exact hb0.size)
  have t0 : Turn (At oo1) W W1 := (turn_below hb0).grown hgrow (fun k hk _ => own_at hk)
  have far : ∀ {j : Nat} {cs : Array Value} {Ty : TypeId} {z : Nat × Nat}, W.heap[j]? = some (.cells cs Ty z) → Ty ≠ 3 → ¬ At oo1 j := fun hj ht z => by
    obtain ⟨_, _, cs', h'⟩ := row_atk h.ord z
    exact cells_ne hj h' ht rfl
  have hr1 : Rb E.r E.x E.lb E.g E.ts.length E.tc c1 f1 oo1 o1 oc1 W1 := (t0.block _ (lt_of_heap h.hr) (far h.hr (by decide))).trans h.hr
  have hx1 := (t0.block _ (lt_of_heap h.bx) (far h.bx (by decide))).trans h.bx
  have hg1 := (t0.block _ (lt_of_heap hg) (far hg (by decide))).trans hg
  have t1 : Turn (fun k => k = E.r) W1 (W1.setCell ⟨E.r, 5, none⟩ (.slice (some ⟨gg, 0, none⟩) (o1 + 1) cap')) := turn_b E.r 5 _ W1
  have tt : Turn (fun j => At oo1 j ∨ j = E.r) W (W1.setCell ⟨E.r, 5, none⟩ (.slice (some ⟨gg, 0, none⟩) (o1 + 1) cap')) := (t0.mono (fun j _ z => .inl z)).trans (t1.mono (fun j _ z => .inr z))
  have sz := h.tt.size
  refine ⟨h.mem.kept tt (fun j hj z => ?_), h.sub, ?_, ?_, fun j hj => ?_, fun j hj hd => ?_, tt.row h.row (fun j hj z => ?_), (tt.block _ (lt_of_heap h.bx) (fun z => ?_)).trans h.bx, h.hq, h.tt.then tt (fun j hj z => ?_), h.lg⟩
  · rcases z with z | z
    · exact h.dis j z hj
    · exact h.mem.not (z ▸ h.hr) (by decide) hj
  · have := set_block (off := 5) (v := .slice (some ⟨gg, 0, none⟩) (o1 + 1) cap') hr1
    exact this
  · rw [List.range_succ, List.map_append, ivs, List.map_append]
    refine t1.row hown1 (fun j hj z => ?_)
    have e1 : gg = j := by simpa [Value.ownBlock] using hj
    obtain ⟨_, cs', h'⟩ := row_blk hown1
    exact cells_ne h' hr1 (by decide) (e1.trans z)
  · obtain ⟨a, ha, rfl⟩ := hj
    cases ha
    rcases hgb with z | z
    · exact h.ods _ z
    · exact .inr (by simp only; omega)
  · obtain ⟨a, ha, rfl⟩ := hj
    cases ha
    rcases hgb with z | z
    · exact h.dis _ z hd
    · have := (h.mem.lo hd).2
      simp only at this
      omega
  · have e2 : E.g = j := by simpa [Value.ownBlock] using hj
    subst e2
    rcases z with z | z
    · exact far hg (by decide) z
    · exact cells_ne hg h.hr (by decide) z
  · rcases z with z | z
    · exact far h.bx (by decide) z
    · exact cells_ne h.bx h.hr (by decide) z
  · rcases z with z | z
    · rcases h.ods j z with y | y
      · exact .inr (.inr (.inr (.inl y)))
      · omega
    · exact .inr (.inl z)
theorem Mid.drewN {E : Env} {q : Nat} {tq : Tk} {D1 : Nat → Prop} {v1 v2 : Int} {tr1 : List Ac} {bad1 c1 f1 : Nat} {oo1 : Option Addr} {o1 oc1 : Nat} {W : World} (h : Mid E q tq D1 v1 v2 tr1 bad1 c1 f1 oo1 o1 oc1 W) (n : Nat) : Mid E q tq D1 v1 v2 tr1 bad1 c1 f1 oo1 o1 oc1 (W.drewN n) := h.below ⟨rfl, rfl, rfl, Nat.le_refl _, fun _ _ => rfl⟩
set_option maxRecDepth 100000 in
set_option maxHeartbeats 4000000 in
theorem move_no (i : Nat) (tn : Int) (m b : Nat) (tst : Int) (sy : Int) (h : Rm w0 bg N r x lb l1 l2 g tc ts c f o D tr bad oo oc w) (hi : ts[i]? = some ⟨some b, tn, false, tst⟩) (htn : tn = (m : Nat)) (hm : m < 1999999999998) (hf : f < 1999999999998) (hp : wrap64 (bg + (f : Nat)) ≠ P) (hN : N < 1999999999998) (hne : m ≠ f) :
    Calls Try.prog 21 #[.pointer (some ⟨r, 0, none⟩), .int .i64 (i : Nat), .int .i64 sy] w fun e w' => e = .returned (.bool true) ∧ ∃ D' tr' bad' oo' oc', Rm w0 bg (N + 1) r x lb l1 l2 g tc (ts.set i ⟨some b, tn, false, sy⟩) c f o D' tr' bad' oo' oc' w' := by
  have hil : i < ts.length := (List.getElem?_eq_some_iff.1 hi).1
  have hil' : (i : Int) < (ts.length : Int) := by omega
  have c2 : w.cell? ⟨r, 2, none⟩ = some (.slice (some ⟨g, 0, none⟩) ts.length tc) := by rw [Lib.cell_of_heap h.hr]; rfl
  have c1 : w.cell? ⟨r, 1, none⟩ = some (.slice (some ⟨lb, 0, none⟩) 2 2) := by rw [Lib.cell_of_heap h.hr]; rfl
  obtain ⟨d0, d1, d2, d3⟩ := row_cells4 h.row hi
  replace d0 : w.cell? ⟨g, i * 4, none⟩ = some (.pointer (some ⟨b, 0, none⟩)) := d0
  replace d1 : w.cell? ⟨g, i * 4 + 1, none⟩ = some (.int .i64 tn) := d1
  replace d2 : w.cell? ⟨g, i * 4 + 2, none⟩ = some (.bool false) := d2
  replace d3 : w.cell? ⟨g, i * 4 + 3, none⟩ = some (.int .i64 tst) := d3
  obtain ⟨E, hEw, hE⟩ : ∃ E : Env, E = ⟨w0, w, bg, N, r, x, lb, l1, l2, g, tc, ts, c, f, o, D, tr, bad, oo, oc, i, ⟨some b, tn, false, tst⟩⟩ ∧ E.Ok := ⟨_, rfl, h, hi⟩
  have HE := hide' hE
  have HEw := hide' hEw
  have HS : Hid (Mid E w.heap.size ⟨some b, tn, false, tst⟩ D (wrap64 (bg + (c : Nat))) (wrap64 (bg + (f : Nat))) tr bad c f oo o oc (w.alloc (.cells #[.pointer (some ⟨b, 0, none⟩), .int .i64 tn, .bool false, .int .i64 tst] 87))) := by have := Mid.start hE ⟨some b, tn, false, tst⟩; rw [hEw] at this ⊢; exact this
  have HR := hide' h
  have lr := lt_of_heap h.hr
  have HNE := hide' hne
  have dne : (tn == (f : Int)) = false := by rw [htn]; simp; omega
  clear hne
  have hi0 := hide' hi
  obtain ⟨z1, l, hl, z3⟩ := h.wt i _ b hi rfl
  have HL := hide' hl
  have HW : Hid (Wt b l (wrap64 (bg + tn)) true false (w.alloc (.cells #[.pointer (some ⟨b, 0, none⟩), .int .i64 tn, .bool false, .int .i64 tst] 87))) := hide' (z3.below ((Below.refl _ _).alloc (Nat.le_refl _) _))
  have HB := hide' z1
  have HN := hide' hN
  have HP := hide' hp
  have hn0 : ¬ (tn < 0) := by rw [htn]; omega
  have HT := hide' htn
  have HSW := hide' (same_wrap (bg := bg) hm hf)
  have HLk : Hid (∀ {q tq D1 v1 v2 tr1 bad1 c1 f1 oo1 o1 oc1 W}, Mid E q tq D1 v1 v2 tr1 bad1 c1 f1 oo1 o1 oc1 W → Lk l x 1 2 W) := hide' (fun hm => by
    obtain ⟨y1, y2⟩ := hm.lk HE.out
    rw [HEw.out] at y1 y2
    rcases HL.out with rfl | rfl
    · exact y1
    · exact y2)
  have HMm : Hid (∀ {q tq D1 v1 v2 tr1 bad1 c1 f1 oo1 o1 oc1 W}, Mid E q tq D1 v1 v2 tr1 bad1 c1 f1 oo1 o1 oc1 W → Mem D1 w0.heap.size x [0, v1, v2] tr1 bad1 W) := hide' (fun hm => by have := hm.mem; rw [HEw.out] at this; exact this)
  have HC := hide' (ready_any (HMm.out HS.out) (HLk.out HS.out) HW.out (by simp))
  rw [show rdy [0, wrap64 (bg + (c : Nat)), wrap64 (bg + (f : Nat))] 2 (wrap64 (bg + tn)) true false = false by simp [rdy]; rw [HT.out]; exact fun z => HNE.out (HSW.out.1 z)] at HC
  clear h hi hE hEw hl z1 z3 htn hm hf hp hN
  go_enter Try.func21, Try.ntmps21
  go_wp2_with fail
  refine HC.out.mono ?_
  rintro e3 w4 ⟨rfl, b4⟩
  obtain ⟨q, hq⟩ : ∃ q, w.heap.size = q := ⟨_, rfl⟩
  have M4 := HS.out.below b4
  have W4 := HW.out.below b4
  rw [hq] at M4 ⊢
  have x0 : w4.cell? ⟨q, 0, none⟩ = some (.pointer (some ⟨b, 0, none⟩)) := M4.bx.e0
  have HM4 := hide' (And.intro M4 W4)
  have HC2 := hide' (step_any (HMm.out M4) (HLk.out M4) W4 (fun z => by cases z) (by have := HR.out.len; have := HN.out; omega))
  rw [show wO [0, wrap64 (bg + (c : Nat)), wrap64 (bg + (f : Nat))] 2 (wrap64 (bg + tn)) true false = false by unfold wO srv good; rw [(at4 HP.out).1, (at4 HP.out).2]; simp; rw [HT.out]; exact fun z => HNE.out (HSW.out.1 z), show wM [0, wrap64 (bg + (c : Nat)), wrap64 (bg + (f : Nat))] 1 true = [0, wrap64 (bg + (c : Nat)), wrap64 (bg + (f : Nat))] by simp [wM], show wT [0, wrap64 (bg + (c : Nat)), wrap64 (bg + (f : Nat))] 1 (wrap64 (bg + tn)) true = wrap64 (bg + tn) by simp [wT], show wH [0, wrap64 (bg + (c : Nat)), wrap64 (bg + (f : Nat))] 1 true = true by simp [wH]] at HC2
  clear HC b4 M4 W4 HS HW hq c2 c1 d0 d1 d2 d3 lr
  go_wp2_with fail
  refine HC2.out.mono ?_
  rintro e4 w5 ⟨rfl, k5⟩
  obtain ⟨D5, M5, W5⟩ := HM4.out.1.wto (u1 := wrap64 (bg + (c : Nat))) (u2 := wrap64 (bg + (f : Nat))) HM4.out.2 (.inl (by rw [HEw.out])) (by rw [HEw.out]; exact k5)
  have x0 : w5.cell? ⟨q, 0, none⟩ = some (.pointer (some ⟨b, 0, none⟩)) := M5.bx.e0
  have x1 : w5.cell? ⟨q, 1, none⟩ = some (.int .i64 tn) := M5.bx.e1
  have x2 : w5.cell? ⟨q, 2, none⟩ = some (.bool false) := M5.bx.e2
  have x3 := M5.bx.e3
  have fx : ∀ j, w5.frozen? ⟨q, j, none⟩ = false := fun j => M5.bx.fz j
  have y4 : w5.cell? ⟨r, 4, none⟩ = some (.int .i64 (f : Nat)) := by have := M5.rc4; rw [HEw.out] at this; exact this
  have nrq : r ≠ q := by have := M5.rq; rw [HEw.out] at this; exact this
  have nqr : q ≠ r := fun z => nrq z.symm
  have HM5 := hide' (And.intro M5 W5)
  clear HC2 k5 HM4 M5 W5
  go_wp2_with fail
  go_quiet (fail)
  have HM6 := hide' (And.intro (HM5.out.1.drewN nq) (show Wt b l (wrap64 (bg + tn)) true false (w5.drewN nq) from HM5.out.2))
  have fx : ∀ j, (w5.drewN nq).frozen? ⟨q, j, none⟩ = false := fx
  replace x0 : (w5.drewN nq).cell? ⟨q, 0, none⟩ = some (.pointer (some ⟨b, 0, none⟩)) := x0
  replace x1 : (w5.drewN nq).cell? ⟨q, 1, none⟩ = some (.int .i64 tn) := x1
  replace x2 : (w5.drewN nq).cell? ⟨q, 2, none⟩ = some (.bool false) := x2
  replace x3 : (w5.drewN nq).cell? ⟨q, 3, none⟩ = some (.int .i64 tst) := x3
  clear HM5 y4
  generalize w5.drewN nq = w6 at *
  have KX := hide' ((HM6.out.1.b2 false).b3 sy)
  have KW := hide' ((HM6.out.2.kept (turn_b q 2 (.bool false) w6) (fun z => cells_ne HM6.out.2 HM6.out.1.bx (by decide) z)).kept (turn_b q 3 (.int .i64 sy) _) (fun z => cells_ne HM6.out.2 HM6.out.1.bx (by decide) z))
  clear HM6
  go_wp2_with fail
  clear x0 x1 x2 x3 fx
  generalize (w6.setCell ⟨q, 2, none⟩ (.bool false)).setCell ⟨q, 3, none⟩ (.int .i64 sy) = W at *
  have KM := KX
  have cW : W.cell? ⟨r, 2, none⟩ = some (.slice (some ⟨g, 0, none⟩) ts.length tc) := by have := KM.out.rc2; rw [HEw.out] at this; exact this
  have gg : ∀ j, W.frozen? ⟨g, j, none⟩ = false := fun j => by have := KM.out.gf j; rw [HEw.out] at this; exact this
  have lgq : g < q := by have := KM.out.gq; rw [HEw.out] at this; exact this
  have hrow : W.ownsRow w0.heap.size 87 4 (.slice (some ⟨g, 0, none⟩) ts.length tc) ts.length (tks ts) := by have := KM.out.row; rw [HEw.out] at this; exact this
  obtain ⟨g0, g1, g2, g3⟩ := row_cells4 hrow hi0.out
  have e0 : W.cell? ⟨q, 0, none⟩ = some (.pointer (some ⟨b, 0, none⟩)) := KM.out.bx.e0
  have e1 : W.cell? ⟨q, 1, none⟩ = some (.int .i64 tn) := KM.out.bx.e1
  have e2 : W.cell? ⟨q, 2, none⟩ = some (.bool false) := KM.out.bx.e2
  have e3 : W.cell? ⟨q, 3, none⟩ = some (.int .i64 sy) := KM.out.bx.e3
  have HF := hide' (by
    have := KM.out.fin HE.out (N' := N + 1) (by rw [HEw.out]) (by rw [HEw.out]) (by have := HR.out.len; simp [wR]; omega) (fun b' hb' => by
      cases hb'
      rw [HEw.out]
      exact ⟨HB.out, .inl rfl, l, HL.out, KW.out⟩)
    rw [HEw.out] at this
    exact this)
  clear hrow
  clear KM KX KW HE HEw HR HL HP HLk HMm HT HSW HB HN
  go_region
  go_wp2
  go_ret
  exact ⟨rfl, _, _, _, _, _, Rm.drew HF.out⟩
set_option maxRecDepth 100000 in
set_option maxHeartbeats 4000000 in
theorem move_yes (i : Nat) (tn : Int) (m b : Nat) (tst : Int) (sy : Int) (h : Rm w0 bg N r x lb l1 l2 g tc ts c f o D tr bad oo oc w) (hi : ts[i]? = some ⟨some b, tn, false, tst⟩) (htn : tn = (m : Nat)) (hm : m < 1999999999998) (hf : f < 1999999999998) (hp : wrap64 (bg + (f : Nat)) ≠ P) (hN : N < 1999999999998) (hne : m = f) (hof : o = f) :
    Calls Try.prog 21 #[.pointer (some ⟨r, 0, none⟩), .int .i64 (i : Nat), .int .i64 sy] w fun e w' => e = .returned (.bool true) ∧ ∃ D' tr' bad' oo' oc', Rm w0 bg (N + 1) r x lb l1 l2 g tc (ts.set i ⟨some b, tn, true, sy⟩) c f (o + 1) D' tr' bad' oo' oc' w' := by
  have hil : i < ts.length := (List.getElem?_eq_some_iff.1 hi).1
  have hil' : (i : Int) < (ts.length : Int) := by omega
  have c2 : w.cell? ⟨r, 2, none⟩ = some (.slice (some ⟨g, 0, none⟩) ts.length tc) := by rw [Lib.cell_of_heap h.hr]; rfl
  have c1 : w.cell? ⟨r, 1, none⟩ = some (.slice (some ⟨lb, 0, none⟩) 2 2) := by rw [Lib.cell_of_heap h.hr]; rfl
  obtain ⟨d0, d1, d2, d3⟩ := row_cells4 h.row hi
  replace d0 : w.cell? ⟨g, i * 4, none⟩ = some (.pointer (some ⟨b, 0, none⟩)) := d0
  replace d1 : w.cell? ⟨g, i * 4 + 1, none⟩ = some (.int .i64 tn) := d1
  replace d2 : w.cell? ⟨g, i * 4 + 2, none⟩ = some (.bool false) := d2
  replace d3 : w.cell? ⟨g, i * 4 + 3, none⟩ = some (.int .i64 tst) := d3
  obtain ⟨E, hEw, hE⟩ : ∃ E : Env, E = ⟨w0, w, bg, N, r, x, lb, l1, l2, g, tc, ts, c, f, o, D, tr, bad, oo, oc, i, ⟨some b, tn, false, tst⟩⟩ ∧ E.Ok := ⟨_, rfl, h, hi⟩
  have HE := hide' hE
  have HEw := hide' hEw
  have HS : Hid (Mid E w.heap.size ⟨some b, tn, false, tst⟩ D (wrap64 (bg + (c : Nat))) (wrap64 (bg + (f : Nat))) tr bad c f oo o oc (w.alloc (.cells #[.pointer (some ⟨b, 0, none⟩), .int .i64 tn, .bool false, .int .i64 tst] 87))) := by have := Mid.start hE ⟨some b, tn, false, tst⟩; rw [hEw] at this ⊢; exact this
  have HR := hide' h
  have lr := lt_of_heap h.hr
  have HNE := hide' hne
  have dne : (tn == (f : Int)) = true := by rw [htn]; simp; omega
  have HO : Hid (tn = (o : Nat)) := hide' (by rw [htn]; omega)
  have n1 : Hid (o + 1 ≤ maxLen) := hide' (by unfold maxLen; omega)
  have n2 : Hid ((o + 1) * 8 ≤ 140737488355328) := hide' (by omega)
  clear hne hof
  have hi0 := hide' hi
  obtain ⟨z1, l, hl, z3⟩ := h.wt i _ b hi rfl
  have HL := hide' hl
  have HW : Hid (Wt b l (wrap64 (bg + tn)) true false (w.alloc (.cells #[.pointer (some ⟨b, 0, none⟩), .int .i64 tn, .bool false, .int .i64 tst] 87))) := hide' (z3.below ((Below.refl _ _).alloc (Nat.le_refl _) _))
  have HB := hide' z1
  have HN := hide' hN
  have HP := hide' hp
  have hn0 : ¬ (tn < 0) := by rw [htn]; omega
  have HT := hide' htn
  have HSW := hide' (same_wrap (bg := bg) hm hf)
  have HLk : Hid (∀ {q tq D1 v1 v2 tr1 bad1 c1 f1 oo1 o1 oc1 W}, Mid E q tq D1 v1 v2 tr1 bad1 c1 f1 oo1 o1 oc1 W → Lk l x 1 2 W) := hide' (fun hm => by
    obtain ⟨y1, y2⟩ := hm.lk HE.out
    rw [HEw.out] at y1 y2
    rcases HL.out with rfl | rfl
    · exact y1
    · exact y2)
  have HMm : Hid (∀ {q tq D1 v1 v2 tr1 bad1 c1 f1 oo1 o1 oc1 W}, Mid E q tq D1 v1 v2 tr1 bad1 c1 f1 oo1 o1 oc1 W → Mem D1 w0.heap.size x [0, v1, v2] tr1 bad1 W) := hide' (fun hm => by have := hm.mem; rw [HEw.out] at this; exact this)
  have HC := hide' (ready_any (HMm.out HS.out) (HLk.out HS.out) HW.out (by simp))
  rw [show rdy [0, wrap64 (bg + (c : Nat)), wrap64 (bg + (f : Nat))] 2 (wrap64 (bg + tn)) true false = true by simp [rdy]; rw [HT.out]; exact HSW.out.2 HNE.out] at HC
  clear h hi hE hEw hl z1 z3 htn hm hf hp hN
  go_enter Try.func21, Try.ntmps21
  go_wp2_with fail
  refine HC.out.mono ?_
  rintro e3 w4 ⟨rfl, b4⟩
  obtain ⟨q, hq⟩ : ∃ q, w.heap.size = q := ⟨_, rfl⟩
  have M4 := HS.out.below b4
  have W4 := HW.out.below b4
  rw [hq] at M4 ⊢
  have x0 : w4.cell? ⟨q, 0, none⟩ = some (.pointer (some ⟨b, 0, none⟩)) := M4.bx.e0
  have HM4 := hide' (And.intro M4 W4)
  have HC2 := hide' (step_any (HMm.out M4) (HLk.out M4) W4 (fun z => by cases z) (by have := HR.out.len; have := HN.out; omega))
  rw [show wO [0, wrap64 (bg + (c : Nat)), wrap64 (bg + (f : Nat))] 2 (wrap64 (bg + tn)) true false = true by unfold wO srv good; rw [(at4 HP.out).1, (at4 HP.out).2]; simp; rw [HT.out]; exact HSW.out.2 HNE.out, show wM [0, wrap64 (bg + (c : Nat)), wrap64 (bg + (f : Nat))] 1 true = [0, wrap64 (bg + (c : Nat)), wrap64 (bg + (f : Nat))] by simp [wM], show wT [0, wrap64 (bg + (c : Nat)), wrap64 (bg + (f : Nat))] 1 (wrap64 (bg + tn)) true = wrap64 (bg + tn) by simp [wT], show wH [0, wrap64 (bg + (c : Nat)), wrap64 (bg + (f : Nat))] 1 true = true by simp [wH]] at HC2
  clear HC b4 M4 W4 HS HW hq c2 c1 d0 d1 d2 d3 lr
  go_wp2_with fail
  refine HC2.out.mono ?_
  rintro e4 w5 ⟨rfl, k5⟩
  obtain ⟨D5, M5, W5⟩ := HM4.out.1.wto (u1 := wrap64 (bg + (c : Nat))) (u2 := wrap64 (bg + (f : Nat))) HM4.out.2 (.inl (by rw [HEw.out])) (by rw [HEw.out]; exact k5)
  have x0 : w5.cell? ⟨q, 0, none⟩ = some (.pointer (some ⟨b, 0, none⟩)) := M5.bx.e0
  have x1 : w5.cell? ⟨q, 1, none⟩ = some (.int .i64 tn) := M5.bx.e1
  have x2 : w5.cell? ⟨q, 2, none⟩ = some (.bool false) := M5.bx.e2
  have x3 := M5.bx.e3
  have fx : ∀ j, w5.frozen? ⟨q, j, none⟩ = false := fun j => M5.bx.fz j
  have y4 : w5.cell? ⟨r, 4, none⟩ = some (.int .i64 (f : Nat)) := by have := M5.rc4; rw [HEw.out] at this; exact this
  have nrq : r ≠ q := by have := M5.rq; rw [HEw.out] at this; exact this
  have nqr : q ≠ r := fun z => nrq z.symm
  have HM5 := hide' (And.intro M5 W5)
  clear HC2 k5 HM4 M5 W5
  go_wp2_with fail
  go_quiet (fail)
  have HM6 := hide' (And.intro (HM5.out.1.drewN nq) (show Wt b l (wrap64 (bg + tn)) true true (w5.drewN nq) from HM5.out.2))
  have fx : ∀ j, (w5.drewN nq).frozen? ⟨q, j, none⟩ = false := fx
  replace x0 : (w5.drewN nq).cell? ⟨q, 0, none⟩ = some (.pointer (some ⟨b, 0, none⟩)) := x0
  replace x1 : (w5.drewN nq).cell? ⟨q, 1, none⟩ = some (.int .i64 tn) := x1
  replace x2 : (w5.drewN nq).cell? ⟨q, 2, none⟩ = some (.bool false) := x2
  replace x3 : (w5.drewN nq).cell? ⟨q, 3, none⟩ = some (.int .i64 tst) := x3
  clear HM5 y4
  generalize w5.drewN nq = w6 at *
  have KX := hide' ((HM6.out.1.b2 true).b3 sy)
  have KW := hide' ((HM6.out.2.kept (turn_b q 2 (.bool true) w6) (fun z => cells_ne HM6.out.2 HM6.out.1.bx (by decide) z)).kept (turn_b q 3 (.int .i64 sy) _) (fun z => cells_ne HM6.out.2 HM6.out.1.bx (by decide) z))
  clear HM6
  go_wp2_with fail
  clear x0 x1 x2 x3 fx
  generalize (w6.setCell ⟨q, 2, none⟩ (.bool true)).setCell ⟨q, 3, none⟩ (.int .i64 sy) = W at *
  obtain ⟨i0, hi1, hz0, hz1, hz2⟩ := info_parts info3
  have c5 : W.cell? ⟨r, 5, none⟩ = some (.slice oo o oc) := by have := KX.out.rc5; rw [HEw.out] at this; exact this
  have f5 : W.frozen? ⟨r, 5, none⟩ = false := by have := KX.out.rf 5; rw [HEw.out] at this; exact this
  have row : W.ownsRow w0.heap.size 3 1 (.slice oo o oc) o (ivs ((List.range o).map fun (k : Nat) => (k : Int))) := by have := KX.out.ord; rw [HEw.out] at this; exact this
  have hrb : Rb r x lb g ts.length tc c f oo o oc W := by have := KX.out.hr; rw [HEw.out] at this; exact this
  have lt : r < W.heap.size := lt_of_heap hrb
  have ne : some r ≠ (Value.slice oo o oc).ownBlock := fun z => by
    obtain ⟨_, _, cs', h'⟩ := row_atk row (own_at z.symm)
    exact cells_ne hrb h' (by decide) rfl
  have hwB : w0.heap.size ≤ W.heap.size := by have := KX.out.mem.base; rw [HEw.out] at this; exact this
  have e1 : W.cell? ⟨q, 1, none⟩ = some (.int .i64 tn) := KX.out.bx.e1
  have ltq : q < W.heap.size := lt_of_heap KX.out.bx
  have new1 : ∀ o, (W.alloc o).drew.heap[W.heap.size]? = some o := fun o => heap_alloc_new W o
  have fal : ∀ o, (W.alloc o).drew.frozen? ⟨r, 5, none⟩ = false := fun o => (World.frozen?_of_block (w := W) (Below.heap_alloc _ _ _ lt)).trans f5
  have cal : ∀ o', (W.alloc o').drew.cell? ⟨r, 5, none⟩ = some (.slice oo o oc) := fun o' => (World.cell?_of_block (w := W) (Below.heap_alloc _ _ _ lt)).trans c5
  have eal : ∀ o', (W.alloc o').drew.cell? ⟨q, 1, none⟩ = some (.int .i64 tn) := fun o' => (World.cell?_of_block (w := W) (Below.heap_alloc _ _ _ ltq)).trans e1
  have HRB := hide' hrb
  clear hrb
  go_region_law ((refine step_append_lies _ (by rfl) _ _ _ (by rfl) w0.heap.size 3 i0 _ 1 8 Try.underlying55 hi1 hz0 hz1 hz2 rfl (by omega) (.slice oo o oc) o (ivs ((List.range o).map fun (k : Nat) => (k : Int))) (by rfl) ((row.alloc _).drew) ⟨W.heap.size, 0, none⟩ 1 1 [.int .i64 tn] (by rfl) (by rfl) (World.news_of_block (cs := #[.int .i64 tn]) (t := 3) (fr := (0, 0)) (new1 _)) (by simp [Value.oneCell']) (by omega) n1.out n2.out (by simp; omega) (W.heap.size + 1) (by simp) ?_; intro gg cap' w1 hown1 hgrow hat hlt; have a0 := (hgrow.cell_far ⟨r, 5, none⟩ (by simp; omega) ne).trans (cal _); have a0f := (hgrow.frozen_far ⟨r, 5, none⟩ (by simp; omega) ne).trans (fal _)))
  all_goals
    have hb0 : Below W.heap.size W (W.alloc (.cells #[.int .i64 tn] 3)).drew := ((Below.refl _ _).alloc (Nat.le_refl _) _).drew
    have tW : Turn (fun j => At oo j ∨ j = r) W (w1.setCell ⟨r, 5, none⟩ (.slice (some ⟨gg, 0, none⟩) (o + 1) cap')) := (((turn_below hb0).grown hgrow (fun k hk _ => own_at hk)).mono (fun j _ z => .inl z)).trans ((turn_b r 5 _ w1).mono (fun j _ z => .inr z))
    have KW2 := hide' (KW.out.kept tW (fun z => by
      rcases z with z | z
      · obtain ⟨_, _, cs', h'⟩ := row_atk row z
        exact cells_ne KW.out h' (by decide) rfl
      · exact cells_ne KW.out HRB.out (by decide) z))
    have KY : Hid (Mid E q ⟨some b, tn, true, sy⟩ D5 (wrap64 (bg + (c : Nat))) (wrap64 (bg + (f : Nat))) (tr ++ wR [0, wrap64 (bg + (c : Nat)), wrap64 (bg + (f : Nat))] 1 2 true false) (bad + wB [0, wrap64 (bg + (c : Nat)), wrap64 (bg + (f : Nat))] 1 2 true false) c f (some ⟨gg, 0, none⟩) (o + 1) cap' (w1.setCell ⟨r, 5, none⟩ (.slice (some ⟨gg, 0, none⟩) (o + 1) cap'))) := by
      have hown2 := hown1
      rw [show ([.int .i64 tn] : List Value) = [.int .i64 (o : Nat)] by rw [HO.out]] at hown2
      have := KX.out.ordered hb0 (by rw [HEw.out]; exact hown2) hgrow (by simpa using hat)
      rw [HEw.out] at this ⊢
      exact this
    clear hb0 tW KW KX a0 a0f hown1 hgrow hat hlt c5 f5 fal cal eal e1 ltq row ne new1 lt
    generalize (w1.setCell ⟨r, 5, none⟩ (.slice (some ⟨gg, 0, none⟩) (o + 1) cap')) = V at *
    go_wp2_with fail
    have KM := KY
    have cW : V.cell? ⟨r, 2, none⟩ = some (.slice (some ⟨g, 0, none⟩) ts.length tc) := by have := KM.out.rc2; rw [HEw.out] at this; exact this
    have gg : ∀ j, V.frozen? ⟨g, j, none⟩ = false := fun j => by have := KM.out.gf j; rw [HEw.out] at this; exact this
    have lgq : g < q := by have := KM.out.gq; rw [HEw.out] at this; exact this
    have hrow : V.ownsRow w0.heap.size 87 4 (.slice (some ⟨g, 0, none⟩) ts.length tc) ts.length (tks ts) := by have := KM.out.row; rw [HEw.out] at this; exact this
    obtain ⟨g0, g1, g2, g3⟩ := row_cells4 hrow hi0.out
    have e0 : V.cell? ⟨q, 0, none⟩ = some (.pointer (some ⟨b, 0, none⟩)) := KM.out.bx.e0
    have e1 : V.cell? ⟨q, 1, none⟩ = some (.int .i64 tn) := KM.out.bx.e1
    have e2 : V.cell? ⟨q, 2, none⟩ = some (.bool true) := KM.out.bx.e2
    have e3 : V.cell? ⟨q, 3, none⟩ = some (.int .i64 sy) := KM.out.bx.e3
    have HF := hide' (by
      have := KM.out.fin HE.out (N' := N + 1) (by rw [HEw.out]) (by rw [HEw.out]) (by have := HR.out.len; simp [wR]; omega) (fun b' hb' => by
        cases hb'
        rw [HEw.out]
        exact ⟨HB.out, .inl rfl, l, HL.out, KW2.out⟩)
      rw [HEw.out] at this
      exact this)
    clear hrow
    clear KM KY KW2 HE HEw HR HL HP HLk HMm HT HSW HB HN HRB HO n1 n2 HNE
    go_region
    go_wp2
    go_ret
    exact ⟨rfl, _, _, _, _, _, Rm.drew HF.out⟩
end T
end Go.Proofs.Ytnpdmeeolcjmlaa
