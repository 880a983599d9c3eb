import Derived.Test.YtpacooibmdbeaaaGts
set_option linter.unusedVariables false
set_option linter.unusedSimpArgs false
namespace Go.Proofs.Ytpacooibmdbeaaa
open Go.RowKit
namespace K
open C (lst stp)
theorem Jc.start {n m : Int} (w w1 w2 w3 w4 : World) (ca : C.Ct (fun j => j = w.heap.size) w.heap.size w.heap.size n [] w1) (b1 : Below w.heap.size w w1) (e1 : w1.heap.size = w.heap.size + 1)
    (cb : C.Ct (fun j => j = w1.heap.size) w.heap.size w1.heap.size m [] w2) (b2 : Below w1.heap.size w1 w2) (e2 : w2.heap.size = w1.heap.size + 1)
    (cx : R.Ct (fun j => j = w2.heap.size) w.heap.size w2.heap.size n [] w3) (b3 : Below w2.heap.size w2 w3) (e3 : w3.heap.size = w2.heap.size + 1)
    (cy : R.Ct (fun j => j = w3.heap.size) w.heap.size w3.heap.size m [] w4) (b4 : Below w3.heap.size w3 w4) : Jc w n m w.heap.size w1.heap.size w2.heap.size w3.heap.size (fun j => j = w.heap.size) (fun j => j = w1.heap.size) (fun j => j = w2.heap.size) (fun j => j = w3.heap.size) [] [] [] [] w4 := by
  have t2 : Turn (fun _ => False) w1 w2 := turn_below b2
  have t3 : Turn (fun _ => False) w2 w3 := turn_below b3
  have t4 : Turn (fun _ => False) w3 w4 := turn_below b4
  have nf : ∀ j : Nat, ¬ (fun _ : Nat => False) j := fun _ q => q
  refine ⟨((ca.kept t2 (fun j _ => nf j)).kept t3 (fun j _ => nf j)).kept t4 (fun j _ => nf j), (cb.kept t3 (fun j _ => nf j)).kept t4 (fun j _ => nf j), cx.kept t4 (fun j _ => nf j), cy, ?_, ?_, ?_, ?_, ?_, ?_, ((b1.trans (b2.mono (by omega))).trans (b3.mono (by omega))).trans (b4.mono (by omega))⟩ <;> (intro j (h1 : j = _) (h2 : j = _); omega)
theorem step_alloc {a b : World} {o : Obj} (h : Below a.heap.size a b) : Below a.heap.size a (b.alloc o) := h.alloc h.size o
theorem step_nxt {a b c : World} (h : Below a.heap.size a b) (k : A.Nxt b c) : Below a.heap.size a c := h.trans (k.out.mono h.size)
set_option maxRecDepth 100000 in
set_option maxHeartbeats 8000000 in
theorem counter_walk (n m : Int) (na : Option Addr) (nc : Nat) (ns : List Int) (w : World) (hI : Ints w na ns) (hl : ns.length ≤ 17592186043904) : Calls Try.prog 4 #[.int .i64 n, .int .i64 m, .slice na ns.length nc] w fun e w' => e = .returned (.bool true) ∧ Below w.heap.size w w' := by
  have HI := hide' hI
  have HL := hide' hl
  have E1 : Hid (∀ k : Nat, k ≤ 17592186043904 → wrap64 ((k : Int) + 1) = (k : Int) + 1) := hide' (fun k hk => wrap_in (by omega) (by omega))
  clear hI hl
  go_enter Try.func4, Try.ntmps4
  go_wp2_with fail
  refine (C.new_ct (B := w.heap.size) n w (Nat.le_refl _)).mono ?_
  rintro e w1 ⟨rfl, c1, b1, z1⟩
  have A1 := hide' (And.intro c1 (And.intro b1 z1))
  clear c1 b1 z1
  go_wp2_with fail
  refine (C.new_ct (B := w.heap.size) m w1 A1.out.2.1.size).mono ?_
  rintro e w2 ⟨rfl, c2, b2, z2⟩
  have A2 := hide' (And.intro c2 (And.intro b2 z2))
  clear c2 b2 z2
  go_wp2_with fail
  refine (R.new_ct (B := w.heap.size) n w2 (Nat.le_trans A1.out.2.1.size A2.out.2.1.size)).mono ?_
  rintro e w3 ⟨rfl, c3, b3, z3⟩
  have A3 := hide' (And.intro c3 (And.intro b3 z3))
  clear c3 b3 z3
  go_wp2_with fail
  refine (R.new_ct (B := w.heap.size) m w3 (Nat.le_trans (Nat.le_trans A1.out.2.1.size A2.out.2.1.size) A3.out.2.1.size)).mono ?_
  rintro e w4 ⟨rfl, c4, b4, z4⟩
  have J0 := hide' (Jc.start w w1 w2 w3 w4 A1.out.1 A1.out.2.1 A1.out.2.2 A2.out.1 A2.out.2.1 A2.out.2.2 A3.out.1 A3.out.2.1 A3.out.2.2 c4 b4)
  clear c4 b4 z4 A1 A2 A3
  obtain ⟨N, hN⟩ : ∃ N, max n 1 = N := ⟨_, rfl⟩
  obtain ⟨M, hM⟩ : ∃ M, max m 1 = M := ⟨_, rfl⟩
  rw [hN, hM] at J0
  have HNM : Hid (0 ≤ N ∧ 0 ≤ M) := hide' (by omega)
  clear hN hM
  generalize w1.heap.size = cb at *
  generalize w2.heap.size = xa at *
  generalize w3.heap.size = xb at *
  go_wp2_with fail
  go_loopw [11] (fun i wx => ∃ (k : Nat) (Da Db Dx Dy : Nat → Prop) (ts us : List Int), i = .int .i64 (k : Int) ∧ k ≤ ns.length ∧ Jc w N M w.heap.size cb xa xb Da Db Dx Dy ts us ts us wx ∧ ts.length ≤ k ∧ us.length ≤ k ∧ (ts.length : Int) ≤ N ∧ (us.length : Int) ≤ M) (fun i _ => ns.length - (intOf i).toNat)
  case atStart => exact ⟨0, _, _, _, _, [], [], rfl, Nat.zero_le _, J0.out, Nat.le_refl _, Nat.le_refl _, by simpa using HNM.out.1, by simpa using HNM.out.2⟩
  case round =>
    obtain ⟨k, Da, Db, Dx, Dy, ts, us, rfl, hk, hJ, l1, l2, l3, l4⟩ := hrel
    have HJ := hide' hJ
    have HK := hide' (And.intro l1 (And.intro l2 (And.intro l3 l4)))
    clear l1 l2 l3 l4 J0
    by_cases hlt : k < ns.length
    · have hlt' : (k : Int) < (ns.length : Int) := by omega
      have Hlt := hide' hlt
      have e1 := E1.out k (by have := HL.out; omega)
      have Hend := hide' (msr' hlt _ e1)
      obtain ⟨nb, no, hna, hn0⟩ : ∃ b off, na = some ⟨b, off, none⟩ ∧ ∀ wx, Below w.heap.size w wx → wx.cell? ⟨b, off + k, none⟩ = some (.int .i64 (ns.getD k 0)) := by
        rcases HI.out with q | ⟨b, off, ha, hb, hc⟩
        · rw [q] at hlt; simp at hlt
        · exact ⟨b, off, ha, fun wx bx => (bx.cell (p := ⟨b, off + k, none⟩) hb).trans (hc k hlt)⟩
      obtain ⟨v, hv⟩ : ∃ v, ns.getD k 0 = v := ⟨_, rfl⟩
      rw [hv] at hn0
      have HN := hide' hn0
      subst hna
      have i1 := HN.out _ hJ.bel
      clear hv hn0 hJ hk
      by_cases hpar : k % 2 = 1
      · have hm1 : (k : Int) % 2 = 1 := by omega
        clear hpar
        go_wp2_with fail
        refine (R.step_any v HJ.out.y HJ.out.bel.size (by have := HK.out.2.1; have := Hlt.out; have := HL.out; omega) HK.out.2.2.2).mono ?_
        rintro e w5 ⟨rfl, t5⟩
        obtain ⟨D5, hJ5⟩ := HJ.out.sy t5
        have HJ5 := hide' hJ5
        have i5 := HN.out _ hJ5.bel
        clear t5 hJ5 i1
        go_wp2_with fail
        refine (C.step_any v HJ5.out.b HJ5.out.bel.size (by have := HK.out.2.1; have := Hlt.out; have := HL.out; omega)).mono ?_
        rintro e w6 ⟨rfl, t6⟩
        obtain ⟨D6, hJ6⟩ := HJ5.out.sb t6
        have HJ6 := hide' hJ6
        have HK6 : Hid (ts.length ≤ k + 1 ∧ (stp M us v).length ≤ k + 1 ∧ (ts.length : Int) ≤ N ∧ ((stp M us v).length : Int) ≤ M) := hide' ⟨by have := HK.out.1; omega, by have := HK.out.2.1; have := stp_len M us v; omega, HK.out.2.2.1, stp_le v HK.out.2.2.2⟩
        clear t6 hJ6 HJ5 HJ HK
        generalize stp M us v = vs at *
        generalize lst M vs = bo at *
        by_cases hmid : k = ns.length / 2
        · have e9 : wrap64 ((ns.length : Int) / 2) = (k : Int) := by rw [wrap_in (by have := HL.out; omega) (by have := HL.out; omega)]; omega
          obtain ⟨xo, xc, hx, hdx⟩ := HJ6.out.x
          obtain ⟨yo, yc, hy, hdy⟩ := HJ6.out.y
          have cx := hx.c1
          have cy := hy.c1
          have PX : Hid (∀ wz, Below w6.heap.size w6 wz → wz.cell? ⟨xa, 2, none⟩ = some (.slice xo ts.length xc) ∧ wz.cell? ⟨xb, 2, none⟩ = some (.slice yo vs.length yc)) := hide' (fun wz b => ⟨(b.cell (p := ⟨xa, 2, none⟩) hx.lt).trans cx, (b.cell (p := ⟨xb, 2, none⟩) hy.lt).trans cy⟩)
          have SZ : Hid (∀ W, ((W.cell? ⟨xa, 2, none⟩ = some (.slice xo ts.length xc) ∧ W.cell? ⟨xb, 2, none⟩ = some (.slice yo vs.length yc)) ∧ Below w6.heap.size w6 W) → w6.heap.size ≤ W.heap.size ∧ (Ints W xo ts ∧ ∀ j, At xo j → j < w6.heap.size) ∧ (Ints W yo vs ∧ ∀ j, At yo j → j < w6.heap.size)) := hide' (fun W q => ⟨q.2.size, ⟨(Ints.of_row hx.row).below q.2, fun j hj => (hx.at hj).2.2⟩, ⟨(Ints.of_row hy.row).below q.2, fun j hj => (hy.at hj).2.2⟩⟩)
          have HLL : Hid (ts.length ≤ 17592186043904 ∧ vs.length ≤ 17592186043904) := hide' (by have := HK6.out; have := Hlt.out; have := HL.out; omega)
          clear hx hy hdx hdy
          clear hmid
          go_wp2_with fail
          have S0 : w6.drew.cell? ⟨xa, 2, none⟩ = some (.slice xo ts.length xc) ∧ w6.drew.cell? ⟨xb, 2, none⟩ = some (.slice yo vs.length yc) := ⟨cx, cy⟩
          have G0 : A.Got w6.heap.size [] w6.drew := A.Got.nil (Nat.le_refl _)
          go_region_held3 (fun w' => (w'.cell? ⟨xa, 2, none⟩ = some (.slice xo ts.length xc) ∧ w'.cell? ⟨xb, 2, none⟩ = some (.slice yo vs.length yc)) ∧ Below w6.heap.size w6 w') (first | exact ⟨S0, (Below.refl _ _).drew⟩ | assumption | (exact (fun q => And.intro (PX.out _ q) q) (step_alloc (And.right (by assumption))))) (first | (go_at_call_of 19 (Value.pointer (some ⟨cb, 0, none⟩)); refine (times_got (s := w6.heap.size) (HJ6.out.below (And.right (by assumption))).b HLL.out.2 (by first | assumption | exact A.Got.alloc (by assumption) | exact A.Got.alloc (A.Got.alloc (by assumption)))).mono ?_; rintro e wt ⟨rt, rfl, hGt, hNt⟩; simp only [List.nil_append, List.cons_append] at hGt; have hSt := (fun q => And.intro (PX.out _ q) q) (step_nxt (And.right (by assumption)) hNt)) | (go_at_call 19; refine (times_got (s := w6.heap.size) (HJ6.out.below (And.right (by assumption))).a HLL.out.1 (by first | assumption | exact A.Got.alloc (by assumption) | exact A.Got.alloc (A.Got.alloc (by assumption)))).mono ?_; rintro e wt ⟨rt, rfl, hGt, hNt⟩; simp only [List.nil_append, List.cons_append] at hGt; have hSt := (fun q => And.intro (PX.out _ q) q) (step_nxt (And.right (by assumption)) hNt)) | (go_at_call 18; refine (A.four_got (s := w6.heap.size) (rx := ⟨xo, ts.length, xc⟩) (ry := ⟨yo, vs.length, yc⟩) (by first | assumption | exact A.Got.alloc (by assumption) | exact A.Got.alloc (A.Got.alloc (by assumption))) (by first | (refine A.kvc ?_; (repeat (first | exact A.nxt_refl _ | refine A.nxt_alloc ?_ | refine A.nxt_hyp ?_ (by assumption))); done) | (refine A.kvd ?_; (repeat (first | exact A.nxt_refl _ | refine A.nxt_alloc ?_ | refine A.nxt_hyp ?_ (by assumption))); done) | exact A.kv1 (A.nxt_refl _)) (by first | (refine A.kvc ?_; (repeat (first | exact A.nxt_refl _ | refine A.nxt_alloc ?_ | refine A.nxt_hyp ?_ (by assumption))); done) | (refine A.kvd ?_; (repeat (first | exact A.nxt_refl _ | refine A.nxt_alloc ?_ | refine A.nxt_hyp ?_ (by assumption))); done) | exact A.kv1 (A.nxt_refl _)) ⟨(SZ.out _ (by assumption)).2.1.1, rfl, (SZ.out _ (by assumption)).2.1.2⟩ ⟨(SZ.out _ (by assumption)).2.2.1, rfl, (SZ.out _ (by assumption)).2.2.2⟩ HLL.out.1 HLL.out.2).mono ?_; rintro e wz ⟨rfl, bz⟩; have hSz := (fun q => And.intro (PX.out _ q) q) (Below.trans (And.right (by assumption)) bz)))
          all_goals (go_wp2_with fail; exact ⟨⟨k + 1, _, _, _, _, _, _, by first | rfl | (rw [e1]; rfl), Hlt.out, HJ6.out.below (And.right (by assumption)), HK6.out⟩, by first | exact Hend.out | (rw [← e1]; exact Hend.out)⟩)
        · obtain ⟨h, hh⟩ : ∃ h : Nat, ns.length / 2 = h := ⟨_, rfl⟩
          have e9 : wrap64 ((ns.length : Int) / 2) = (h : Int) := by rw [wrap_in (by have := HL.out; omega) (by have := HL.out; omega)]; omega
          have hne : ¬ (k : Int) = (h : Int) := by omega
          clear hmid hh
          go_wp2_with fail
          exact ⟨⟨k + 1, _, _, _, _, _, _, by first | rfl | (rw [e1]; rfl), Hlt.out, HJ6.out, HK6.out⟩, by first | exact Hend.out | (rw [← e1]; exact Hend.out)⟩
      · have hm1 : ¬ (k : Int) % 2 = 1 := by omega
        clear hpar
        go_wp2_with fail
        refine (R.step_any v HJ.out.x HJ.out.bel.size (by have := HK.out.1; have := Hlt.out; have := HL.out; omega) HK.out.2.2.1).mono ?_
        rintro e w5 ⟨rfl, t5⟩
        obtain ⟨D5, hJ5⟩ := HJ.out.sx t5
        have HJ5 := hide' hJ5
        have i5 := HN.out _ hJ5.bel
        clear t5 hJ5 i1
        go_wp2_with fail
        refine (C.step_any v HJ5.out.a HJ5.out.bel.size (by have := HK.out.1; have := Hlt.out; have := HL.out; omega)).mono ?_
        rintro e w6 ⟨rfl, t6⟩
        obtain ⟨D6, hJ6⟩ := HJ5.out.sa t6
        have HJ6 := hide' hJ6
        have HK6 : Hid ((stp N ts v).length ≤ k + 1 ∧ us.length ≤ k + 1 ∧ ((stp N ts v).length : Int) ≤ N ∧ (us.length : Int) ≤ M) := hide' ⟨by have := HK.out.1; have := stp_len N ts v; omega, by have := HK.out.2.1; omega, stp_le v HK.out.2.2.1, HK.out.2.2.2⟩
        clear t6 hJ6 HJ5 HJ HK
        generalize stp N ts v = vs at *
        generalize lst N vs = bo at *
        by_cases hmid : k = ns.length / 2
        · have e9 : wrap64 ((ns.length : Int) / 2) = (k : Int) := by rw [wrap_in (by have := HL.out; omega) (by have := HL.out; omega)]; omega
          obtain ⟨xo, xc, hx, hdx⟩ := HJ6.out.x
          obtain ⟨yo, yc, hy, hdy⟩ := HJ6.out.y
          have cx := hx.c1
          have cy := hy.c1
          have PX : Hid (∀ wz, Below w6.heap.size w6 wz → wz.cell? ⟨xa, 2, none⟩ = some (.slice xo vs.length xc) ∧ wz.cell? ⟨xb, 2, none⟩ = some (.slice yo us.length yc)) := hide' (fun wz b => ⟨(b.cell (p := ⟨xa, 2, none⟩) hx.lt).trans cx, (b.cell (p := ⟨xb, 2, none⟩) hy.lt).trans cy⟩)
          have SZ : Hid (∀ W, ((W.cell? ⟨xa, 2, none⟩ = some (.slice xo vs.length xc) ∧ W.cell? ⟨xb, 2, none⟩ = some (.slice yo us.length yc)) ∧ Below w6.heap.size w6 W) → w6.heap.size ≤ W.heap.size ∧ (Ints W xo vs ∧ ∀ j, At xo j → j < w6.heap.size) ∧ (Ints W yo us ∧ ∀ j, At yo j → j < w6.heap.size)) := hide' (fun W q => ⟨q.2.size, ⟨(Ints.of_row hx.row).below q.2, fun j hj => (hx.at hj).2.2⟩, ⟨(Ints.of_row hy.row).below q.2, fun j hj => (hy.at hj).2.2⟩⟩)
          have HLL : Hid (vs.length ≤ 17592186043904 ∧ us.length ≤ 17592186043904) := hide' (by have := HK6.out; have := Hlt.out; have := HL.out; omega)
          clear hx hy hdx hdy
          clear hmid
          go_wp2_with fail
          have S0 : w6.drew.cell? ⟨xa, 2, none⟩ = some (.slice xo vs.length xc) ∧ w6.drew.cell? ⟨xb, 2, none⟩ = some (.slice yo us.length yc) := ⟨cx, cy⟩
          have G0 : A.Got w6.heap.size [] w6.drew := A.Got.nil (Nat.le_refl _)
          go_region_held3 (fun w' => (w'.cell? ⟨xa, 2, none⟩ = some (.slice xo vs.length xc) ∧ w'.cell? ⟨xb, 2, none⟩ = some (.slice yo us.length yc)) ∧ Below w6.heap.size w6 w') (first | exact ⟨S0, (Below.refl _ _).drew⟩ | assumption | (exact (fun q => And.intro (PX.out _ q) q) (step_alloc (And.right (by assumption))))) (first | (go_at_call_of 19 (Value.pointer (some ⟨cb, 0, none⟩)); refine (times_got (s := w6.heap.size) (HJ6.out.below (And.right (by assumption))).b HLL.out.2 (by first | assumption | exact A.Got.alloc (by assumption) | exact A.Got.alloc (A.Got.alloc (by assumption)))).mono ?_; rintro e wt ⟨rt, rfl, hGt, hNt⟩; simp only [List.nil_append, List.cons_append] at hGt; have hSt := (fun q => And.intro (PX.out _ q) q) (step_nxt (And.right (by assumption)) hNt)) | (go_at_call 19; refine (times_got (s := w6.heap.size) (HJ6.out.below (And.right (by assumption))).a HLL.out.1 (by first | assumption | exact A.Got.alloc (by assumption) | exact A.Got.alloc (A.Got.alloc (by assumption)))).mono ?_; rintro e wt ⟨rt, rfl, hGt, hNt⟩; simp only [List.nil_append, List.cons_append] at hGt; have hSt := (fun q => And.intro (PX.out _ q) q) (step_nxt (And.right (by assumption)) hNt)) | (go_at_call 18; refine (A.four_got (s := w6.heap.size) (rx := ⟨xo, vs.length, xc⟩) (ry := ⟨yo, us.length, yc⟩) (by first | assumption | exact A.Got.alloc (by assumption) | exact A.Got.alloc (A.Got.alloc (by assumption))) (by first | (refine A.kvc ?_; (repeat (first | exact A.nxt_refl _ | refine A.nxt_alloc ?_ | refine A.nxt_hyp ?_ (by assumption))); done) | (refine A.kvd ?_; (repeat (first | exact A.nxt_refl _ | refine A.nxt_alloc ?_ | refine A.nxt_hyp ?_ (by assumption))); done) | exact A.kv1 (A.nxt_refl _)) (by first | (refine A.kvc ?_; (repeat (first | exact A.nxt_refl _ | refine A.nxt_alloc ?_ | refine A.nxt_hyp ?_ (by assumption))); done) | (refine A.kvd ?_; (repeat (first | exact A.nxt_refl _ | refine A.nxt_alloc ?_ | refine A.nxt_hyp ?_ (by assumption))); done) | exact A.kv1 (A.nxt_refl _)) ⟨(SZ.out _ (by assumption)).2.1.1, rfl, (SZ.out _ (by assumption)).2.1.2⟩ ⟨(SZ.out _ (by assumption)).2.2.1, rfl, (SZ.out _ (by assumption)).2.2.2⟩ HLL.out.1 HLL.out.2).mono ?_; rintro e wz ⟨rfl, bz⟩; have hSz := (fun q => And.intro (PX.out _ q) q) (Below.trans (And.right (by assumption)) bz)))
          all_goals (go_wp2_with fail; exact ⟨⟨k + 1, _, _, _, _, _, _, by first | rfl | (rw [e1]; rfl), Hlt.out, HJ6.out.below (And.right (by assumption)), HK6.out⟩, by first | exact Hend.out | (rw [← e1]; exact Hend.out)⟩)
        · obtain ⟨h, hh⟩ : ∃ h : Nat, ns.length / 2 = h := ⟨_, rfl⟩
          have e9 : wrap64 ((ns.length : Int) / 2) = (h : Int) := by rw [wrap_in (by have := HL.out; omega) (by have := HL.out; omega)]; omega
          have hne : ¬ (k : Int) = (h : Int) := by omega
          clear hmid hh
          go_wp2_with fail
          exact ⟨⟨k + 1, _, _, _, _, _, _, by first | rfl | (rw [e1]; rfl), Hlt.out, HJ6.out, HK6.out⟩, by first | exact Hend.out | (rw [← e1]; exact Hend.out)⟩
    · have hlt' : ¬ (k : Int) < (ns.length : Int) := by omega
      have HKE : Hid (k ≤ ns.length) := hide' hk
      have hW := hide' hJ.bel
      clear hJ hk hlt
      obtain ⟨xo, xc, hx, hdx⟩ := HJ.out.x
      obtain ⟨yo, yc, hy, hdy⟩ := HJ.out.y
      have cx := hx.c1
      have cy := hy.c1
      have PX : Hid (∀ wz, Below wr.heap.size wr wz → wz.cell? ⟨xa, 2, none⟩ = some (.slice xo ts.length xc) ∧ wz.cell? ⟨xb, 2, none⟩ = some (.slice yo us.length yc)) := hide' (fun wz b => ⟨(b.cell (p := ⟨xa, 2, none⟩) hx.lt).trans cx, (b.cell (p := ⟨xb, 2, none⟩) hy.lt).trans cy⟩)
      have SZ : Hid (∀ W, ((W.cell? ⟨xa, 2, none⟩ = some (.slice xo ts.length xc) ∧ W.cell? ⟨xb, 2, none⟩ = some (.slice yo us.length yc)) ∧ Below wr.heap.size wr W) → wr.heap.size ≤ W.heap.size ∧ (Ints W xo ts ∧ ∀ j, At xo j → j < wr.heap.size) ∧ (Ints W yo us ∧ ∀ j, At yo j → j < wr.heap.size)) := hide' (fun W q => ⟨q.2.size, ⟨(Ints.of_row hx.row).below q.2, fun j hj => (hx.at hj).2.2⟩, ⟨(Ints.of_row hy.row).below q.2, fun j hj => (hy.at hj).2.2⟩⟩)
      have HLL : Hid (ts.length ≤ 17592186043904 ∧ us.length ≤ 17592186043904) := hide' (by have := HK.out; have := HKE.out; have := HL.out; omega)
      clear hx hy hdx hdy
      go_wp2_with fail
      have S0 : wr.drew.cell? ⟨xa, 2, none⟩ = some (.slice xo ts.length xc) ∧ wr.drew.cell? ⟨xb, 2, none⟩ = some (.slice yo us.length yc) := ⟨cx, cy⟩
      have G0 : A.Got wr.heap.size [] wr.drew := A.Got.nil (Nat.le_refl _)
      go_region_held3 (fun w' => (w'.cell? ⟨xa, 2, none⟩ = some (.slice xo ts.length xc) ∧ w'.cell? ⟨xb, 2, none⟩ = some (.slice yo us.length yc)) ∧ Below wr.heap.size wr w') (first | exact ⟨S0, (Below.refl _ _).drew⟩ | assumption | (exact (fun q => And.intro (PX.out _ q) q) (step_alloc (And.right (by assumption))))) (first | (go_at_call_of 19 (Value.pointer (some ⟨cb, 0, none⟩)); refine (times_got (s := wr.heap.size) (HJ.out.below (And.right (by assumption))).b HLL.out.2 (by first | assumption | exact A.Got.alloc (by assumption) | exact A.Got.alloc (A.Got.alloc (by assumption)) | exact A.Got.nil (SZ.out _ (by assumption)).1)).mono ?_; rintro e wt ⟨rt, rfl, hGt, hNt⟩; simp only [List.nil_append, List.cons_append] at hGt; have hSt := (fun q => And.intro (PX.out _ q) q) (step_nxt (And.right (by assumption)) hNt)) | (go_at_call 19; refine (times_got (s := wr.heap.size) (HJ.out.below (And.right (by assumption))).a HLL.out.1 (by first | assumption | exact A.Got.alloc (by assumption) | exact A.Got.alloc (A.Got.alloc (by assumption)) | exact A.Got.nil (SZ.out _ (by assumption)).1)).mono ?_; rintro e wt ⟨rt, rfl, hGt, hNt⟩; simp only [List.nil_append, List.cons_append] at hGt; have hSt := (fun q => And.intro (PX.out _ q) q) (step_nxt (And.right (by assumption)) hNt)) | (go_at_call 18; refine (A.six_got (s := wr.heap.size) (rx := ⟨xo, ts.length, xc⟩) (ry := ⟨yo, us.length, yc⟩) (by first | assumption | exact A.Got.alloc (by assumption) | exact A.Got.alloc (A.Got.alloc (by assumption))) (by first | (refine A.kvc ?_; (repeat (first | exact A.nxt_refl _ | refine A.nxt_alloc ?_ | refine A.nxt_hyp ?_ (by assumption))); done) | (refine A.kvd ?_; (repeat (first | exact A.nxt_refl _ | refine A.nxt_alloc ?_ | refine A.nxt_hyp ?_ (by assumption))); done) | exact A.kv1 (A.nxt_refl _)) (by first | (refine A.kvc ?_; (repeat (first | exact A.nxt_refl _ | refine A.nxt_alloc ?_ | refine A.nxt_hyp ?_ (by assumption))); done) | (refine A.kvd ?_; (repeat (first | exact A.nxt_refl _ | refine A.nxt_alloc ?_ | refine A.nxt_hyp ?_ (by assumption))); done) | exact A.kv1 (A.nxt_refl _)) ⟨(SZ.out _ (by assumption)).2.1.1, rfl, (SZ.out _ (by assumption)).2.1.2⟩ ⟨(SZ.out _ (by assumption)).2.2.1, rfl, (SZ.out _ (by assumption)).2.2.2⟩ HLL.out.1 HLL.out.2).mono ?_; rintro e wz ⟨rfl, bz⟩; have hSz := (fun q => And.intro (PX.out _ q) q) (Below.trans (And.right (by assumption)) bz)) | (go_at_call 20; refine (same_got (s := wr.heap.size) (by assumption) (SZ.out _ (by assumption)).2.1.1 HLL.out.1).mono ?_; rintro e wz ⟨rfl, hNz⟩; have hSz := (fun q => And.intro (PX.out _ q) q) (step_nxt (And.right (by assumption)) hNz)))
      all_goals (go_wp2_with fail; go_ret; exact ⟨rfl, Below.trans hW.out (Below.mono hSz.2 hW.out.size)⟩)
end K
end Go.Proofs.Ytpacooibmdbeaaa
