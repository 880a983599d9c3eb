import Derived.Test.YtifbppjmdjdjbaaOps3
set_option linter.unusedVariables false
set_option linter.unusedSimpArgs false
namespace Go.Proofs.Ytifbppjmdjdjbaa
open Go.RowKit
/-- eight sets of one room -/
structure A8 (w0 : World) (R : Nat) (x g : Nat → Nat) (p0 p1 p2 p3 p4 p5 p6 p7 : Nat → Bool) (w : World) : Prop where
  b0 : Bs (x 0) (g 0) R p0 w
  b1 : Bs (x 1) (g 1) R p1 w
  b2 : Bs (x 2) (g 2) R p2 w
  b3 : Bs (x 3) (g 3) R p3 w
  b4 : Bs (x 4) (g 4) R p4 w
  b5 : Bs (x 5) (g 5) R p5 w
  b6 : Bs (x 6) (g 6) R p6 w
  b7 : Bs (x 7) (g 7) R p7 w
  ne : ∀ i j, i < 8 → j < 8 → i ≠ j → g i ≠ g j
  lo : ∀ i, i < 8 → w0.heap.size ≤ g i
  bel : Below w0.heap.size w0 w
theorem Bs.kept2 {x g R y h : Nat} {p q p' : Nat → Bool} {w w' : World} (a : Bs x g R p w) (b : Bs y h R q w) (t : Turn (fun j => j = g) w w') (hne : h ≠ g) : Bs y h R q w' := b.kept t (a.ne2 b) hne
theorem A8.op0 {w0 : World} {R : Nat} {x g : Nat → Nat} {p0 p1 p2 p3 p4 p5 p6 p7 p' : Nat → Bool} {w w' : World} (h : A8 w0 R x g p0 p1 p2 p3 p4 p5 p6 p7 w) (b : Bs (x 0) (g 0) R p' w') (t : Turn (fun j => j = g 0) w w') : A8 w0 R x g p' p1 p2 p3 p4 p5 p6 p7 w' :=
  ⟨b, h.b0.kept2 (p' := p') h.b1 t (h.ne 1 0 (by omega) (by omega) (by omega)), h.b0.kept2 (p' := p') h.b2 t (h.ne 2 0 (by omega) (by omega) (by omega)), h.b0.kept2 (p' := p') h.b3 t (h.ne 3 0 (by omega) (by omega) (by omega)), h.b0.kept2 (p' := p') h.b4 t (h.ne 4 0 (by omega) (by omega) (by omega)), h.b0.kept2 (p' := p') h.b5 t (h.ne 5 0 (by omega) (by omega) (by omega)), h.b0.kept2 (p' := p') h.b6 t (h.ne 6 0 (by omega) (by omega) (by omega)), h.b0.kept2 (p' := p') h.b7 t (h.ne 7 0 (by omega) (by omega) (by omega)), h.ne, h.lo, h.bel.trans (t.below (fun k hk => by rw [hk]; exact h.lo 0 (by omega)) h.bel.size)⟩
theorem A8.op1 {w0 : World} {R : Nat} {x g : Nat → Nat} {p0 p1 p2 p3 p4 p5 p6 p7 p' : Nat → Bool} {w w' : World} (h : A8 w0 R x g p0 p1 p2 p3 p4 p5 p6 p7 w) (b : Bs (x 1) (g 1) R p' w') (t : Turn (fun j => j = g 1) w w') : A8 w0 R x g p0 p' p2 p3 p4 p5 p6 p7 w' :=
  ⟨h.b1.kept2 (p' := p') h.b0 t (h.ne 0 1 (by omega) (by omega) (by omega)), b, h.b1.kept2 (p' := p') h.b2 t (h.ne 2 1 (by omega) (by omega) (by omega)), h.b1.kept2 (p' := p') h.b3 t (h.ne 3 1 (by omega) (by omega) (by omega)), h.b1.kept2 (p' := p') h.b4 t (h.ne 4 1 (by omega) (by omega) (by omega)), h.b1.kept2 (p' := p') h.b5 t (h.ne 5 1 (by omega) (by omega) (by omega)), h.b1.kept2 (p' := p') h.b6 t (h.ne 6 1 (by omega) (by omega) (by omega)), h.b1.kept2 (p' := p') h.b7 t (h.ne 7 1 (by omega) (by omega) (by omega)), h.ne, h.lo, h.bel.trans (t.below (fun k hk => by rw [hk]; exact h.lo 1 (by omega)) h.bel.size)⟩
theorem A8.op2 {w0 : World} {R : Nat} {x g : Nat → Nat} {p0 p1 p2 p3 p4 p5 p6 p7 p' : Nat → Bool} {w w' : World} (h : A8 w0 R x g p0 p1 p2 p3 p4 p5 p6 p7 w) (b : Bs (x 2) (g 2) R p' w') (t : Turn (fun j => j = g 2) w w') : A8 w0 R x g p0 p1 p' p3 p4 p5 p6 p7 w' :=
  ⟨h.b2.kept2 (p' := p') h.b0 t (h.ne 0 2 (by omega) (by omega) (by omega)), h.b2.kept2 (p' := p') h.b1 t (h.ne 1 2 (by omega) (by omega) (by omega)), b, h.b2.kept2 (p' := p') h.b3 t (h.ne 3 2 (by omega) (by omega) (by omega)), h.b2.kept2 (p' := p') h.b4 t (h.ne 4 2 (by omega) (by omega) (by omega)), h.b2.kept2 (p' := p') h.b5 t (h.ne 5 2 (by omega) (by omega) (by omega)), h.b2.kept2 (p' := p') h.b6 t (h.ne 6 2 (by omega) (by omega) (by omega)), h.b2.kept2 (p' := p') h.b7 t (h.ne 7 2 (by omega) (by omega) (by omega)), h.ne, h.lo, h.bel.trans (t.below (fun k hk => by rw [hk]; exact h.lo 2 (by omega)) h.bel.size)⟩
theorem A8.op3 {w0 : World} {R : Nat} {x g : Nat → Nat} {p0 p1 p2 p3 p4 p5 p6 p7 p' : Nat → Bool} {w w' : World} (h : A8 w0 R x g p0 p1 p2 p3 p4 p5 p6 p7 w) (b : Bs (x 3) (g 3) R p' w') (t : Turn (fun j => j = g 3) w w') : A8 w0 R x g p0 p1 p2 p' p4 p5 p6 p7 w' :=
  ⟨h.b3.kept2 (p' := p') h.b0 t (h.ne 0 3 (by omega) (by omega) (by omega)), h.b3.kept2 (p' := p') h.b1 t (h.ne 1 3 (by omega) (by omega) (by omega)), h.b3.kept2 (p' := p') h.b2 t (h.ne 2 3 (by omega) (by omega) (by omega)), b, h.b3.kept2 (p' := p') h.b4 t (h.ne 4 3 (by omega) (by omega) (by omega)), h.b3.kept2 (p' := p') h.b5 t (h.ne 5 3 (by omega) (by omega) (by omega)), h.b3.kept2 (p' := p') h.b6 t (h.ne 6 3 (by omega) (by omega) (by omega)), h.b3.kept2 (p' := p') h.b7 t (h.ne 7 3 (by omega) (by omega) (by omega)), h.ne, h.lo, h.bel.trans (t.below (fun k hk => by rw [hk]; exact h.lo 3 (by omega)) h.bel.size)⟩
theorem A8.op4 {w0 : World} {R : Nat} {x g : Nat → Nat} {p0 p1 p2 p3 p4 p5 p6 p7 p' : Nat → Bool} {w w' : World} (h : A8 w0 R x g p0 p1 p2 p3 p4 p5 p6 p7 w) (b : Bs (x 4) (g 4) R p' w') (t : Turn (fun j => j = g 4) w w') : A8 w0 R x g p0 p1 p2 p3 p' p5 p6 p7 w' :=
  ⟨h.b4.kept2 (p' := p') h.b0 t (h.ne 0 4 (by omega) (by omega) (by omega)), h.b4.kept2 (p' := p') h.b1 t (h.ne 1 4 (by omega) (by omega) (by omega)), h.b4.kept2 (p' := p') h.b2 t (h.ne 2 4 (by omega) (by omega) (by omega)), h.b4.kept2 (p' := p') h.b3 t (h.ne 3 4 (by omega) (by omega) (by omega)), b, h.b4.kept2 (p' := p') h.b5 t (h.ne 5 4 (by omega) (by omega) (by omega)), h.b4.kept2 (p' := p') h.b6 t (h.ne 6 4 (by omega) (by omega) (by omega)), h.b4.kept2 (p' := p') h.b7 t (h.ne 7 4 (by omega) (by omega) (by omega)), h.ne, h.lo, h.bel.trans (t.below (fun k hk => by rw [hk]; exact h.lo 4 (by omega)) h.bel.size)⟩
theorem A8.op5 {w0 : World} {R : Nat} {x g : Nat → Nat} {p0 p1 p2 p3 p4 p5 p6 p7 p' : Nat → Bool} {w w' : World} (h : A8 w0 R x g p0 p1 p2 p3 p4 p5 p6 p7 w) (b : Bs (x 5) (g 5) R p' w') (t : Turn (fun j => j = g 5) w w') : A8 w0 R x g p0 p1 p2 p3 p4 p' p6 p7 w' :=
  ⟨h.b5.kept2 (p' := p') h.b0 t (h.ne 0 5 (by omega) (by omega) (by omega)), h.b5.kept2 (p' := p') h.b1 t (h.ne 1 5 (by omega) (by omega) (by omega)), h.b5.kept2 (p' := p') h.b2 t (h.ne 2 5 (by omega) (by omega) (by omega)), h.b5.kept2 (p' := p') h.b3 t (h.ne 3 5 (by omega) (by omega) (by omega)), h.b5.kept2 (p' := p') h.b4 t (h.ne 4 5 (by omega) (by omega) (by omega)), b, h.b5.kept2 (p' := p') h.b6 t (h.ne 6 5 (by omega) (by omega) (by omega)), h.b5.kept2 (p' := p') h.b7 t (h.ne 7 5 (by omega) (by omega) (by omega)), h.ne, h.lo, h.bel.trans (t.below (fun k hk => by rw [hk]; exact h.lo 5 (by omega)) h.bel.size)⟩
theorem A8.op6 {w0 : World} {R : Nat} {x g : Nat → Nat} {p0 p1 p2 p3 p4 p5 p6 p7 p' : Nat → Bool} {w w' : World} (h : A8 w0 R x g p0 p1 p2 p3 p4 p5 p6 p7 w) (b : Bs (x 6) (g 6) R p' w') (t : Turn (fun j => j = g 6) w w') : A8 w0 R x g p0 p1 p2 p3 p4 p5 p' p7 w' :=
  ⟨h.b6.kept2 (p' := p') h.b0 t (h.ne 0 6 (by omega) (by omega) (by omega)), h.b6.kept2 (p' := p') h.b1 t (h.ne 1 6 (by omega) (by omega) (by omega)), h.b6.kept2 (p' := p') h.b2 t (h.ne 2 6 (by omega) (by omega) (by omega)), h.b6.kept2 (p' := p') h.b3 t (h.ne 3 6 (by omega) (by omega) (by omega)), h.b6.kept2 (p' := p') h.b4 t (h.ne 4 6 (by omega) (by omega) (by omega)), h.b6.kept2 (p' := p') h.b5 t (h.ne 5 6 (by omega) (by omega) (by omega)), b, h.b6.kept2 (p' := p') h.b7 t (h.ne 7 6 (by omega) (by omega) (by omega)), h.ne, h.lo, h.bel.trans (t.below (fun k hk => by rw [hk]; exact h.lo 6 (by omega)) h.bel.size)⟩
theorem A8.op7 {w0 : World} {R : Nat} {x g : Nat → Nat} {p0 p1 p2 p3 p4 p5 p6 p7 p' : Nat → Bool} {w w' : World} (h : A8 w0 R x g p0 p1 p2 p3 p4 p5 p6 p7 w) (b : Bs (x 7) (g 7) R p' w') (t : Turn (fun j => j = g 7) w w') : A8 w0 R x g p0 p1 p2 p3 p4 p5 p6 p' w' :=
  ⟨h.b7.kept2 (p' := p') h.b0 t (h.ne 0 7 (by omega) (by omega) (by omega)), h.b7.kept2 (p' := p') h.b1 t (h.ne 1 7 (by omega) (by omega) (by omega)), h.b7.kept2 (p' := p') h.b2 t (h.ne 2 7 (by omega) (by omega) (by omega)), h.b7.kept2 (p' := p') h.b3 t (h.ne 3 7 (by omega) (by omega) (by omega)), h.b7.kept2 (p' := p') h.b4 t (h.ne 4 7 (by omega) (by omega) (by omega)), h.b7.kept2 (p' := p') h.b5 t (h.ne 5 7 (by omega) (by omega) (by omega)), h.b7.kept2 (p' := p') h.b6 t (h.ne 6 7 (by omega) (by omega) (by omega)), b, h.ne, h.lo, h.bel.trans (t.below (fun k hk => by rw [hk]; exact h.lo 7 (by omega)) h.bel.size)⟩
theorem A8.drewN {w0 : World} {R : Nat} {x g : Nat → Nat} {p0 p1 p2 p3 p4 p5 p6 p7 : Nat → Bool} {w : World} (h : A8 w0 R x g p0 p1 p2 p3 p4 p5 p6 p7 w) (n : Nat) : A8 w0 R x g p0 p1 p2 p3 p4 p5 p6 p7 (w.drewN n) :=
  ⟨h.b0.drewN n, h.b1.drewN n, h.b2.drewN n, h.b3.drewN n, h.b4.drewN n, h.b5.drewN n, h.b6.drewN n, h.b7.drewN n, h.ne, h.lo, below_drewN h.bel n⟩
/-- the facts that the walk wants, over Int and over Nat -/
theorem gt_both {b : Bool} {m n : Nat} (h : b = decide (m < n)) : (b != decide ((m : Int) < (n : Int))) = false ∧ (b != decide (m < n)) = false ∧ (b == decide ((m : Int) < (n : Int))) = true ∧ (b == decide (m < n)) = true := by
  have e : decide ((m : Int) < (n : Int)) = decide (m < n) := by congr 1; rw [eq_iff_iff]; omega
  rw [e, h]
  simp
theorem roomOf_leq (n : Int) : roomOf n ≤ 65536 := by unfold roomOf; omega
theorem gt_zero {b : Bool} {n : Nat} (h : b = decide (0 < n)) : (b == decide ((0 : Int) < (n : Int))) = true ∧ (b == decide (0 < n)) = true := by
  have := gt_both (m := 0) h
  exact ⟨this.2.2.1, this.2.2.2⟩
set_option maxHeartbeats 8000000 in
set_option maxRecDepth 100000 in
theorem alg_walk (room : Int) (a1 : Option Addr) (len1 cap1 : Nat) (n1 : List Int) (a2 : Option Addr) (len2 cap2 : Nat) (n2 : List Int) (w : World) (h1 : IsInts w a1 len1 cap1 n1) (h2 : IsInts w a2 len2 cap2 n2) :
    Calls Try.prog 6 #[.int .i64 room, .slice a1 len1 cap1, .slice a2 len2 cap2] w fun e w' => e = .returned (.bool true) ∧ Below w.heap.size w w' := by
  have Hf := hide' (fun w => fixed_any w)
  have Hm1 := hide' (fun w h => made_any room a1 len1 cap1 n1 w h)
  have Hm2 := hide' (fun w h => made_any room a2 len2 cap2 n2 w h)
  have hR := roomOf_leq room
  have hp : Out (roomOf room) (inL (roomOf room) n1) := inL_out _ _
  have hq : Out (roomOf room) (inL (roomOf room) n2) := inL_out _ _
  generalize roomOf room = R at *
  generalize inL R n1 = p at *
  generalize inL R n2 = q at *
  have H1 := hide' (fun w' (b : Below w.heap.size w w') => h1.below (Nat.le_refl _) b)
  have H2 := hide' (fun w' (b : Below w.heap.size w w') => h2.below (Nat.le_refl _) b)
  have hal := alg p q hp hq
  have HE := hide' (hasB_laid bOr rfl hp hq)
  have HE2 := hide' (hasB_laid bOr rfl hq hp)
  have HC := hide' (hasB_laid bAnd rfl hp hq)
  have HC2 := hide' (hasB_laid bAnd rfl hq hp)
  have HD := hide' (hasB_laid bLess rfl hp hq)
  have HJ1 := hide' (fun x g y h w a b c => join_two x g R y h R p q w a b c)
  have HJ2 := hide' (fun x g y h w a b c => join_two x g R y h R q p w a b c)
  have HM1 := hide' (fun x g y h w a b c => meet_two x g R y h R p q w a b c)
  have HM2 := hide' (fun x g y h w a b c => meet_two x g R y h R q p w a b c)
  have HL1 := hide' (fun x g y h w a b c => less_two x g R y h R p q w a b c)
  have HZ := hide' (fun x g y h w a b c => meet_two x g R y h R (B.laid bLess R p q) (B.laid bAnd R p q) w a b c)
  have HW := hide' (fun x g y h w a b c => join_two x g R y h R (B.laid bLess R p q) (B.laid bAnd R p q) w a b c)
  have Hh := hide' (fun x g p i w h => has_any x g R p i w h)
  have Hr := hide' (fun x g w h => room_any x g R p w h)
  have Hc := hide' (fun x g p w h => count_any x g R p w h)
  have ce := B.cnt_le (B.laid bOr R p q) R 0
  have cc := B.cnt_le (B.laid bAnd R p q) R 0
  have cd := B.cnt_le (B.laid bLess R p q) R 0
  have cp := B.cnt_le p R 0
  have cq := B.cnt_le q R 0
  generalize B.laid bAnd R (B.laid bLess R p q) (B.laid bAnd R p q) = Z at *
  generalize B.laid bOr R (B.laid bLess R p q) (B.laid bAnd R p q) = W at *
  generalize B.laid bOr R p q = E at *
  generalize B.laid bOr R q p = E2 at *
  generalize B.laid bAnd R p q = C at *
  generalize B.laid bAnd R q p = C2 at *
  generalize B.laid bLess R p q = D at *
  generalize B.chg p E (nw R) = bj at *
  generalize B.chg p C (nw R) = bm at *
  generalize B.chg p D (nw R) = bl at *
  generalize B.chg D Z (nw R) = bz at *
  generalize B.chg D W (nw R) = bw at *
  have HcE := hide' (fun x g w h => Hc.out x g E w h)
  have HcC := hide' (fun x g w h => Hc.out x g C w h)
  have HcD := hide' (fun x g w h => Hc.out x g D w h)
  have HcZ := hide' (fun x g w h => Hc.out x g Z w h)
  have HcW := hide' (fun x g w h => Hc.out x g W w h)
  have Hcp := hide' (fun x g w h => Hc.out x g p w h)
  have Hcq := hide' (fun x g w h => Hc.out x g q w h)
  generalize B.cnt E R 0 = kE at *
  generalize B.cnt C R 0 = kC at *
  generalize B.cnt D R 0 = kD at *
  generalize B.cnt Z R 0 = kZ at *
  generalize B.cnt W R 0 = kW at *
  generalize B.cnt p R 0 = kp at *
  generalize B.cnt q R 0 = kq at *
  obtain ⟨g1, g2, g3, g4, g5, g6, g7, g8, g9⟩ := hal
  subst g5
  subst g9
  have j1 := gt_both g1
  have j2 := gt_both g2
  have j3 := gt_both g3
  have j4 := gt_zero g4
  have j5 := gt_zero g8
  have s1 : ((kE : Int) + (kC : Int) == (kW : Int) + (kq : Int)) = true := by simp; omega
  have s2 : ((kD : Int) + (kC : Int) == (kW : Int)) = true := by simp; omega
  obtain ⟨j11, j12, _, _⟩ := j1
  obtain ⟨j21, j22, _, _⟩ := j2
  obtain ⟨j31, j32, _, _⟩ := j3
  obtain ⟨j41, j42⟩ := j4
  obtain ⟨j51, j52⟩ := j5
  have bE : (kE : Int) ≤ 65536 := by omega
  have bC : (kC : Int) ≤ 65536 := by omega
  have bD : (kD : Int) ≤ 65536 := by omega
  have bW : (kW : Int) ≤ 65536 := by omega
  have bq : (kq : Int) ≤ 65536 := by omega
  clear g1 g2 g3 g4 g6 g7 g8 h1 h2 Hc ce cc cd cp cq
  go_enter Try.func6, Try.ntmps6
  go_wp2_with fail
  refine (Hf.out _).mono ?_
  rintro e w00 ⟨rfl, bb0⟩
  go_wp2_with fail
  refine (Hm1.out _ (H1.out _ bb0)).mono ?_
  rintro e v0 ⟨x0, rfl, y0, B0, d0, hx0, hy0⟩
  have bb1 := bb0.trans (d0.mono bb0.size)
  have l0 := B0.ltg
  have m0 := bb0.size
  have s_0 := d0.size
  go_wp2_with fail
  refine (Hm2.out _ (H2.out _ bb1)).mono ?_
  rintro e v1 ⟨x1, rfl, y1, B1, d1, hx1, hy1⟩
  have bb2 := bb1.trans (d1.mono bb1.size)
  have l1 := B1.ltg
  have m1 := bb1.size
  have s_1 := d1.size
  replace B0 := B0.below d1
  go_wp2_with fail
  refine (Hm1.out _ (H1.out _ bb2)).mono ?_
  rintro e v2 ⟨x2, rfl, y2, B2, d2, hx2, hy2⟩
  have bb3 := bb2.trans (d2.mono bb2.size)
  have l2 := B2.ltg
  have m2 := bb2.size
  have s_2 := d2.size
  replace B0 := B0.below d2
  replace B1 := B1.below d2
  go_wp2_with fail
  refine (Hm2.out _ (H2.out _ bb3)).mono ?_
  rintro e v3 ⟨x3, rfl, y3, B3, d3, hx3, hy3⟩
  have bb4 := bb3.trans (d3.mono bb3.size)
  have l3 := B3.ltg
  have m3 := bb3.size
  have s_3 := d3.size
  replace B0 := B0.below d3
  replace B1 := B1.below d3
  replace B2 := B2.below d3
  go_wp2_with fail
  refine (Hm1.out _ (H1.out _ bb4)).mono ?_
  rintro e v4 ⟨x4, rfl, y4, B4, d4, hx4, hy4⟩
  have bb5 := bb4.trans (d4.mono bb4.size)
  have l4 := B4.ltg
  have m4 := bb4.size
  have s_4 := d4.size
  replace B0 := B0.below d4
  replace B1 := B1.below d4
  replace B2 := B2.below d4
  replace B3 := B3.below d4
  go_wp2_with fail
  refine (Hm2.out _ (H2.out _ bb5)).mono ?_
  rintro e v5 ⟨x5, rfl, y5, B5, d5, hx5, hy5⟩
  have bb6 := bb5.trans (d5.mono bb5.size)
  have l5 := B5.ltg
  have m5 := bb5.size
  have s_5 := d5.size
  replace B0 := B0.below d5
  replace B1 := B1.below d5
  replace B2 := B2.below d5
  replace B3 := B3.below d5
  replace B4 := B4.below d5
  go_wp2_with fail
  refine (Hm1.out _ (H1.out _ bb6)).mono ?_
  rintro e v6 ⟨x6, rfl, y6, B6, d6, hx6, hy6⟩
  have bb7 := bb6.trans (d6.mono bb6.size)
  have l6 := B6.ltg
  have m6 := bb6.size
  have s_6 := d6.size
  replace B0 := B0.below d6
  replace B1 := B1.below d6
  replace B2 := B2.below d6
  replace B3 := B3.below d6
  replace B4 := B4.below d6
  replace B5 := B5.below d6
  go_wp2_with fail
  refine (Hm1.out _ (H1.out _ bb7)).mono ?_
  rintro e v7 ⟨x7, rfl, y7, B7, d7, hx7, hy7⟩
  have bb8 := bb7.trans (d7.mono bb7.size)
  have l7 := B7.ltg
  have m7 := bb7.size
  have s_7 := d7.size
  replace B0 := B0.below d7
  replace B1 := B1.below d7
  replace B2 := B2.below d7
  replace B3 := B3.below d7
  replace B4 := B4.below d7
  replace B5 := B5.below d7
  replace B6 := B6.below d7
  obtain ⟨X, rfl, rfl, rfl, rfl, rfl, rfl, rfl, rfl⟩ : ∃ X : Nat → Nat, X 0 = x0 ∧ X 1 = x1 ∧ X 2 = x2 ∧ X 3 = x3 ∧ X 4 = x4 ∧ X 5 = x5 ∧ X 6 = x6 ∧ X 7 = x7 := ⟨fun i => [x0, x1, x2, x3, x4, x5, x6, x7].getD i 0, rfl, rfl, rfl, rfl, rfl, rfl, rfl, rfl⟩
  obtain ⟨G, rfl, rfl, rfl, rfl, rfl, rfl, rfl, rfl⟩ : ∃ G : Nat → Nat, G 0 = y0 ∧ G 1 = y1 ∧ G 2 = y2 ∧ G 3 = y3 ∧ G 4 = y4 ∧ G 5 = y5 ∧ G 6 = y6 ∧ G 7 = y7 := ⟨fun i => [y0, y1, y2, y3, y4, y5, y6, y7].getD i 0, rfl, rfl, rfl, rfl, rfl, rfl, rfl, rfl⟩
  have hne : ∀ i j, i < 8 → j < 8 → i ≠ j → G i ≠ G j := by
    intro i j hi hj hij
    rcases (by omega : i = 0 ∨ i = 1 ∨ i = 2 ∨ i = 3 ∨ i = 4 ∨ i = 5 ∨ i = 6 ∨ i = 7) with rfl | rfl | rfl | rfl | rfl | rfl | rfl | rfl <;>
    rcases (by omega : j = 0 ∨ j = 1 ∨ j = 2 ∨ j = 3 ∨ j = 4 ∨ j = 5 ∨ j = 6 ∨ j = 7) with rfl | rfl | rfl | rfl | rfl | rfl | rfl | rfl <;> omega
  have hlo : ∀ i, i < 8 → w.heap.size ≤ G i := by
    intro i hi
    rcases (by omega : i = 0 ∨ i = 1 ∨ i = 2 ∨ i = 3 ∨ i = 4 ∨ i = 5 ∨ i = 6 ∨ i = 7) with rfl | rfl | rfl | rfl | rfl | rfl | rfl | rfl <;> omega
  have hA : A8 w R X G p q p q p q p p v7 := ⟨B0, B1, B2, B3, B4, B5, B6, B7, hne, hlo, bb8⟩
  clear Hf Hm1 Hm2 H1 H2 hne hlo B0 B1 B2 B3 B4 B5 B6 B7 bb0 bb1 bb2 bb3 bb4 bb5 bb6 bb7 bb8 d0 hx0 hy0 d1 hx1 hy1 d2 hx2 hy2 d3 hx3 hy3 d4 hx4 hy4 d5 hx5 hy5 d6 hx6 hy6 d7 hx7 hy7 l0 m0 s_0  l1 m1 s_1  l2 m2 s_2  l3 m3 s_3  l4 m4 s_4  l5 m5 s_5  l6 m6 s_6  l7 m7 s_7
  go_wp2_with fail
  refine (HJ1.out (X 2) (G 2) (X 1) (G 1) _ hA.b2 hA.b1 (hA.ne 1 2 (by omega) (by omega) (by omega))).mono ?_
  rintro e u0 ⟨rfl, nb, t⟩
  replace hA := hA.op2 nb t
  clear nb t
  go_wp2_with fail
  refine (HJ2.out (X 3) (G 3) (X 0) (G 0) _ hA.b3 hA.b0 (hA.ne 0 3 (by omega) (by omega) (by omega))).mono ?_
  rintro e u1 ⟨rfl, nb, t⟩
  replace hA := hA.op3 nb t
  clear nb t
  go_wp2_with fail
  refine (HM1.out (X 4) (G 4) (X 1) (G 1) _ hA.b4 hA.b1 (hA.ne 1 4 (by omega) (by omega) (by omega))).mono ?_
  rintro e u2 ⟨rfl, nb, t⟩
  replace hA := hA.op4 nb t
  clear nb t
  go_wp2_with fail
  refine (HM2.out (X 5) (G 5) (X 0) (G 0) _ hA.b5 hA.b0 (hA.ne 0 5 (by omega) (by omega) (by omega))).mono ?_
  rintro e u3 ⟨rfl, nb, t⟩
  replace hA := hA.op5 nb t
  clear nb t
  go_wp2_with fail
  refine (HL1.out (X 6) (G 6) (X 1) (G 1) _ hA.b6 hA.b1 (hA.ne 1 6 (by omega) (by omega) (by omega))).mono ?_
  rintro e u4 ⟨rfl, nb, t⟩
  replace hA := hA.op6 nb t
  clear nb t
  go_wp2_with fail
  refine (HL1.out (X 7) (G 7) (X 1) (G 1) _ hA.b7 hA.b1 (hA.ne 1 7 (by omega) (by omega) (by omega))).mono ?_
  rintro e u5 ⟨rfl, nb, t⟩
  replace hA := hA.op7 nb t
  clear nb t
  go_wp2_with fail
  refine (HZ.out (X 7) (G 7) (X 4) (G 4) _ hA.b7 hA.b4 (hA.ne 4 7 (by omega) (by omega) (by omega))).mono ?_
  rintro e u6 ⟨rfl, nb, t⟩
  replace hA := hA.op7 nb t
  clear nb t
  go_wp2_with fail
  refine (HcD.out (X 6) (G 6) _ hA.b6).mono ?_
  rintro e u7 ⟨rfl, hw⟩
  subst hw
  go_wp2_with fail
  refine (HcZ.out (X 7) (G 7) _ hA.b7).mono ?_
  rintro e u8 ⟨rfl, hw⟩
  subst hw
  go_wp2_with fail
  go_loopw [20] (fun i wx => ∃ k : Nat, k ≤ R + 2 ∧ i = .int .i64 ((k : Int) - 1) ∧ A8 w R X G p q E E2 C C2 D Z wx) (fun i _ => R + 2 - (intOf i + 1).toNat)
  case atStart => exact ⟨0, by omega, rfl, hA⟩
  case round =>
    clear hA
    obtain ⟨k, hk, rfl, hA⟩ := hrel
    by_cases hlt : k < R + 2
    · have e1 : decide ((k : Int) - 1 ≤ (R : Int)) = true := by simp; omega
      cases ha : hasB p ((k : Int) - 1) <;> cases hb : hasB q ((k : Int) - 1)
      · have z0 := ha
        have z1 := hb
        have z2 : hasB E ((k : Int) - 1) = false := by rw [HE.out, ha, hb]; rfl
        have z3 : hasB E2 ((k : Int) - 1) = false := by rw [HE2.out, hb, ha]; rfl
        have z4 : hasB C ((k : Int) - 1) = false := by rw [HC.out, ha, hb]; rfl
        have z5 : hasB C2 ((k : Int) - 1) = false := by rw [HC2.out, hb, ha]; rfl
        have z6 : hasB D ((k : Int) - 1) = false := by rw [HD.out, ha, hb]; rfl
        have y0 := hide' (fun w h => Hh.out (X 0) (G 0) p ((k : Int) - 1) w h)
        rw [z0] at y0
        have y1 := hide' (fun w h => Hh.out (X 1) (G 1) q ((k : Int) - 1) w h)
        rw [z1] at y1
        have y2 := hide' (fun w h => Hh.out (X 2) (G 2) E ((k : Int) - 1) w h)
        rw [z2] at y2
        have y3 := hide' (fun w h => Hh.out (X 3) (G 3) E2 ((k : Int) - 1) w h)
        rw [z3] at y3
        have y4 := hide' (fun w h => Hh.out (X 4) (G 4) C ((k : Int) - 1) w h)
        rw [z4] at y4
        have y5 := hide' (fun w h => Hh.out (X 5) (G 5) C2 ((k : Int) - 1) w h)
        rw [z5] at y5
        have y6 := hide' (fun w h => Hh.out (X 6) (G 6) D ((k : Int) - 1) w h)
        rw [z6] at y6
        clear ha hb z0 z1 z2 z3 z4 z5 z6
        go_wp2_with fail
        refine (Hr.out (X 0) (G 0) _ hA.b0).mono ?_
        rintro e r1 ⟨rfl, hz⟩
        subst hz
        go_wp2_with fail
        refine (y0.out _ hA.b0).mono ?_
        rintro e r2 ⟨rfl, m0, hz⟩
        replace hA := hA.drewN m0
        rw [← hz] at hA
        clear hz
        go_wp2_with fail
        refine (y1.out _ hA.b1).mono ?_
        rintro e r3 ⟨rfl, m1, hz⟩
        replace hA := hA.drewN m1
        rw [← hz] at hA
        clear hz
        go_wp2_with fail
        refine (y2.out _ hA.b2).mono ?_
        rintro e r4 ⟨rfl, m2, hz⟩
        replace hA := hA.drewN m2
        rw [← hz] at hA
        clear hz
        go_wp2_with fail
        refine (y3.out _ hA.b3).mono ?_
        rintro e r5 ⟨rfl, m3, hz⟩
        replace hA := hA.drewN m3
        rw [← hz] at hA
        clear hz
        go_wp2_with fail
        refine (y4.out _ hA.b4).mono ?_
        rintro e r6 ⟨rfl, m4, hz⟩
        replace hA := hA.drewN m4
        rw [← hz] at hA
        clear hz
        go_wp2_with fail
        refine (y5.out _ hA.b5).mono ?_
        rintro e r7 ⟨rfl, m5, hz⟩
        replace hA := hA.drewN m5
        rw [← hz] at hA
        clear hz
        go_wp2_with fail
        refine (y6.out _ hA.b6).mono ?_
        rintro e r8 ⟨rfl, m6, hz⟩
        replace hA := hA.drewN m6
        rw [← hz] at hA
        clear hz
        go_wp2_with fail
        exact ⟨⟨k + 1, by omega, by go_num, hA⟩, by simp [intOf]; omega⟩
      · have z0 := ha
        have z1 := hb
        have z2 : hasB E ((k : Int) - 1) = true := by rw [HE.out, ha, hb]; rfl
        have z3 : hasB E2 ((k : Int) - 1) = true := by rw [HE2.out, hb, ha]; rfl
        have z4 : hasB C ((k : Int) - 1) = false := by rw [HC.out, ha, hb]; rfl
        have z5 : hasB C2 ((k : Int) - 1) = false := by rw [HC2.out, hb, ha]; rfl
        have z6 : hasB D ((k : Int) - 1) = false := by rw [HD.out, ha, hb]; rfl
        have y0 := hide' (fun w h => Hh.out (X 0) (G 0) p ((k : Int) - 1) w h)
        rw [z0] at y0
        have y1 := hide' (fun w h => Hh.out (X 1) (G 1) q ((k : Int) - 1) w h)
        rw [z1] at y1
        have y2 := hide' (fun w h => Hh.out (X 2) (G 2) E ((k : Int) - 1) w h)
        rw [z2] at y2
        have y3 := hide' (fun w h => Hh.out (X 3) (G 3) E2 ((k : Int) - 1) w h)
        rw [z3] at y3
        have y4 := hide' (fun w h => Hh.out (X 4) (G 4) C ((k : Int) - 1) w h)
        rw [z4] at y4
        have y5 := hide' (fun w h => Hh.out (X 5) (G 5) C2 ((k : Int) - 1) w h)
        rw [z5] at y5
        have y6 := hide' (fun w h => Hh.out (X 6) (G 6) D ((k : Int) - 1) w h)
        rw [z6] at y6
        clear ha hb z0 z1 z2 z3 z4 z5 z6
        go_wp2_with fail
        refine (Hr.out (X 0) (G 0) _ hA.b0).mono ?_
        rintro e r1 ⟨rfl, hz⟩
        subst hz
        go_wp2_with fail
        refine (y0.out _ hA.b0).mono ?_
        rintro e r2 ⟨rfl, m0, hz⟩
        replace hA := hA.drewN m0
        rw [← hz] at hA
        clear hz
        go_wp2_with fail
        refine (y1.out _ hA.b1).mono ?_
        rintro e r3 ⟨rfl, m1, hz⟩
        replace hA := hA.drewN m1
        rw [← hz] at hA
        clear hz
        go_wp2_with fail
        refine (y2.out _ hA.b2).mono ?_
        rintro e r4 ⟨rfl, m2, hz⟩
        replace hA := hA.drewN m2
        rw [← hz] at hA
        clear hz
        go_wp2_with fail
        refine (y3.out _ hA.b3).mono ?_
        rintro e r5 ⟨rfl, m3, hz⟩
        replace hA := hA.drewN m3
        rw [← hz] at hA
        clear hz
        go_wp2_with fail
        refine (y4.out _ hA.b4).mono ?_
        rintro e r6 ⟨rfl, m4, hz⟩
        replace hA := hA.drewN m4
        rw [← hz] at hA
        clear hz
        go_wp2_with fail
        refine (y5.out _ hA.b5).mono ?_
        rintro e r7 ⟨rfl, m5, hz⟩
        replace hA := hA.drewN m5
        rw [← hz] at hA
        clear hz
        go_wp2_with fail
        refine (y6.out _ hA.b6).mono ?_
        rintro e r8 ⟨rfl, m6, hz⟩
        replace hA := hA.drewN m6
        rw [← hz] at hA
        clear hz
        go_wp2_with fail
        exact ⟨⟨k + 1, by omega, by go_num, hA⟩, by simp [intOf]; omega⟩
      · have z0 := ha
        have z1 := hb
        have z2 : hasB E ((k : Int) - 1) = true := by rw [HE.out, ha, hb]; rfl
        have z3 : hasB E2 ((k : Int) - 1) = true := by rw [HE2.out, hb, ha]; rfl
        have z4 : hasB C ((k : Int) - 1) = false := by rw [HC.out, ha, hb]; rfl
        have z5 : hasB C2 ((k : Int) - 1) = false := by rw [HC2.out, hb, ha]; rfl
        have z6 : hasB D ((k : Int) - 1) = true := by rw [HD.out, ha, hb]; rfl
        have y0 := hide' (fun w h => Hh.out (X 0) (G 0) p ((k : Int) - 1) w h)
        rw [z0] at y0
        have y1 := hide' (fun w h => Hh.out (X 1) (G 1) q ((k : Int) - 1) w h)
        rw [z1] at y1
        have y2 := hide' (fun w h => Hh.out (X 2) (G 2) E ((k : Int) - 1) w h)
        rw [z2] at y2
        have y3 := hide' (fun w h => Hh.out (X 3) (G 3) E2 ((k : Int) - 1) w h)
        rw [z3] at y3
        have y4 := hide' (fun w h => Hh.out (X 4) (G 4) C ((k : Int) - 1) w h)
        rw [z4] at y4
        have y5 := hide' (fun w h => Hh.out (X 5) (G 5) C2 ((k : Int) - 1) w h)
        rw [z5] at y5
        have y6 := hide' (fun w h => Hh.out (X 6) (G 6) D ((k : Int) - 1) w h)
        rw [z6] at y6
        clear ha hb z0 z1 z2 z3 z4 z5 z6
        go_wp2_with fail
        refine (Hr.out (X 0) (G 0) _ hA.b0).mono ?_
        rintro e r1 ⟨rfl, hz⟩
        subst hz
        go_wp2_with fail
        refine (y0.out _ hA.b0).mono ?_
        rintro e r2 ⟨rfl, m0, hz⟩
        replace hA := hA.drewN m0
        rw [← hz] at hA
        clear hz
        go_wp2_with fail
        refine (y1.out _ hA.b1).mono ?_
        rintro e r3 ⟨rfl, m1, hz⟩
        replace hA := hA.drewN m1
        rw [← hz] at hA
        clear hz
        go_wp2_with fail
        refine (y2.out _ hA.b2).mono ?_
        rintro e r4 ⟨rfl, m2, hz⟩
        replace hA := hA.drewN m2
        rw [← hz] at hA
        clear hz
        go_wp2_with fail
        refine (y3.out _ hA.b3).mono ?_
        rintro e r5 ⟨rfl, m3, hz⟩
        replace hA := hA.drewN m3
        rw [← hz] at hA
        clear hz
        go_wp2_with fail
        refine (y4.out _ hA.b4).mono ?_
        rintro e r6 ⟨rfl, m4, hz⟩
        replace hA := hA.drewN m4
        rw [← hz] at hA
        clear hz
        go_wp2_with fail
        refine (y5.out _ hA.b5).mono ?_
        rintro e r7 ⟨rfl, m5, hz⟩
        replace hA := hA.drewN m5
        rw [← hz] at hA
        clear hz
        go_wp2_with fail
        refine (y6.out _ hA.b6).mono ?_
        rintro e r8 ⟨rfl, m6, hz⟩
        replace hA := hA.drewN m6
        rw [← hz] at hA
        clear hz
        go_wp2_with fail
        exact ⟨⟨k + 1, by omega, by go_num, hA⟩, by simp [intOf]; omega⟩
      · have z0 := ha
        have z1 := hb
        have z2 : hasB E ((k : Int) - 1) = true := by rw [HE.out, ha, hb]; rfl
        have z3 : hasB E2 ((k : Int) - 1) = true := by rw [HE2.out, hb, ha]; rfl
        have z4 : hasB C ((k : Int) - 1) = true := by rw [HC.out, ha, hb]; rfl
        have z5 : hasB C2 ((k : Int) - 1) = true := by rw [HC2.out, hb, ha]; rfl
        have z6 : hasB D ((k : Int) - 1) = false := by rw [HD.out, ha, hb]; rfl
        have y0 := hide' (fun w h => Hh.out (X 0) (G 0) p ((k : Int) - 1) w h)
        rw [z0] at y0
        have y1 := hide' (fun w h => Hh.out (X 1) (G 1) q ((k : Int) - 1) w h)
        rw [z1] at y1
        have y2 := hide' (fun w h => Hh.out (X 2) (G 2) E ((k : Int) - 1) w h)
        rw [z2] at y2
        have y3 := hide' (fun w h => Hh.out (X 3) (G 3) E2 ((k : Int) - 1) w h)
        rw [z3] at y3
        have y4 := hide' (fun w h => Hh.out (X 4) (G 4) C ((k : Int) - 1) w h)
        rw [z4] at y4
        have y5 := hide' (fun w h => Hh.out (X 5) (G 5) C2 ((k : Int) - 1) w h)
        rw [z5] at y5
        have y6 := hide' (fun w h => Hh.out (X 6) (G 6) D ((k : Int) - 1) w h)
        rw [z6] at y6
        clear ha hb z0 z1 z2 z3 z4 z5 z6
        go_wp2_with fail
        refine (Hr.out (X 0) (G 0) _ hA.b0).mono ?_
        rintro e r1 ⟨rfl, hz⟩
        subst hz
        go_wp2_with fail
        refine (y0.out _ hA.b0).mono ?_
        rintro e r2 ⟨rfl, m0, hz⟩
        replace hA := hA.drewN m0
        rw [← hz] at hA
        clear hz
        go_wp2_with fail
        refine (y1.out _ hA.b1).mono ?_
        rintro e r3 ⟨rfl, m1, hz⟩
        replace hA := hA.drewN m1
        rw [← hz] at hA
        clear hz
        go_wp2_with fail
        refine (y2.out _ hA.b2).mono ?_
        rintro e r4 ⟨rfl, m2, hz⟩
        replace hA := hA.drewN m2
        rw [← hz] at hA
        clear hz
        go_wp2_with fail
        refine (y3.out _ hA.b3).mono ?_
        rintro e r5 ⟨rfl, m3, hz⟩
        replace hA := hA.drewN m3
        rw [← hz] at hA
        clear hz
        go_wp2_with fail
        refine (y4.out _ hA.b4).mono ?_
        rintro e r6 ⟨rfl, m4, hz⟩
        replace hA := hA.drewN m4
        rw [← hz] at hA
        clear hz
        go_wp2_with fail
        refine (y5.out _ hA.b5).mono ?_
        rintro e r7 ⟨rfl, m5, hz⟩
        replace hA := hA.drewN m5
        rw [← hz] at hA
        clear hz
        go_wp2_with fail
        refine (y6.out _ hA.b6).mono ?_
        rintro e r8 ⟨rfl, m6, hz⟩
        replace hA := hA.drewN m6
        rw [← hz] at hA
        clear hz
        go_wp2_with fail
        exact ⟨⟨k + 1, by omega, by go_num, hA⟩, by simp [intOf]; omega⟩
    · have hkr : k = R + 2 := by omega
      subst hkr
      have e1 : decide (((R + 2 : Nat) : Int) - 1 ≤ (R : Int)) = false := by simp; omega
      clear hlt
      go_wp2_with fail
      refine (Hr.out (X 0) (G 0) _ hA.b0).mono ?_
      rintro e r1 ⟨rfl, hz⟩
      subst hz
      go_wp2_with fail
      refine (HcE.out (X 2) (G 2) _ hA.b2).mono ?_
      rintro e u20 ⟨rfl, hw⟩
      subst hw
      go_wp2_with fail
      refine (Hcp.out (X 0) (G 0) _ hA.b0).mono ?_
      rintro e u21 ⟨rfl, hw⟩
      subst hw
      go_wp2_with fail
      refine (HcC.out (X 4) (G 4) _ hA.b4).mono ?_
      rintro e u22 ⟨rfl, hw⟩
      subst hw
      go_wp2_with fail
      refine (Hcp.out (X 0) (G 0) _ hA.b0).mono ?_
      rintro e u23 ⟨rfl, hw⟩
      subst hw
      go_wp2_with fail
      refine (HcD.out (X 6) (G 6) _ hA.b6).mono ?_
      rintro e u24 ⟨rfl, hw⟩
      subst hw
      go_wp2_with fail
      refine (Hcp.out (X 0) (G 0) _ hA.b0).mono ?_
      rintro e u25 ⟨rfl, hw⟩
      subst hw
      go_wp2_with fail
      refine (HcE.out (X 2) (G 2) _ hA.b2).mono ?_
      rintro e u26 ⟨rfl, hw⟩
      subst hw
      go_wp2_with fail
      refine (HcC.out (X 4) (G 4) _ hA.b4).mono ?_
      rintro e u27 ⟨rfl, hw⟩
      subst hw
      go_wp2_with fail
      refine (Hcp.out (X 0) (G 0) _ hA.b0).mono ?_
      rintro e u28 ⟨rfl, hw⟩
      subst hw
      go_wp2_with fail
      refine (Hcq.out (X 1) (G 1) _ hA.b1).mono ?_
      rintro e u29 ⟨rfl, hw⟩
      subst hw
      go_wp2_with fail
      refine (HcD.out (X 6) (G 6) _ hA.b6).mono ?_
      rintro e u30 ⟨rfl, hw⟩
      subst hw
      go_wp2_with fail
      refine (HcC.out (X 4) (G 4) _ hA.b4).mono ?_
      rintro e u31 ⟨rfl, hw⟩
      subst hw
      go_wp2_with fail
      refine (Hcp.out (X 0) (G 0) _ hA.b0).mono ?_
      rintro e u32 ⟨rfl, hw⟩
      subst hw
      go_wp2_with fail
      refine (HW.out (X 6) (G 6) (X 4) (G 4) _ hA.b6 hA.b4 (hA.ne 4 6 (by omega) (by omega) (by omega))).mono ?_
      rintro e u40 ⟨rfl, nb, t⟩
      replace hA := hA.op6 nb t
      clear nb t
      go_wp2_with fail
      refine (HcC.out (X 4) (G 4) _ hA.b4).mono ?_
      rintro e u50 ⟨rfl, hw⟩
      subst hw
      go_wp2_with fail
      refine (HcW.out (X 6) (G 6) _ hA.b6).mono ?_
      rintro e u51 ⟨rfl, hw⟩
      subst hw
      go_wp2_with fail
      refine (Hcp.out (X 0) (G 0) _ hA.b0).mono ?_
      rintro e u52 ⟨rfl, hw⟩
      subst hw
      go_wp2_with fail
      go_ret
      exact ⟨rfl, hA.bel⟩
end Go.Proofs.Ytifbppjmdjdjbaa
