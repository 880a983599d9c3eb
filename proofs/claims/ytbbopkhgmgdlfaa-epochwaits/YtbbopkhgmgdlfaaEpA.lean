import Derived.Test.YtbbopkhgmgdlfaaEp5
set_option linter.unusedVariables false
set_option linter.unusedSimpArgs false
namespace Go.Proofs.Ytbbopkhgmgdlfaa
open Go.RowKit
namespace A
open M
theorem To.below {D : Nat → Prop} {x : Nat} {ws ws' : List Int} {tr tr' : List Ac} {bad bad' : Nat} {w0 w w' : World} (h : Mem D w0.heap.size x ws tr bad w) (b : Below w0.heap.size w0 w) (t : To D w0.heap.size x ws' tr' bad' w w') : ∃ D', Mem D' w0.heap.size x ws' tr' bad' w' ∧ Below w0.heap.size w0 w' := by
  obtain ⟨D', hm, tt, s⟩ := t
  exact ⟨D', hm, b.trans (tt.below (fun j hj => (h.lo hj).1) b.size)⟩
set_option maxRecDepth 100000 in
set_option maxHeartbeats 2000000 in
theorem awake_any (w : World) : Calls Try.prog 6 #[] w fun r w' => r = .returned (.bool true) ∧ Below w.heap.size w w' := by
  have H1 := hide' (new_any 10 w (by omega) (by omega) 10 rfl)
  go_enter Try.func6, Try.ntmps6
  go_wp2_with fail
  refine H1.out.mono ?_
  rintro r w1 ⟨x, rfl, D, h1, b1⟩
  have HS : Hid (Calls Try.prog 20 #[.pointer (some ⟨x, 0, none⟩), .int .i64 1, .int .i64 5] w1 fun r w' => r = .returned (.int .i64 0) ∧ To D w.heap.size x [0, 5, 0, 0, 0, 0, 0, 0, 0, 0] [⟨2, 1, 5, 0, true⟩] 0 w1 w') := hide' (store_any 1 5 h1 (by simp))
  have HM := hide' (And.intro h1 b1)
  clear h1 b1 H1
  go_wp2_with fail
  refine HS.out.mono ?_
  rintro r w2 ⟨rfl, t2⟩
  obtain ⟨D2, m2, b2⟩ := To.below HM.out.1 HM.out.2 t2
  have HN : Hid (Calls Try.prog 10 #[.pointer (some ⟨x, 0, none⟩), .int .i64 1, .int .i64 4, .int .i64 3] w2 fun r w' => r = .returned (.tuple #[.pointer (some ⟨w2.heap.size, 0, none⟩), .int .i64 0]) ∧ Hid (w' = w2.alloc (.cells #[.pointer (some ⟨x, 0, none⟩), .int .i64 ((1 : Nat) : Int), .int .i64 ((4 : Nat) : Int), .int .i64 ((3 : Nat) : Int)] 90))) := hide' (snew_ok 1 4 3 m2 (by decide) (by decide) (by decide) (by decide))
  have HM2 := hide' (And.intro m2 b2)
  clear HS t2 HM m2 b2
  go_wp2_with fail
  refine HN.out.mono ?_
  rintro r w3 ⟨rfl, e3⟩
  have s3 : Sl w2.heap.size x 1 4 3 w3 := by rw [e3.out]; exact snew_sl x 1 4 3 w2
  have HE : Hid (Calls Try.prog 25 #[.pointer (some ⟨w2.heap.size, 0, none⟩), .int .i64 1] w3 fun r w' => r = .returned (.tuple #[.pointer (some ⟨w3.heap.size, 0, none⟩), .int .i64 0]) ∧ Hid (w' = w3.alloc (.cells #[.pointer (some ⟨x, 0, none⟩), .int .i64 ((1 : Nat) : Int), .int .i64 ((4 : Nat) : Int), .int .i64 ((3 : Nat) : Int), .int .i64 ((1 : Nat) : Int), .int .i64 0, .int .i64 0] 115))) := hide' (enter_ok 1 s3 (by decide))
  clear HN
  go_wp2_with fail
  refine HE.out.mono ?_
  rintro r w4 ⟨rfl, e4⟩
  have t4 : Below w3.heap.size w3 w4 := by rw [e4.out]; exact (Below.refl _ _).alloc (Nat.le_refl _) _
  have c4 : Sc w3.heap.size x 1 4 3 1 0 0 w4 := by rw [e4.out]; exact enter_sc x 1 4 3 1 w3
  have s4 := s3.below t4
  have HW : Hid (Calls Try.prog 23 #[.pointer (some ⟨w2.heap.size, 0, none⟩)] w4 fun r w' => r = .returned (.pointer (some ⟨w4.heap.size, 0, none⟩)) ∧ Hid (w' = w4.alloc (.cells #[.pointer (some ⟨x, 0, none⟩), .int .i64 ((1 : Nat) : Int), .int .i64 ((4 : Nat) : Int), .int .i64 ((3 : Nat) : Int), .int .i64 0, .int .i64 (-1)] 113))) := hide' (wait_any s4)
  have HK := hide' (And.intro t4 (And.intro c4 s4))
  clear HE t4 c4 s4 s3
  go_wp2_with fail
  refine HW.out.mono ?_
  rintro r w5 ⟨rfl, e5⟩
  have A5 : ∃ D, An ⟨w, x, 1, 4, 3, w2.heap.size, w4.heap.size⟩ D [0, 5, 0, 0, 0, 0, 0, 0, 0, 0] [⟨2, 1, 5, 0, true⟩] 0 0 (-1) [] none 0 w5 := by
    obtain ⟨t4, c4, s4⟩ := HK.out
    obtain ⟨m2, b2⟩ := HM2.out
    have t3 : Below w2.heap.size w2 w3 := by rw [e3.out]; exact (Below.refl _ _).alloc (Nat.le_refl _) _
    have t5 : Below w4.heap.size w4 w5 := by rw [e5.out]; exact (Below.refl _ _).alloc (Nat.le_refl _) _
    have g5 : Gr w4.heap.size x 1 4 3 0 (-1) w5 := by rw [e5.out]; exact wait_gr x 1 4 3 w4
    have b3 := b2.trans (t3.mono b2.size)
    have b4 := b3.trans (t4.mono b3.size)
    exact ⟨D2, (((m2.below t3).below t4).below t5), s4.below t5, g5, World.ownsRow_nil _ _ _ _, fun j hj => (by obtain ⟨a, ha, _⟩ := hj; cases ha), b4.trans (t5.mono b4.size), b4.size⟩
  have C5 : Sc w3.heap.size x 1 4 3 1 0 0 w5 := by
    obtain ⟨t4, c4, s4⟩ := HK.out
    exact c4.below (by rw [e5.out]; exact (Below.refl _ _).alloc (Nat.le_refl _) _)
  have hb : Hid (w.heap.size ≤ w3.heap.size) := hide' (by
    have t3 : Below w2.heap.size w2 w3 := by rw [e3.out]; exact (Below.refl _ _).alloc (Nat.le_refl _) _
    exact Nat.le_trans HM2.out.2.size t3.size)
  obtain ⟨sl, hsl⟩ : ∃ sl, w2.heap.size = sl := ⟨_, rfl⟩
  obtain ⟨sb, hsb⟩ : ∃ sb, w3.heap.size = sb := ⟨_, rfl⟩
  obtain ⟨gb, hgb⟩ : ∃ gb, w4.heap.size = gb := ⟨_, rfl⟩
  rw [hsl, hgb] at A5
  rw [hsb] at C5 hb
  rw [hsl, hsb, hgb]
  clear HW e3 e4 e5 HK HM2 hsl hsb hgb
  obtain ⟨D5, A5⟩ := A5
  have Q : Hid (Calls Try.prog 26 #[.pointer (some ⟨sb, 0, none⟩)] w5 fun r w' => r = .returned (.bool false) ∧ BTo D5 w.heap.size x sb [0, 5, 0, 0, 0, 0, 0, 0, 0, 0] [⟨2, 1, 5, 0, true⟩, ⟨1, 1, 5, 0, true⟩] 0 (scc x 1 4 3 1 1 5) 115 w5 w') := hide' (step0_any A5.mem C5 (by simp))
  have KA := hide' (And.intro A5 C5)
  clear A5 C5
  go_wp2_with fail
  refine Q.out.mono ?_
  rintro r w6 ⟨rfl, kk⟩
  obtain ⟨D6, A6, C6⟩ := KA.out.1.sec KA.out.2 hb.out kk
  clear Q KA kk
  have Q : Hid (Calls Try.prog 26 #[.pointer (some ⟨sb, 0, none⟩)] w6 fun r w' => r = .returned (.bool true) ∧ BTo D6 w.heap.size x sb [0, 5, 0, 0, 0, 5, 0, 0, 0, 0] [⟨2, 1, 5, 0, true⟩, ⟨1, 1, 5, 0, true⟩, ⟨2, 5, 5, 0, true⟩] 0 (scc x 1 4 3 1 2 5) 115 w6 w') := hide' (step1_any 5 rfl (by decide) A6.mem C6 (by simp))
  have KA := hide' (And.intro A6 C6)
  clear A6 C6
  go_wp2_with fail
  refine Q.out.mono ?_
  rintro r w7 ⟨rfl, kk⟩
  obtain ⟨D7, A7, C7⟩ := KA.out.1.sec KA.out.2 hb.out kk
  clear Q KA kk
  have Q : Hid (Calls Try.prog 24 #[.pointer (some ⟨gb, 0, none⟩)] w7 fun r w' => r = .returned (.bool false) ∧ BTo D7 w.heap.size x gb [0, 6, 0, 0, 0, 5, 0, 0, 0, 0] [⟨2, 1, 5, 0, true⟩, ⟨1, 1, 5, 0, true⟩, ⟨2, 5, 5, 0, true⟩, ⟨4, 1, 1, 5, true⟩] 0 (grc x 1 4 3 6 0) 113 w7 w') := hide' (by have q := grace0_any (b := gb) (x := x) (e := 1) (f := 4) (n := 3) A7.mem A7.gr (by decide) (by simp); rw [show wrap64 (std [0, 5, 0, 0, 0, 5, 0, 0, 0, 0] ((1 : Nat) : Int) + 1) = 6 by kernel_rfl] at q; exact q)
  have KA := hide' (And.intro A7 C7)
  clear A7 C7
  go_wp2_with fail
  refine Q.out.mono ?_
  rintro r w8 ⟨rfl, kk⟩
  obtain ⟨⟨D8, A8⟩, hC⟩ := KA.out.1.gra kk
  have C8 := hC KA.out.2
  clear Q KA kk hC
  have Q : Hid (Calls Try.prog 24 #[.pointer (some ⟨gb, 0, none⟩)] w8 fun r w' => r = .returned (.bool false) ∧ BTo D8 w.heap.size x gb [0, 6, 0, 0, 0, 5, 0, 0, 0, 0] [⟨2, 1, 5, 0, true⟩, ⟨1, 1, 5, 0, true⟩, ⟨2, 5, 5, 0, true⟩, ⟨4, 1, 1, 5, true⟩, ⟨1, 4, 0, 0, true⟩] 0 (grc x 1 4 3 6 1) 113 w8 w') := hide' (graceL_any (b := gb) (x := x) (e := 1) (f := 4) (n := 3) 0 4 rfl (by decide) A8.mem A8.gr (by decide) (by decide) (by simp))
  have KA := hide' (And.intro A8 C8)
  clear A8 C8
  go_wp2_with fail
  refine Q.out.mono ?_
  rintro r w9 ⟨rfl, kk⟩
  obtain ⟨⟨D9, A9⟩, hC⟩ := KA.out.1.gra kk
  have C9 := hC KA.out.2
  clear Q KA kk hC
  have Q : Hid (Calls Try.prog 24 #[.pointer (some ⟨gb, 0, none⟩)] w9 fun r w' => r = .returned (.bool false) ∧ BTo D9 w.heap.size x gb [0, 6, 0, 0, 0, 5, 0, 0, 0, 0] [⟨2, 1, 5, 0, true⟩, ⟨1, 1, 5, 0, true⟩, ⟨2, 5, 5, 0, true⟩, ⟨4, 1, 1, 5, true⟩, ⟨1, 4, 0, 0, true⟩, ⟨1, 5, 5, 0, true⟩] 0 (grc x 1 4 3 6 1) 113 w9 w') := hide' (graceL_any (b := gb) (x := x) (e := 1) (f := 4) (n := 3) 1 5 rfl (by decide) A9.mem A9.gr (by decide) (by decide) (by simp))
  have KA := hide' (And.intro A9 C9)
  clear A9 C9
  go_wp2_with fail
  refine Q.out.mono ?_
  rintro r w10 ⟨rfl, kk⟩
  obtain ⟨⟨D10, A10⟩, hC⟩ := KA.out.1.gra kk
  have C10 := hC KA.out.2
  clear Q KA kk hC
  have Q : Hid (Calls Try.prog 27 #[.pointer (some ⟨gb, 0, none⟩)] w10 fun r w' => r = .returned (.int .i64 1) ∧ ∃ q, w' = w10.drewN q) := hide' (at_any (b := gb) (x := x) (e := 1) (f := 4) (n := 3) A10.gr)
  have KA := hide' (And.intro A10 C10)
  clear A10 C10
  go_wp2_with fail
  refine Q.out.mono ?_
  rintro r w11 ⟨rfl, q, hq⟩
  have A11 : An ⟨w, x, 1, 4, 3, sl, gb⟩ D10 [0, 6, 0, 0, 0, 5, 0, 0, 0, 0] [⟨2, 1, 5, 0, true⟩, ⟨1, 1, 5, 0, true⟩, ⟨2, 5, 5, 0, true⟩, ⟨4, 1, 1, 5, true⟩, ⟨1, 4, 0, 0, true⟩, ⟨1, 5, 5, 0, true⟩] 0 6 1 [] none 0 w11 := by rw [hq]; exact KA.out.1.drewN q
  have C11 : Sc sb x 1 4 3 1 2 5 w11 := by rw [hq]; exact KA.out.2
  clear Q KA hq
  have Q : Hid (Calls Try.prog 28 #[.pointer (some ⟨gb, 0, none⟩)] w11 fun r w' => r = .returned (.bool false) ∧ Below w11.heap.size w11 w') := hide' (ready_at (b := gb) (x := x) (e := 1) (f := 4) (n := 3) 1 5 rfl A11.mem A11.gr (by decide) (by decide))
  have KA := hide' (And.intro A11 C11)
  clear A11 C11
  go_wp2_with fail
  refine Q.out.mono ?_
  rintro r w12 ⟨rfl, bb⟩
  have A12 := KA.out.1.below bb
  have C12 := KA.out.2.below bb
  clear Q KA bb
  have Q : Hid (Calls Try.prog 29 #[.pointer (some ⟨sl, 0, none⟩), .int .i64 1] w12 fun r w' => r = .returned (.int .i64 0) ∧ To D10 w.heap.size x [0, 6, 0, 0, 0, 0, 0, 0, 0, 0] [⟨2, 1, 5, 0, true⟩, ⟨1, 1, 5, 0, true⟩, ⟨2, 5, 5, 0, true⟩, ⟨4, 1, 1, 5, true⟩, ⟨1, 4, 0, 0, true⟩, ⟨1, 5, 5, 0, true⟩, ⟨2, 5, 0, 5, true⟩] 0 w12 w') := hide' (leave_ok (b := sl) (x := x) (e := 1) (f := 4) (n := 3) 1 5 rfl (by decide) A12.sl A12.mem (by simp) (by decide))
  have KA := hide' (And.intro A12 C12)
  clear A12 C12
  go_wp2_with fail
  refine Q.out.mono ?_
  rintro r w13 ⟨rfl, kk⟩
  obtain ⟨⟨D13, A13⟩, hC⟩ := KA.out.1.to kk
  have C13 := hC KA.out.2
  clear Q KA kk hC
  have Q : Hid (Calls Try.prog 24 #[.pointer (some ⟨gb, 0, none⟩)] w13 fun r w' => r = .returned (.bool false) ∧ BTo D13 w.heap.size x gb [0, 6, 0, 0, 0, 0, 0, 0, 0, 0] [⟨2, 1, 5, 0, true⟩, ⟨1, 1, 5, 0, true⟩, ⟨2, 5, 5, 0, true⟩, ⟨4, 1, 1, 5, true⟩, ⟨1, 4, 0, 0, true⟩, ⟨1, 5, 5, 0, true⟩, ⟨2, 5, 0, 5, true⟩, ⟨1, 5, 0, 0, true⟩] 0 (grc x 1 4 3 6 2) 113 w13 w') := hide' (graceL_any (b := gb) (x := x) (e := 1) (f := 4) (n := 3) 1 5 rfl (by decide) A13.mem A13.gr (by decide) (by decide) (by simp))
  have KA := hide' (And.intro A13 C13)
  clear A13 C13
  go_wp2_with fail
  refine Q.out.mono ?_
  rintro r w14 ⟨rfl, kk⟩
  obtain ⟨⟨D14, A14⟩, hC⟩ := KA.out.1.gra kk
  have C14 := hC KA.out.2
  clear Q KA kk hC
  have Q : Hid (Calls Try.prog 24 #[.pointer (some ⟨gb, 0, none⟩)] w14 fun r w' => r = .returned (.bool true) ∧ BTo D14 w.heap.size x gb [0, 6, 0, 0, 0, 0, 0, 0, 0, 0] [⟨2, 1, 5, 0, true⟩, ⟨1, 1, 5, 0, true⟩, ⟨2, 5, 5, 0, true⟩, ⟨4, 1, 1, 5, true⟩, ⟨1, 4, 0, 0, true⟩, ⟨1, 5, 5, 0, true⟩, ⟨2, 5, 0, 5, true⟩, ⟨1, 5, 0, 0, true⟩, ⟨1, 6, 0, 0, true⟩] 0 (grc x 1 4 3 6 3) 113 w14 w') := hide' (graceL_any (b := gb) (x := x) (e := 1) (f := 4) (n := 3) 2 6 rfl (by decide) A14.mem A14.gr (by decide) (by decide) (by simp))
  have KA := hide' (And.intro A14 C14)
  clear A14 C14
  go_wp2_with fail
  refine Q.out.mono ?_
  rintro r w15 ⟨rfl, kk⟩
  obtain ⟨⟨D15, A15⟩, hC⟩ := KA.out.1.gra kk
  have C15 := hC KA.out.2
  clear Q KA kk hC
  have Q1 : Hid (Calls Try.prog 30 #[.pointer (some ⟨sb, 0, none⟩)] w15 fun r w' => r = .returned (.int .i64 5) ∧ w' = w15) := hide' (mark_any C15)
  have Q2 : Hid (Calls Try.prog 27 #[.pointer (some ⟨gb, 0, none⟩)] w15 fun r w' => r = .returned (.int .i64 (-1)) ∧ ∃ q, w' = w15.drewN q) := hide' (at_any (b := gb) (x := x) (e := 1) (f := 4) (n := 3) A15.gr)
  have Q3 := hide' (fun q => trace_any (A15.drewN q).mem (by simp))
  have hbl := hide' (A15.bel)
  clear A15 C15
  go_wp2_with fail
  refine Q1.out.mono ?_
  rintro r wa ⟨rfl, rfl⟩
  go_wp2_with fail
  refine Q2.out.mono ?_
  rintro r wb ⟨rfl, q, rfl⟩
  replace Q3 := Q3.out q
  go_wp2_with fail
  refine Q3.mono ?_
  rintro r wc ⟨ro, rc, rfl, hr, bc⟩
  have F := hide' (hbl.out.trans ((show Below w.heap.size wa (wa.drewN q) from ⟨rfl, rfl, rfl, Nat.le_refl _, fun _ _ => rfl⟩).trans (bc.mono hbl.out.size)))
  clear hr bc hbl Q3 Q2 Q1
  go_wp2
  go_ret
  exact ⟨rfl, F.out⟩
end A
end Go.Proofs.Ytbbopkhgmgdlfaa
