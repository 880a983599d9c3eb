import Derived.Test.YtoejcpfodbegeaaOneP
set_option linter.unusedVariables false
set_option linter.unusedSimpArgs false
namespace Go.Proofs.Ytoejcpfodbegeaa
open Go.RowKit
namespace M
set_option maxRecDepth 100000 in
set_option maxHeartbeats 4000000 in
theorem one_lo (wd : Int) (a : Option Addr) (cap : Nat) (ss : List St) (s : St) (w : World) (hI : Sts w a ss) (hok : ∀ s ∈ ss, s.ok) (hl : ss.length ≤ 1954687338268) (hd : s.do_ % 4 = 0) :
    Calls Try.prog 6 #[.int .i64 wd, .slice a ss.length cap, .agg s.arr] w fun e w' => e = .returned (.bool true) ∧ Below w.heap.size w w' := by
  obtain ⟨sd, sa, sb, sc, ⟨xk, xa, xv, xo, xg⟩⟩ := s
  unfold St.arr
  simp only at hd ⊢
  obtain ⟨n1, n2, n3⟩ := nof_le wd
  clear n3
  have Hm := hide' (Cx.made wd #[.int .i64 sd, .int .i64 sa, .int .i64 sb, .int .i64 sc, .int .i8 xk, .int .i64 xa, .int .i64 xv, .int .i64 xo, .bool xg] 39 w)
  generalize nof wd = n at *
  have HRn := hide' (show (List.replicate n (0 : Int)).length = n by simp)
  have Hp1 := hide' (fun w => pick_any sa ((n : Int) + 2) w (by omega) (by omega))
  have hb1 := Int.emod_nonneg sa (b := (n : Int) + 2) (by omega)
  have hb2 := Int.emod_lt_of_pos sa (b := (n : Int) + 2) (by omega)
  generalize hq : sa % ((n : Int) + 2) = q at *
  obtain ⟨A1, rfl⟩ : ∃ k : Nat, q = (k : Int) := ⟨q.toNat, by omega⟩
  have hA1 : A1 < n + 2 := by omega
  have hA1' : (A1 : Int) ≤ 66 := by omega
  clear hq hb1 hb2
  have Hp2 := hide' (fun w => pick_any sd 4 w (by omega) (by omega))
  rw [hd] at Hp2
  have HL := hide' hl
  have HI := hide' hI
  have HOK := hide' hok
  clear hl hI hok hd
  go_enter Try.func6, Try.ntmps6
  go_wp2_with fail
  refine Hm.out.mono ?_
  rintro e w1 ⟨x, rfl, h1⟩
  clear Hm
  go_wp2_with fail
  go_loopw [9] (fun i wx => ∃ (k : Nat), k ≤ ss.length ∧ i = .int .i64 (k : Int) ∧ ∃ ws tr bad, Cx w w.heap.size (.cells #[.int .i64 sd, .int .i64 sa, .int .i64 sb, .int .i64 sc, .int .i8 xk, .int .i64 xa, .int .i64 xv, .int .i64 xo, .bool xg] 39) (w.heap.size + 1) x ws tr bad wx ∧ ws.length = n ∧ tr.length ≤ 3 + k) (fun i _ => ss.length - (intOf i).toNat)
  case atStart => exact ⟨0, by omega, rfl, _, _, _, h1, HRn.out, by simp [tr0]⟩
  case round =>
    obtain ⟨k, hk, rfl, ws, tr, bad, hM, hwn, htr⟩ := hrel
    have HM := hide' hM
    have Htr := hide' htr
    have Hwn := hide' hwn
    have bk := hM.bel
    clear hM htr hwn h1
    by_cases hlt : k < ss.length
    · rcases HI.out with hI | ⟨b, off, rfl, hb, hc⟩
      · rw [hI] at hlt; simp at hlt
      have hcs := fun r hr => (bk.cell (p := ⟨b, off + k * 9 + r, none⟩) hb).trans (hc k hlt r hr)
      have hoks := HOK.out _ (List.getElem_mem hlt)
      generalize ss[k] = s at *
      have Hr := hide' (HM.out.run s hoks (by have := Htr.out; have := HL.out; omega))
      obtain ⟨yd, ya, yb, yc, ⟨zk, za, zv, zo, zg⟩⟩ := s
      have c0 : wr.cell? ⟨b, off + k * 9, none⟩ = some (.int .i64 yd) := hcs 0 (by omega)
      have c1 : wr.cell? ⟨b, off + k * 9 + 1, none⟩ = some (.int .i64 ya) := hcs 1 (by omega)
      have c2 : wr.cell? ⟨b, off + k * 9 + 2, none⟩ = some (.int .i64 yb) := hcs 2 (by omega)
      have c3 : wr.cell? ⟨b, off + k * 9 + 3, none⟩ = some (.int .i64 yc) := hcs 3 (by omega)
      have c4 : wr.cell? ⟨b, off + k * 9 + 4, none⟩ = some (.int .i8 zk) := hcs 4 (by omega)
      have c5 : wr.cell? ⟨b, off + k * 9 + 5, none⟩ = some (.int .i64 za) := hcs 5 (by omega)
      have c6 : wr.cell? ⟨b, off + k * 9 + 6, none⟩ = some (.int .i64 zv) := hcs 6 (by omega)
      have c7 : wr.cell? ⟨b, off + k * 9 + 7, none⟩ = some (.int .i64 zo) := hcs 7 (by omega)
      have c8 : wr.cell? ⟨b, off + k * 9 + 8, none⟩ = some (.bool zg) := hcs 8 (by omega)
      have Hwk := hide' (wrap_kk k (by have := HL.out; omega))
      have Hwk2 := hide' (vint_kk k (by have := HL.out; omega))
      unfold St.arr at Hr
      simp only at Hr
      clear hcs hc bk hoks
      go_wp2_with fail
      refine Hr.out.mono ?_
      rintro e w2 ⟨rfl, ws', tr', bad', h2, l2, l3⟩
      have K := hide' (And.intro h2 (And.intro l2 l3))
      clear Hr h2 l2 l3
      go_wp2
      go_roundw
      case rel => exact ⟨k + 1, by omega, Hwk2.out, ws', tr', bad', K.out.1, K.out.2.1.trans Hwn.out, by have := K.out.2.2; have := Htr.out; omega⟩
      case measure => exact msr hlt Hwk.out
    · have hkl : k = ss.length := by omega
      have hfew : tr.length < 1954687338274 := by have := Htr.out; have := HL.out; omega
      have Hfew := hide' hfew
      have Hbad : Hid (bad ≤ tr.length) := by obtain ⟨_, _, _, hm, _⟩ := HM.out; exact hm.1
      have Ht := hide' (HM.out.trace (by omega))
      clear hkl hfew bk hk Htr HI HOK HL
      go_wp2_with fail
      refine Ht.out.mono ?_
      rintro e w2 ⟨ro2, rc2, rfl, hr2, b2, h2⟩
      have H2 := hide' h2
      try clear hlt
      clear Ht hr2 b2 h2 HM
      have Hb := hide' H2.out.bads
      go_wp2_with fail
      refine Hb.out.mono ?_
      rintro e w3 ⟨rfl, hw3⟩
      replace hw3 := hw3.symm
      subst hw3
      clear Hb
      have c1 : w2.cell? ⟨w.heap.size, 1, none⟩ = some (.int .i64 sa) := by rw [Lib.cell_of_heap H2.out.hs]; rfl
      have f1 : w2.frozen? ⟨w.heap.size, 1, none⟩ = false := Lib.frozen_of_heap H2.out.hs 1
      go_wp2_with fail
      refine (Hp1.out _).mono ?_
      rintro e w3 ⟨rfl, hw3⟩
      replace hw3 := hw3.symm
      subst hw3
      clear Hp1
      have H3 := hide' (H2.out.put0 (Nat.le_refl _) 1 (.int .i64 ((A1 : Int) - 1)))
      have H4 := hide' (H3.out.with (.cells #[.int .i8 0, .int .i64 0, .int .i64 0, .int .i64 0, .bool false] 37))
      have hA2 : (A1 : Int) - 1 ≤ (n : Int) := by omega
      have hA3 : -1 ≤ (A1 : Int) - 1 := by omega
      have H3' := hide' (World.size_setCell w2 ⟨w.heap.size, 1, none⟩ (.int .i64 ((A1 : Int) - 1)))

      rw [H3'.out] at H4
      have cX0 : ((w2.setCell ⟨w.heap.size, 1, none⟩ (.int .i64 ((A1 : Int) - 1))).alloc (.cells #[.int .i8 0, .int .i64 0, .int .i64 0, .int .i64 0, .bool false] 37)).cell? ⟨w.heap.size, 0, none⟩ = some (.int .i64 sd) := by rw [Lib.cell_of_heap H4.out.hs]; rfl
      go_wp2_with fail
      generalize hwX : (w2.setCell ⟨w.heap.size, 1, none⟩ (.int .i64 ((A1 : Int) - 1))).alloc (.cells #[.int .i8 0, .int .i64 0, .int .i64 0, .int .i64 0, .bool false] 37) = w4 at *
      clear hwX H3 H3' H2 c1 f1 cX0
      generalize w2.heap.size = x0 at *
      generalize (A1 : Int) - 1 = A at *
      refine (Hp2.out _).mono ?_
      rintro e w5 ⟨rfl, hw5⟩
      replace hw5 := hw5.symm
      subst hw5
      clear Hp2 hA1 hA1'
      have c1 : w4.cell? ⟨w.heap.size, 1, none⟩ = some (.int .i64 A) := by rw [Lib.cell_of_heap H4.out.hs]; rfl
      have c2 : w4.cell? ⟨w.heap.size, 2, none⟩ = some (.int .i64 sb) := by rw [Lib.cell_of_heap H4.out.hs]; rfl
      have c3 : w4.cell? ⟨w.heap.size, 3, none⟩ = some (.int .i64 sc) := by rw [Lib.cell_of_heap H4.out.hs]; rfl
      have Hs := hide' (H4.out.load A (by have := Hfew.out; omega))
      by_cases hE : er ws A = 0
      · skip
        rw [bd_ok hE, show good ws A = true from decide_eq_true hE, hE] at Hs
        clear hE
        generalize std ws A = V at *
        go_wp2_with fail
        refine Hs.out.mono ?_
        rintro e w6 ⟨rfl, h6⟩
        have H6 := hide' h6
        clear Hs h6 H4 c1 c2 c3
        have c1 : w6.cell? ⟨w.heap.size, 1, none⟩ = some (.int .i64 A) := by rw [Lib.cell_of_heap H6.out.hs]; rfl
        have c2 : w6.cell? ⟨w.heap.size, 2, none⟩ = some (.int .i64 sb) := by rw [Lib.cell_of_heap H6.out.hs]; rfl
        have c3 : w6.cell? ⟨w.heap.size, 3, none⟩ = some (.int .i64 sc) := by rw [Lib.cell_of_heap H6.out.hs]; rfl
        go_wp2_with (with_reducible refine stay_store 37 _ _ rfl ?_)
        unfold Stay
        refine wpList_store_row rfl 37 _ _ rfl x0 #[.int .i8 1, .int .i64 A, .int .i64 V, .int .i64 0, .bool true] rfl rfl 37 _ H6.out.hx (by kernel_rfl) rfl (by simp [Value.oneCell']) ?_
        have H7 := hide' (H6.out.row (cs' := #[.int .i8 1, .int .i64 A, .int .i64 V, .int .i64 0, .bool true]))
        generalize hw7 : w6.setRow x0 #[.int .i8 1, .int .i64 A, .int .i64 V, .int .i64 0, .bool true] = w7 at *
        clear hw7 H6 c1 c2 c3
        have c1 : w7.cell? ⟨w.heap.size, 1, none⟩ = some (.int .i64 A) := by rw [Lib.cell_of_heap H7.out.hs]; rfl
        have Ht := hide' (H7.out.trace (by rw [List.length_append]; have := Hfew.out; simp; omega))
        go_wp2_with fail
        refine Ht.out.mono ?_
        rintro e w8 ⟨ro8, rc8, rfl, hr8, h8, hlx⟩
        have H8 := hide' h8
        obtain ⟨g8, rfl, l8, u8', m8, cc8⟩ := acs_cells hr8 (by simp)
        have hz := cc8 tr.length (⟨1, A, V, 0, true⟩ : Ac) (by simp)
        clear cc8 h8 Ht hr8 H7 c1
        have t0 := hz 0 (by omega)
        have t1 := hz 1 (by omega)
        have t2 := hz 2 (by omega)
        have t3 := hz 3 (by omega)
        have t4 := hz 4 (by omega)
        simp only [Ac.cells, List.getElem?_cons_zero, List.getElem?_cons_succ, Nat.add_zero] at t0 t1 t2 t3 t4
        have Hlen := hide' (show (tr ++ [(⟨1, A, V, 0, true⟩ : Ac)]).length = tr.length + 1 by simp)
        rw [Hlen.out]
        rw [Hlen.out] at m8
        have Hb := hide' H8.out.bads
        rw [Nat.add_zero] at Hb
        have hwt : wrap64 ((tr.length : Int) + 1) = (tr.length : Int) + 1 := wrap_kk _ (by have := Hfew.out; omega)
        have hwb : wrap64 ((bad : Int) + 1) = (bad : Int) + 1 := wrap_kk _ (by have := Hfew.out; have := Hbad.out; omega)
        have hb1 : ((bad : Int) == (bad : Int) + 1) = false := by simp; omega
        have hb2 : ((bad : Int) + 1 == (bad : Int)) = false := by simp; omega
        go_wp2_with fail
        refine Hb.out.mono ?_
        rintro e w9 ⟨rfl, hw9⟩
        replace hw9 := hw9.symm
        subst hw9
        go_wp2_with fail
        refine Hb.out.mono ?_
        rintro e w9 ⟨rfl, hw9⟩
        replace hw9 := hw9.symm
        subst hw9
        clear Hb
        have hne : g8 ≠ x0 := by omega
        generalize hM : tr.length + 1 = M at *
        have hix : tr.length < M := by omega
        clear hM hz Hlen hlx u8'
        have y0 : w8.cell? ⟨x0, 0, none⟩ = some (.int .i8 1) := by rw [Lib.cell_of_heap H8.out.hx]; rfl
        have y1 : w8.cell? ⟨x0, 1, none⟩ = some (.int .i64 A) := by rw [Lib.cell_of_heap H8.out.hx]; rfl
        have y2 : w8.cell? ⟨x0, 2, none⟩ = some (.int .i64 V) := by rw [Lib.cell_of_heap H8.out.hx]; rfl
        have y3 : w8.cell? ⟨x0, 3, none⟩ = some (.int .i64 0) := by rw [Lib.cell_of_heap H8.out.hx]; rfl
        have y4 : w8.cell? ⟨x0, 4, none⟩ = some (.bool true) := by rw [Lib.cell_of_heap H8.out.hx]; rfl
        have f3 : w8.frozen? ⟨x0, 3, none⟩ = false := Lib.frozen_of_heap H8.out.hx 3

        have HB := hide' H8.out.bel
        clear H8
        go_wp2_with fail
        have hseq := fun w => struct_eq 1 A V 0 true w
        have hgrd := grd
        go_quiet (fail)
        go_wp2
        go_ret
        exact ⟨rfl, below_drewN HB.out _⟩
      · skip
        rw [bd_no hE, show good ws A = false from decide_eq_false hE] at Hs
        have hE' : (er ws A == 0) = false := by simpa using hE
        have hE2 : (er ws A != 0) = true := by simpa using hE
        generalize er ws A = E at *
        generalize std ws A = V at *
        go_wp2_with fail
        refine Hs.out.mono ?_
        rintro e w6 ⟨rfl, h6⟩
        have H6 := hide' h6
        clear Hs h6 H4 c1 c2 c3
        have c1 : w6.cell? ⟨w.heap.size, 1, none⟩ = some (.int .i64 A) := by rw [Lib.cell_of_heap H6.out.hs]; rfl
        have c2 : w6.cell? ⟨w.heap.size, 2, none⟩ = some (.int .i64 sb) := by rw [Lib.cell_of_heap H6.out.hs]; rfl
        have c3 : w6.cell? ⟨w.heap.size, 3, none⟩ = some (.int .i64 sc) := by rw [Lib.cell_of_heap H6.out.hs]; rfl
        go_wp2_with (with_reducible refine stay_store 37 _ _ rfl ?_)
        unfold Stay
        refine wpList_store_row rfl 37 _ _ rfl x0 #[.int .i8 1, .int .i64 A, .int .i64 V, .int .i64 0, .bool false] rfl rfl 37 _ H6.out.hx (by kernel_rfl) rfl (by simp [Value.oneCell']) ?_
        have H7 := hide' (H6.out.row (cs' := #[.int .i8 1, .int .i64 A, .int .i64 V, .int .i64 0, .bool false]))
        generalize hw7 : w6.setRow x0 #[.int .i8 1, .int .i64 A, .int .i64 V, .int .i64 0, .bool false] = w7 at *
        clear hw7 H6 c1 c2 c3
        have c1 : w7.cell? ⟨w.heap.size, 1, none⟩ = some (.int .i64 A) := by rw [Lib.cell_of_heap H7.out.hs]; rfl
        have Ht := hide' (H7.out.trace (by rw [List.length_append]; have := Hfew.out; simp; omega))
        go_wp2_with fail
        refine Ht.out.mono ?_
        rintro e w8 ⟨ro8, rc8, rfl, hr8, h8, hlx⟩
        have H8 := hide' h8
        obtain ⟨g8, rfl, l8, u8', m8, cc8⟩ := acs_cells hr8 (by simp)
        have hz := cc8 tr.length (⟨1, A, V, 0, false⟩ : Ac) (by simp)
        clear cc8 h8 Ht hr8 H7 c1
        have t0 := hz 0 (by omega)
        have t1 := hz 1 (by omega)
        have t2 := hz 2 (by omega)
        have t3 := hz 3 (by omega)
        have t4 := hz 4 (by omega)
        simp only [Ac.cells, List.getElem?_cons_zero, List.getElem?_cons_succ, Nat.add_zero] at t0 t1 t2 t3 t4
        have Hlen := hide' (show (tr ++ [(⟨1, A, V, 0, false⟩ : Ac)]).length = tr.length + 1 by simp)
        rw [Hlen.out]
        rw [Hlen.out] at m8
        have Hb := hide' H8.out.bads
        rw [show ((bad + 1 : Nat) : Int) = (bad : Int) + 1 from rfl] at Hb
        have hwt : wrap64 ((tr.length : Int) + 1) = (tr.length : Int) + 1 := wrap_kk _ (by have := Hfew.out; omega)
        have hwb : wrap64 ((bad : Int) + 1) = (bad : Int) + 1 := wrap_kk _ (by have := Hfew.out; have := Hbad.out; omega)
        have hb1 : ((bad : Int) == (bad : Int) + 1) = false := by simp; omega
        have hb2 : ((bad : Int) + 1 == (bad : Int)) = false := by simp; omega
        go_wp2_with fail
        refine Hb.out.mono ?_
        rintro e w9 ⟨rfl, hw9⟩
        replace hw9 := hw9.symm
        subst hw9
        go_wp2_with fail
        refine Hb.out.mono ?_
        rintro e w9 ⟨rfl, hw9⟩
        replace hw9 := hw9.symm
        subst hw9
        clear Hb
        have hne : g8 ≠ x0 := by omega
        generalize hM : tr.length + 1 = M at *
        have hix : tr.length < M := by omega
        clear hM hz Hlen hlx u8'
        have y0 : w8.cell? ⟨x0, 0, none⟩ = some (.int .i8 1) := by rw [Lib.cell_of_heap H8.out.hx]; rfl
        have y1 : w8.cell? ⟨x0, 1, none⟩ = some (.int .i64 A) := by rw [Lib.cell_of_heap H8.out.hx]; rfl
        have y2 : w8.cell? ⟨x0, 2, none⟩ = some (.int .i64 V) := by rw [Lib.cell_of_heap H8.out.hx]; rfl
        have y3 : w8.cell? ⟨x0, 3, none⟩ = some (.int .i64 0) := by rw [Lib.cell_of_heap H8.out.hx]; rfl
        have y4 : w8.cell? ⟨x0, 4, none⟩ = some (.bool false) := by rw [Lib.cell_of_heap H8.out.hx]; rfl
        have f3 : w8.frozen? ⟨x0, 3, none⟩ = false := Lib.frozen_of_heap H8.out.hx 3

        have HB := hide' H8.out.bel
        clear H8
        go_wp2_with fail
        have hseq := fun w => struct_eq 1 A V 0 false w
        have hgrd := grd
        go_quiet (fail)
        go_wp2
        go_ret
        exact ⟨rfl, below_drewN HB.out _⟩
end M
end Go.Proofs.Ytoejcpfodbegeaa
