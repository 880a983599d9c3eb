import Derived.Test.YtnpdmeeolcjmlaaScL
set_option linter.unusedVariables false
set_option linter.unusedSimpArgs false
namespace Go.Proofs.Ytnpdmeeolcjmlaa
open Go.RowKit
namespace C
open M F
variable {w0 w w' : World} {n x y s lb l1 l2 k nx sv : Nat} {ps : List Wp} {bw bq : List Nat} {wo qo : Option Addr} {wc qc K : Nat}
theorem mod2 (N : Int) : ∃ e : Nat, e < 2 ∧ N % 2 = (e : Int) := ⟨(N % 2).toNat, by omega, by omega⟩
set_option maxRecDepth 100000 in
set_option maxHeartbeats 4000000 in
theorem sc_leave (N A V : Int) (h : Sn w0 n x y s lb l1 l2 k nx sv K w) (hK : K < 1999999999990) :
    Calls Try.prog 17 #[.pointer (some ⟨s, 0, none⟩), .agg #[.int .i64 5, .int .i64 N, .int .i64 A, .int .i64 V]] w fun e w' => e = .returned (.bool true) ∧ Sn w0 n x y s lb l1 l2 k nx sv (K + 1) w' := by
  obtain ⟨bel, U, ws, tr, bad, ps, wo, wc, qo, qc, hP, hn, htr, hps, hX⟩ := h
  obtain ⟨D, R, hM, hR, hdis, hU⟩ := hP
  have hB : Below w.heap.size w (w.alloc (.cells #[.int .i64 5, .int .i64 N, .int .i64 A, .int .i64 V] 52)).drew := ((Below.refl _ _).alloc (Nat.le_refl _) _).drew
  have hM1 := hM.below hB
  have hR1 := hR.below hB
  have hX1 := hX.below hB
  have hb1 : Bs w.heap.size 5 N A V (w.alloc (.cells #[.int .i64 5, .int .i64 N, .int .i64 A, .int .i64 V] 52)).drew := heap_alloc_new _ _
  have HF := hide' (fun W2 W3 ws' tr' bad' t2 t3 h1 h2 => Sn.pair (n := n) (W2 := W2) (W3 := W3) (ws' := ws') (tr' := tr') (bad' := bad') (bel.trans (hB.mono bel.size)) hM1 hR1 hdis hX1 t2 t3 h1 h2 hps)
  have HX := hide' (And.intro hM1 (And.intro hR1 (And.intro hX1 (And.intro hb1 hdis))))
  have HK := hide' (And.intro hK (And.intro htr hn))
  obtain ⟨β, hβ⟩ : ∃ β, w.heap.size = β := ⟨_, rfl⟩
  have lts : s < w.heap.size := lt_of_heap hX.hs
  have s0 := hX.c0
  have s1 := hX.c1
  have s3 := hX.c3
  have s4 := hX.c4
  obtain ⟨e, he, hme⟩ := mod2 N
  have he' : (e : Int) < 2 := by omega
  have HP := hide' (fun V => pick_big N 2 V (by omega) (by omega))
  rw [hme] at HP
  obtain ⟨l, hl, hlk, cl⟩ := hX1.lk e he
  obtain ⟨l', _, _, cl0⟩ := hX.lk e he
  have HC := hide' (leave_any hM1 hlk (by omega))
  have Hcl := hide' (fun (V : World) (K : Sx w0 x y s lb l1 l2 k nx sv ps (ps.map (·.b)) (ps.map (·.q)) wo wc qo qc V) => show V.cell? ⟨lb, e, none⟩ = some (.pointer (some ⟨l, 0, none⟩)) by
    have z1 := Lib.cell_of_heap (j := e) K.hL
    have z2 := Lib.cell_of_heap (j := e) hX1.hL
    rw [cl] at z2
    rw [z1, ← z2])
  have K1 := hX1
  have B1 := hb1
  clear hM hR hX hM1 hR1 hX1 hb1 hdis hU hK htr hn hps bel hB hβ hme hlk he cl0 hl
  go_enter Try.func17, Try.ntmps17
  go_wp2_with fail
  go_region_held3 (fun w' => w'.cell? ⟨s, 1, none⟩ = some (.slice (some ⟨lb, 0, none⟩) 2 2) ∧ w'.cell? ⟨s, 4, none⟩ = some (.pointer (some ⟨k, 0, none⟩)) ∧ w'.cell? ⟨w.heap.size, 1, none⟩ = some (.int .i64 N) ∧ w'.cell? ⟨lb, e, none⟩ = some (.pointer (some ⟨l, 0, none⟩))) (first | exact ⟨K1.c1, K1.c4, B1.c1, cl⟩ | exact ⟨K2.c1, K2.c4, B2.c1, Hcl.out _ K2⟩ | exact ⟨K3.c1, K3.c4, B3.c1, Hcl.out _ K3⟩ | go_keep) ((first | (go_at_call 13; refine (HP.out _).mono ?_; rintro e1 w1 ⟨rfl, rfl⟩) | (go_at_call 25; refine HC.out.mono ?_; rintro e1 w2 ⟨rfl, t2⟩; have K2 := HX.out.2.2.1.mem HX.out.1 (by obtain ⟨_, _, z, _⟩ := t2; exact z); have B2 := HX.out.2.2.2.1.mem HX.out.1 (by obtain ⟨_, _, z, _⟩ := t2; exact z); have R2 := rem_behind HX.out.2.1 HX.out.2.2.2.2 t2; have Hr := hide' (rleave_any R2 K2.rk (by have := HK.out; omega) (by have := HK.out; omega)); have T2 := hide' t2; have HR2 := hide' R2; have HK2 := hide' (And.intro K2 B2); clear t2 R2) | (go_at_call 31; refine Hr.out.mono ?_; rintro e1 w3 ⟨rfl, t3⟩; have K3 := HK2.out.1.rem HR2.out (by obtain ⟨_, _, z, _⟩ := t3; exact z); have B3 := HK2.out.2.rem HR2.out (by obtain ⟨_, _, z, _⟩ := t3; exact z); have T3 := hide' t3; clear t3)))
  rename_i hHeld
  clear hHeld
  have F := hide' (HF.out _ _ _ _ _ T2.out T3.out (by rw [put_len]; exact HK.out.2.2) (by have := HK.out; simp; omega))
  clear HC Hr K2 B2 K3 B3 T2 T3 HK2 HR2 HX HF K1 B1 cl Hcl
  go_wp2
  go_ret
  exact ⟨by first | rfl | simp, F.out⟩
set_option maxRecDepth 100000 in
set_option maxHeartbeats 4000000 in
theorem sc_ticket (N A V : Int) (h : Sn w0 n x y s lb l1 l2 k nx sv K w) (hK : K < 1999990) (hsv : sv < n):
    Calls Try.prog 17 #[.pointer (some ⟨s, 0, none⟩), .agg #[.int .i64 4, .int .i64 N, .int .i64 A, .int .i64 V]] w fun e w' => e = .returned (.bool true) ∧ Sn w0 n x y s lb l1 l2 k nx sv (K + 1) w' := by
  have h0 := h
  obtain ⟨bel, U, ws, tr, bad, ps, wo, wc, qo, qc, hP, hn, htr, hps, hX⟩ := h
  have hPr := hP
  obtain ⟨D, R, hM, hR, hdis, hU⟩ := hP
  have hB0 : Below w.heap.size w (w.alloc (.cells #[.int .i64 4, .int .i64 N, .int .i64 A, .int .i64 V] 52)) := (Below.refl _ _).alloc (Nat.le_refl _) _
  have hX0 := hX.below hB0
  have s2 := hX0.c2
  rw [List.length_map] at s2
  have hb0 : Bs w.heap.size 4 N A V (w.alloc (.cells #[.int .i64 4, .int .i64 N, .int .i64 A, .int .i64 V] 52)) := heap_alloc_new _ _
  have HSn : Hid (∀ V', Below w.heap.size w V' → Sn w0 n x y s lb l1 l2 k nx sv (K + 1) V') := hide' (fun V' hb => ⟨bel.trans (hb.mono bel.size), U, ws, tr, bad, ps, wo, wc, qo, qc, pr_more (hPr.below hb), hn, by omega, by omega, hX.below hb⟩)
  by_cases hz : ps.length = 0
  · have F := hide' (HSn.out _ hB0)
    rw [hz] at s2
    have q0 := hb0.c0
    clear h0 hPr hM hR hdis hU hX hX0 hb0 HSn hz hB0 hn htr hps bel
    go_enter Try.func17, Try.ntmps17
    go_wp2
    go_ret
    exact ⟨rfl, F.out⟩
  have hL0 : (0 : Int) < (ps.length : Int) := by omega
  have hi1 := Int.emod_nonneg N (b := (ps.length : Int)) (by omega)
  have hi2 := Int.emod_lt_of_pos N (b := (ps.length : Int)) hL0
  have HPk := hide' (fun V => pick_big N (ps.length : Int) V hL0 (by omega))
  generalize N % (ps.length : Int) = zi at *
  obtain ⟨i, rfl⟩ : ∃ i : Nat, zi = (i : Int) := ⟨zi.toNat, by omega⟩
  have hil : i < ps.length := by omega
  obtain ⟨p, hp⟩ : ∃ p, ps[i]? = some p := ⟨_, List.getElem?_eq_getElem hil⟩
  obtain ⟨wg, rfl, cwg⟩ := ptr_cell (i := i) (b := p.b) hX0.rw (by simp [hp])
  obtain ⟨qg, rfl, cqg⟩ := ptr_cell (i := i) (b := p.q) hX0.rq (by simp [hp])
  have hdz : ((ps.length : Int) == 0) = false := by rw [beq_eq_false_iff_ne]; omega
  have b0 := hb0.c0
  have b1 := hb0.c1
  have s5 := hX0.c5
  rw [List.length_map] at s5
  obtain ⟨hpl, hpw, hpr, hph, _, _⟩ := hX0.wt i p hp
  have HLk : Hid (∀ V', Sx w0 x y s lb l1 l2 k nx sv ps (ps.map (·.b)) (ps.map (·.q)) (some ⟨wg, 0, none⟩) wc (some ⟨qg, 0, none⟩) qc V' → Lk p.l x nx sv V') := hide' (fun V' hx => by rcases hpl with e | e <;> rw [e]; exact hx.k1; exact hx.k2)
  have HWt : Hid (∀ V', Below w.heap.size w V' → Sx w0 x y s lb l1 l2 k nx sv ps (ps.map (·.b)) (ps.map (·.q)) (some ⟨wg, 0, none⟩) wc (some ⟨qg, 0, none⟩) qc V' ∧ Mem D w0.heap.size x ws tr bad V' ∧ Rem R w0.heap.size y ws K tr bad V') := hide' (fun V' hb => ⟨hX.below hb, hM.below hb, hR.below hb⟩)
  have HPp := hide' (And.intro hp hph)
  have HN := hide' (And.intro hK (And.intro hn hsv))
  have HB0 := hide' hB0
  have ltw : s < (w.alloc (.cells #[.int .i64 4, .int .i64 N, .int .i64 A, .int .i64 V] 52)).heap.size := lt_of_heap hX0.hs
  have c2W := hX0.c2
  clear h0 hPr hM hR hdis hU hX hb0 hB0 hn htr hps bel hp hph hpl hK hsv hz hi1 hi2 hpw hpr c2W
  have HX0 := hide' hX0
  have hil' : (i : Int) < (ps.length : Int) := by omega
  clear hX0
  generalize hLg : ps.length = L at *
  have HLg := hide' hLg
  clear hLg hil
  go_enter Try.func17, Try.ntmps17
  go_wp2_with fail
  generalize (w.alloc (.cells #[.int .i64 4, .int .i64 N, .int .i64 A, .int .i64 V] 52)) = W at *
  generalize hβg : w.heap.size = β at *
  have HBg := hide' hβg
  clear hβg
  go_quiet ((go_at_call 13; exact Calls.quiet_of_same (HPk.out _)))
  have HB1 : Hid (Below β w (W.drewN nq)) := hide' (HB0.out.trans ⟨rfl, rfl, rfl, Nat.le_refl _, fun _ _ => rfl⟩)
  replace s2 : (W.drewN nq).cell? ⟨s, 2, none⟩ = some (.slice (some ⟨wg, 0, none⟩) L wc) := s2
  replace s5 : (W.drewN nq).cell? ⟨s, 5, none⟩ = some (.slice (some ⟨qg, 0, none⟩) L qc) := s5
  replace cwg : (W.drewN nq).cell? ⟨wg, i, none⟩ = some (.pointer (some ⟨p.b, 0, none⟩)) := cwg
  replace cqg : (W.drewN nq).cell? ⟨qg, i, none⟩ = some (.pointer (some ⟨p.q, 0, none⟩)) := cqg
  replace b0 : (W.drewN nq).cell? ⟨β, 0, none⟩ = some (.int .i64 4) := b0
  clear b1 ltw HX0 HB0 hdz HPk hL0
  generalize W.drewN nq = V1 at *
  go_wp2_with fail
  have HT1 := hide' (fun nn => ticket_any (show Wt p.b p.l p.t p.has p.ho (V1.drewN nn) from ((HWt.out V1 HB1.out).1.wt i p HPp.out.1).2.1))
  have HT2 := hide' (fun nn => rticket_any (show RWt p.q k p.t p.has p.ho (V1.drewN nn) from ((HWt.out V1 HB1.out).1.wt i p HPp.out.1).2.2.1) (fun z => (HPp.out.2 z).2))
  go_quiet ((first | (go_at_call 12; exact Calls.quiet_of_same (HT1.out _)) | (go_at_call 39; exact Calls.quiet_of_same (HT2.out _))))
  have F := hide' (HSn.out (V1.drewN nq) (HB1.out.trans ⟨rfl, rfl, rfl, Nat.le_refl _, fun _ _ => rfl⟩))
  clear HT1 HT2 HSn HWt HLk HPp HB1 cwg cqg s2 s5
  go_wp2
  go_ret
  exact ⟨by first | rfl | simp, F.out⟩
set_option maxRecDepth 100000 in
set_option maxHeartbeats 4000000 in
theorem sc_ready (N A V : Int) (h : Sn w0 n x y s lb l1 l2 k nx sv K w) (hK : K < 1999990) (hsv : sv < n):
    Calls Try.prog 17 #[.pointer (some ⟨s, 0, none⟩), .agg #[.int .i64 3, .int .i64 N, .int .i64 A, .int .i64 V]] w fun e w' => e = .returned (.bool true) ∧ Sn w0 n x y s lb l1 l2 k nx sv (K + 1) w' := by
  have h0 := h
  obtain ⟨bel, U, ws, tr, bad, ps, wo, wc, qo, qc, hP, hn, htr, hps, hX⟩ := h
  have hPr := hP
  obtain ⟨D, R, hM, hR, hdis, hU⟩ := hP
  have hB0 : Below w.heap.size w (w.alloc (.cells #[.int .i64 3, .int .i64 N, .int .i64 A, .int .i64 V] 52)) := (Below.refl _ _).alloc (Nat.le_refl _) _
  have hX0 := hX.below hB0
  have s2 := hX0.c2
  rw [List.length_map] at s2
  have hb0 : Bs w.heap.size 3 N A V (w.alloc (.cells #[.int .i64 3, .int .i64 N, .int .i64 A, .int .i64 V] 52)) := heap_alloc_new _ _
  have HSn : Hid (∀ V', Below w.heap.size w V' → Sn w0 n x y s lb l1 l2 k nx sv (K + 1) V') := hide' (fun V' hb => ⟨bel.trans (hb.mono bel.size), U, ws, tr, bad, ps, wo, wc, qo, qc, pr_more (hPr.below hb), hn, by omega, by omega, hX.below hb⟩)
  by_cases hz : ps.length = 0
  · have F := hide' (HSn.out _ hB0)
    rw [hz] at s2
    have q0 := hb0.c0
    clear h0 hPr hM hR hdis hU hX hX0 hb0 HSn hz hB0 hn htr hps bel
    go_enter Try.func17, Try.ntmps17
    go_wp2
    go_ret
    exact ⟨rfl, F.out⟩
  have hL0 : (0 : Int) < (ps.length : Int) := by omega
  have hi1 := Int.emod_nonneg N (b := (ps.length : Int)) (by omega)
  have hi2 := Int.emod_lt_of_pos N (b := (ps.length : Int)) hL0
  have HPk := hide' (fun V => pick_big N (ps.length : Int) V hL0 (by omega))
  generalize N % (ps.length : Int) = zi at *
  obtain ⟨i, rfl⟩ : ∃ i : Nat, zi = (i : Int) := ⟨zi.toNat, by omega⟩
  have hil : i < ps.length := by omega
  obtain ⟨p, hp⟩ : ∃ p, ps[i]? = some p := ⟨_, List.getElem?_eq_getElem hil⟩
  obtain ⟨wg, rfl, cwg⟩ := ptr_cell (i := i) (b := p.b) hX0.rw (by simp [hp])
  obtain ⟨qg, rfl, cqg⟩ := ptr_cell (i := i) (b := p.q) hX0.rq (by simp [hp])
  have hdz : ((ps.length : Int) == 0) = false := by rw [beq_eq_false_iff_ne]; omega
  have b0 := hb0.c0
  have b1 := hb0.c1
  have s5 := hX0.c5
  rw [List.length_map] at s5
  obtain ⟨hpl, hpw, hpr, hph, _, _⟩ := hX0.wt i p hp
  have HLk : Hid (∀ V', Sx w0 x y s lb l1 l2 k nx sv ps (ps.map (·.b)) (ps.map (·.q)) (some ⟨wg, 0, none⟩) wc (some ⟨qg, 0, none⟩) qc V' → Lk p.l x nx sv V') := hide' (fun V' hx => by rcases hpl with e | e <;> rw [e]; exact hx.k1; exact hx.k2)
  have HWt : Hid (∀ V', Below w.heap.size w V' → Sx w0 x y s lb l1 l2 k nx sv ps (ps.map (·.b)) (ps.map (·.q)) (some ⟨wg, 0, none⟩) wc (some ⟨qg, 0, none⟩) qc V' ∧ Mem D w0.heap.size x ws tr bad V' ∧ Rem R w0.heap.size y ws K tr bad V') := hide' (fun V' hb => ⟨hX.below hb, hM.below hb, hR.below hb⟩)
  have HPp := hide' (And.intro hp hph)
  have HN := hide' (And.intro hK (And.intro hn hsv))
  have HB0 := hide' hB0
  have ltw : s < (w.alloc (.cells #[.int .i64 3, .int .i64 N, .int .i64 A, .int .i64 V] 52)).heap.size := lt_of_heap hX0.hs
  have c2W := hX0.c2
  clear h0 hPr hM hR hdis hU hX hb0 hB0 hn htr hps bel hp hph hpl hK hsv hz hi1 hi2 hpw hpr c2W
  have HX0 := hide' hX0
  have hil' : (i : Int) < (ps.length : Int) := by omega
  clear hX0
  generalize hLg : ps.length = L at *
  have HLg := hide' hLg
  clear hLg hil
  go_enter Try.func17, Try.ntmps17
  go_wp2_with fail
  generalize (w.alloc (.cells #[.int .i64 3, .int .i64 N, .int .i64 A, .int .i64 V] 52)) = W at *
  generalize hβg : w.heap.size = β at *
  have HBg := hide' hβg
  clear hβg
  go_quiet ((go_at_call 13; exact Calls.quiet_of_same (HPk.out _)))
  have HB1 : Hid (Below β w (W.drewN nq)) := hide' (HB0.out.trans ⟨rfl, rfl, rfl, Nat.le_refl _, fun _ _ => rfl⟩)
  replace s2 : (W.drewN nq).cell? ⟨s, 2, none⟩ = some (.slice (some ⟨wg, 0, none⟩) L wc) := s2
  replace s5 : (W.drewN nq).cell? ⟨s, 5, none⟩ = some (.slice (some ⟨qg, 0, none⟩) L qc) := s5
  replace cwg : (W.drewN nq).cell? ⟨wg, i, none⟩ = some (.pointer (some ⟨p.b, 0, none⟩)) := cwg
  replace cqg : (W.drewN nq).cell? ⟨qg, i, none⟩ = some (.pointer (some ⟨p.q, 0, none⟩)) := cqg
  replace b0 : (W.drewN nq).cell? ⟨β, 0, none⟩ = some (.int .i64 3) := b0
  clear b1 ltw HX0 HB0 hdz HPk hL0
  generalize W.drewN nq = V1 at *
  go_wp2_with fail
  have BL : Hid (∀ (V V' : World), Below β w V → Below V.heap.size V.drew V' → Below β w V') := hide' (fun V V' hb hb' => by
    have hz : β ≤ V.heap.size := by have := hb.size; rw [HBg.out] at this; exact this
    have h2 : Below V.heap.size V V' := ⟨hb'.os, hb'.tape, hb'.output, hb'.size, hb'.block⟩
    exact hb.trans (h2.mono hz))
  have BL2 : Hid (∀ (V V' : World), Below β w V → Below V.heap.size V V' → Below β w V') := hide' (fun V V' hb hb' => by
    have hz : β ≤ V.heap.size := by have := hb.size; rw [HBg.out] at this; exact this
    exact hb.trans (hb'.mono hz))
  have CE : Hid (∀ (V : World), Below β w V → V.cell? ⟨s, 2, none⟩ = some (.slice (some ⟨wg, 0, none⟩) L wc) ∧ V.cell? ⟨s, 5, none⟩ = some (.slice (some ⟨qg, 0, none⟩) L qc) ∧ V.cell? ⟨wg, i, none⟩ = some (.pointer (some ⟨p.b, 0, none⟩)) ∧ V.cell? ⟨qg, i, none⟩ = some (.pointer (some ⟨p.q, 0, none⟩))) := hide' (fun V hb => by
    have hx := (HWt.out V hb).1
    have z2 := hx.c2
    have z5 := hx.c5
    rw [List.length_map, HLg.out] at z2 z5
    obtain ⟨g1, e1, z3⟩ := ptr_cell (i := i) (b := p.b) hx.rw (by simp [HPp.out.1])
    obtain ⟨g2, e2, z4⟩ := ptr_cell (i := i) (b := p.q) hx.rq (by simp [HPp.out.1])
    cases e1
    cases e2
    exact ⟨z2, z5, z3, z4⟩)
  have HC := hide' (ready_any (HWt.out V1 HB1.out).2.1.drew (show Lk p.l x nx sv V1.drew from HLk.out V1 (HWt.out V1 HB1.out).1) (show Wt p.b p.l p.t p.has p.ho V1.drew from ((HWt.out V1 HB1.out).1.wt i p HPp.out.1).2.1) (by have := HN.out; omega))
  go_region_held3 (fun w' => w'.cell? ⟨s, 2, none⟩ = some (.slice (some ⟨wg, 0, none⟩) L wc) ∧ w'.cell? ⟨s, 5, none⟩ = some (.slice (some ⟨qg, 0, none⟩) L qc) ∧ w'.cell? ⟨wg, i, none⟩ = some (.pointer (some ⟨p.b, 0, none⟩)) ∧ w'.cell? ⟨qg, i, none⟩ = some (.pointer (some ⟨p.q, 0, none⟩))) (first | exact ⟨s2, s5, cwg, cqg⟩ | exact k2 | exact k3) ((first | (go_at_call 24; refine HC.out.mono ?_; rintro e w2 ⟨rfl, b2⟩; have B2 := hide' (BL.out _ _ HB1.out b2); have k2 := CE.out _ B2.out; have Hr := hide' (rready_any (HWt.out w2 B2.out).2.2 (HWt.out w2 B2.out).1.rk ((HWt.out w2 B2.out).1.wt i p HPp.out.1).2.2.1 (by have := HN.out; omega) (by have := HN.out; omega)); clear b2) | (go_at_call 38; refine Hr.out.mono ?_; rintro e w3 ⟨rfl, b3⟩; have B3 := hide' (BL2.out _ _ B2.out b3); have k3 := CE.out _ B3.out; clear b3)))
  rename_i hHeld
  clear hHeld
  have F := hide' (HSn.out w3 B3.out)
  clear HC Hr HSn HWt HLk HPp HB1 cwg cqg s2 s5 k2 k3 B2 B3 BL BL2 CE
  go_wp2
  go_ret
  exact ⟨by first | rfl | simp, F.out⟩
end C
end Go.Proofs.Ytnpdmeeolcjmlaa
