import Derived.Test.YtnpdmeeolcjmlaaScM
set_option linter.unusedVariables false
set_option linter.unusedSimpArgs false
namespace Go.Proofs.Ytnpdmeeolcjmlaa
open Go.RowKit
namespace C
open M F
variable {w0 w w' : World} {n x y s lb l1 l2 k nx sv : Nat} {ps : List Wp} {wo qo : Option Addr} {wc qc K : Nat}
theorem wt_ok {ws : List Int} {nx sv : Nat} {t : Int} {has ho : Bool} (h : has = false → ho = false ∧ t = -1) : wH ws nx has = false → wO ws sv t has ho = false ∧ wT ws nx t has = -1 := by
  intro q
  cases has with
  | true => simp [wH] at q
  | false =>
    refine ⟨by simp [wO], ?_⟩
    have : good ws nx = false := by simpa [wH] using q
    unfold wT
    rw [if_neg (fun z => by unfold good at this; simp [z.2] at this)]
    exact (h rfl).2
/-- what stays while the program's waiter steps -/
theorem Sx.afterW {D R : Nat → Prop} {ws : List Int} {tr : List Ac} {bad : Nat} {i : Nat} {p : Wp} (hX : Sx w0 x y s lb l1 l2 k nx sv ps (ps.map (·.b)) (ps.map (·.q)) wo wc qo qc w) (hM : Mem D w0.heap.size x ws tr bad w) (hR : Rem R w0.heap.size y ws K tr bad w) (hdis : ∀ j, D j → ¬ R j) (hp : ps[i]? = some p) (t : Turn (fun j => D j ∨ j = p.b) w w') :
    w'.heap[s]? = w.heap[s]? ∧ (∀ j, At wo j → w'.heap[j]? = w.heap[j]?) ∧ (∀ j, At qo j → w'.heap[j]? = w.heap[j]?) ∧ RLk k y nx sv w' ∧ RWt p.q k p.t p.has p.ho w' ∧ Rem R w0.heap.size y ws K tr bad w' := by
  obtain ⟨_, hpw, hpr, _, _, _⟩ := hX.wt i p hp
  have nin : ∀ {j : Nat} {cs : Array Value} {T : TypeId} {z : Nat × Nat}, w.heap[j]? = some (.cells cs T z) → (T ≠ 68 ∧ T ≠ 3 ∧ T ≠ 83) → T ≠ 73 → ¬ (D j ∨ j = p.b) := fun hj h1 h2 q => by
    rcases q with q | q
    · exact hM.not hj h1 q
    · exact cells_ne hj hpw h2 q
  refine ⟨t.block s (lt_of_heap hX.hs) (nin hX.hs (by decide) (by decide)), fun j hj => ?_, fun j hj => ?_, hX.rk.kept t (nin hX.rk (by decide) (by decide)), hpr.kept t (nin hpr (by decide) (by decide)), hR.kept t (fun j hj q => ?_)⟩
  · obtain ⟨_, hl, cs, h'⟩ := row_at hX.rw hj
    exact t.block j hl (nin h' (by decide) (by decide))
  · obtain ⟨_, hl, cs, h'⟩ := row_at hX.rq hj
    exact t.block j hl (nin h' (by decide) (by decide))
  · rcases q with q | q
    · exact hdis j q hj
    · exact hR.not (q ▸ hpw) (by decide) hj
/-- a waiter's step on both sides is through -/
theorem Sn.waited {D R : Nat → Prop} {ws ws' : List Int} {tr tr' : List Ac} {bad bad' : Nat} {i : Nat} {p : Wp} {t' : Int} {has' ho' : Bool} {W2 W3 : World} (bel : Below w0.heap.size w0 w) (hX : Sx w0 x y s lb l1 l2 k nx sv ps (ps.map (·.b)) (ps.map (·.q)) wo wc qo qc w) (hM : Mem D w0.heap.size x ws tr bad w) (hR : Rem R w0.heap.size y ws K tr bad w) (hdis : ∀ j, D j → ¬ R j) (hp : ps[i]? = some p)
    (k2 : WTo D w0.heap.size x p.b p.l ws' tr' bad' t' has' ho' w W2) (k3 : RWTo R w0.heap.size y p.q k ws' (K + 1) tr' bad' t' has' ho' W2 W3) (hh : has' = false → ho' = false ∧ t' = -1) (h1 : ws'.length = n) (h2 : tr'.length ≤ K + 1) (h3 : ps.length ≤ K) :
    Sn w0 n x y s lb l1 l2 k nx sv (K + 1) W3 ∧ (W3.heap[s]? = w.heap[s]? ∧ (∀ j, At wo j → W3.heap[j]? = w.heap[j]?) ∧ (∀ j, At qo j → W3.heap[j]? = w.heap[j]?)) := by
  obtain ⟨hpl, hpw, hpr, _, hpb, hpq⟩ := hX.wt i p hp
  obtain ⟨D', hM2, hw2, t2, s2⟩ := k2
  obtain ⟨R', hR3, hw3, t3, s3⟩ := k3
  obtain ⟨asx, aw, aq, ak, ar, hR2⟩ := hX.afterW hM hR hdis hp t2
  have nq : ¬ D' p.q := hM2.not ar (by decide)
  have d1 : ∀ j, D' j → ¬ R j := fun j hj q => by
    rcases s2 j hj with z | z
    · exact hdis j z q
    · have := (hR.low q).2; omega
  have nin : ∀ {j : Nat} {cs : Array Value} {T : TypeId} {z : Nat × Nat}, W2.heap[j]? = some (.cells cs T z) → (T ≠ 77 ∧ T ≠ 100 ∧ T ≠ 83) → T ≠ 94 → ¬ (R j ∨ j = p.q) := fun hj h1 h2 q => by
    rcases q with q | q
    · exact hR2.not hj h1 q
    · exact cells_ne hj ar h2 q
  have hM3 := hM2.kept t3 (fun j hj q => by
    rcases q with q | q
    · exact d1 j hj q
    · exact nq (q ▸ hj))
  have hw3' : Wt p.b p.l t' has' ho' W3 := hw2.kept t3 (nin hw2 (by decide) (by decide))
  have tt : Turn (fun j => (D j ∨ j = p.b) ∨ (R j ∨ j = p.q)) w W3 := (t2.mono (fun j _ z => .inl z)).trans (t3.mono (fun j _ z => .inr z))
  have hX3 := hX.turn hp tt (fun j cs T z hj q => by
    rcases q with (q | q) | (q | q)
    · refine .inl (fun hk => ?_)
      obtain ⟨cs', T', e1, e2⟩ := hM.kind q
      rw [hj] at e1
      cases e1
      revert hk
      unfold SK
      rcases e2 with rfl | rfl | rfl <;> decide
    · exact .inr (.inl q)
    · refine .inl (fun hk => ?_)
      obtain ⟨cs', T', e1, e2⟩ := hR.kind q
      rw [hj] at e1
      cases e1
      revert hk
      unfold SK
      rcases e2 with rfl | rfl | rfl <;> decide
    · exact .inr (.inr q)) hw3' hw3 hh
  have hil := (List.getElem?_eq_some_iff.1 hp).1
  have mb : (ps.set i ⟨p.b, p.q, p.l, t', has', ho'⟩).map (·.b) = ps.map (·.b) := by
    rw [List.map_set]
    apply List.ext_getElem?
    intro j
    by_cases e : i = j
    · subst e; rw [List.getElem?_set_self (by simpa using hil)]; simp [hp]
    · rw [List.getElem?_set_ne e]
  have mq : (ps.set i ⟨p.b, p.q, p.l, t', has', ho'⟩).map (·.q) = ps.map (·.q) := by
    rw [List.map_set]
    apply List.ext_getElem?
    intro j
    by_cases e : i = j
    · subst e; rw [List.getElem?_set_self (by simpa using hil)]; simp [hp]
    · rw [List.getElem?_set_ne e]
  refine ⟨⟨bel.trans (tt.below (fun j hj => ?_) bel.size), _, ws', tr', bad', ps.set i ⟨p.b, p.q, p.l, t', has', ho'⟩, wo, wc, qo, qc, ⟨D', R', hM3, hR3, fun j hj q => ?_, fun j => Iff.rfl⟩, h1, h2, by rw [List.length_set]; omega, by rw [mb, mq]; exact hX3⟩, ?_, fun j hj => ?_, fun j hj => ?_⟩
  · rcases hj with (z | z) | (z | z)
    · exact (hM.lo z).1
    · rw [z]; exact hpb
    · exact (hR.low z).1
    · rw [z]; exact hpq
  · rcases s3 j q with z | z
    · exact d1 j hj z
    · have := (hM2.lo hj).2; omega
  · have e1 : W2.heap[s]? = _ := asx.trans hX.hs
    exact (t3.block s (lt_of_heap e1) (nin e1 (by decide) (by decide))).trans asx
  · obtain ⟨_, hl, cs, h'⟩ := row_at hX.rw hj
    have e1 := (aw j hj).trans h'
    exact (t3.block j (lt_of_heap e1) (nin e1 (by decide) (by decide))).trans (aw j hj)
  · obtain ⟨_, hl, cs, h'⟩ := row_at hX.rq hj
    have e1 := (aq j hj).trans h'
    exact (t3.block j (lt_of_heap e1) (nin e1 (by decide) (by decide))).trans (aq j hj)
set_option maxRecDepth 100000 in
set_option maxHeartbeats 4000000 in
theorem sc_step (N A V : Int) (h : Sn w0 n x y s lb l1 l2 k nx sv K w) (hK : K < 1999990) (hsv : sv < n):
    Calls Try.prog 17 #[.pointer (some ⟨s, 0, none⟩), .agg #[.int .i64 2, .int .i64 N, .int .i64 A, .int .i64 V]] w fun e w' => e = .returned (.bool true) ∧ Sn w0 n x y s lb l1 l2 k nx sv (K + 1) w' := by
  have h0 := h
  obtain ⟨bel, U, ws, tr, bad, ps, wo, wc, qo, qc, hP, hn, htr, hps, hX⟩ := h
  have hPr := hP
  obtain ⟨D, R, hM, hR, hdis, hU⟩ := hP
  have hB0 : Below w.heap.size w (w.alloc (.cells #[.int .i64 2, .int .i64 N, .int .i64 A, .int .i64 V] 52)) := (Below.refl _ _).alloc (Nat.le_refl _) _
  have hX0 := hX.below hB0
  have s2 := hX0.c2
  rw [List.length_map] at s2
  have hb0 : Bs w.heap.size 2 N A V (w.alloc (.cells #[.int .i64 2, .int .i64 N, .int .i64 A, .int .i64 V] 52)) := heap_alloc_new _ _
  have HSn : Hid (∀ V', Below w.heap.size w V' → Sn w0 n x y s lb l1 l2 k nx sv (K + 1) V') := hide' (fun V' hb => ⟨bel.trans (hb.mono bel.size), U, ws, tr, bad, ps, wo, wc, qo, qc, pr_more (hPr.below hb), hn, by omega, by omega, hX.below hb⟩)
  by_cases hz : ps.length = 0
  · have F := hide' (HSn.out _ hB0)
    rw [hz] at s2
    have q0 := hb0.c0
    clear h0 hPr hM hR hdis hU hX hX0 hb0 HSn hz hB0 hn htr hps bel
    go_enter Try.func17, Try.ntmps17
    go_wp2
    go_ret
    exact ⟨rfl, F.out⟩
  have hL0 : (0 : Int) < (ps.length : Int) := by omega
  have hi1 := Int.emod_nonneg N (b := (ps.length : Int)) (by omega)
  have hi2 := Int.emod_lt_of_pos N (b := (ps.length : Int)) hL0
  have HPk := hide' (fun V => pick_big N (ps.length : Int) V hL0 (by omega))
  generalize N % (ps.length : Int) = zi at *
  obtain ⟨i, rfl⟩ : ∃ i : Nat, zi = (i : Int) := ⟨zi.toNat, by omega⟩
  have hil : i < ps.length := by omega
  obtain ⟨p, hp⟩ : ∃ p, ps[i]? = some p := ⟨_, List.getElem?_eq_getElem hil⟩
  obtain ⟨wg, rfl, cwg⟩ := ptr_cell (i := i) (b := p.b) hX0.rw (by simp [hp])
  obtain ⟨qg, rfl, cqg⟩ := ptr_cell (i := i) (b := p.q) hX0.rq (by simp [hp])
  have hdz : ((ps.length : Int) == 0) = false := by rw [beq_eq_false_iff_ne]; omega
  have b0 := hb0.c0
  have b1 := hb0.c1
  have s5 := hX0.c5
  rw [List.length_map] at s5
  obtain ⟨hpl, hpw, hpr, hph, _, _⟩ := hX0.wt i p hp
  have HLk : Hid (∀ V', Sx w0 x y s lb l1 l2 k nx sv ps (ps.map (·.b)) (ps.map (·.q)) (some ⟨wg, 0, none⟩) wc (some ⟨qg, 0, none⟩) qc V' → Lk p.l x nx sv V') := hide' (fun V' hx => by rcases hpl with e | e <;> rw [e]; exact hx.k1; exact hx.k2)
  have HWt : Hid (∀ V', Below w.heap.size w V' → Sx w0 x y s lb l1 l2 k nx sv ps (ps.map (·.b)) (ps.map (·.q)) (some ⟨wg, 0, none⟩) wc (some ⟨qg, 0, none⟩) qc V' ∧ Mem D w0.heap.size x ws tr bad V' ∧ Rem R w0.heap.size y ws K tr bad V') := hide' (fun V' hb => ⟨hX.below hb, hM.below hb, hR.below hb⟩)
  have HPp := hide' (And.intro hp hph)
  have HD := hide' (And.intro hdis (And.intro bel (And.intro htr hps)))
  have HN := hide' (And.intro hK (And.intro hn hsv))
  have HB0 := hide' hB0
  have ltw : s < (w.alloc (.cells #[.int .i64 2, .int .i64 N, .int .i64 A, .int .i64 V] 52)).heap.size := lt_of_heap hX0.hs
  have c2W := hX0.c2
  clear h0 hPr hM hR hdis hU hX hb0 hB0 hn htr hps bel hp hph hpl hK hsv hz hi1 hi2 hpw hpr c2W
  have HX0 := hide' hX0
  have hil' : (i : Int) < (ps.length : Int) := by omega
  clear hX0
  generalize hLg : ps.length = L at *
  have HLg := hide' hLg
  clear hLg hil
  go_enter Try.func17, Try.ntmps17
  go_wp2_with fail
  generalize (w.alloc (.cells #[.int .i64 2, .int .i64 N, .int .i64 A, .int .i64 V] 52)) = W at *
  generalize hβg : w.heap.size = β at *
  have HBg := hide' hβg
  clear hβg
  go_quiet ((go_at_call 13; exact Calls.quiet_of_same (HPk.out _)))
  have HB1 : Hid (Below β w (W.drewN nq)) := hide' (HB0.out.trans ⟨rfl, rfl, rfl, Nat.le_refl _, fun _ _ => rfl⟩)
  replace s2 : (W.drewN nq).cell? ⟨s, 2, none⟩ = some (.slice (some ⟨wg, 0, none⟩) L wc) := s2
  replace s5 : (W.drewN nq).cell? ⟨s, 5, none⟩ = some (.slice (some ⟨qg, 0, none⟩) L qc) := s5
  replace cwg : (W.drewN nq).cell? ⟨wg, i, none⟩ = some (.pointer (some ⟨p.b, 0, none⟩)) := cwg
  replace cqg : (W.drewN nq).cell? ⟨qg, i, none⟩ = some (.pointer (some ⟨p.q, 0, none⟩)) := cqg
  replace b0 : (W.drewN nq).cell? ⟨β, 0, none⟩ = some (.int .i64 2) := b0
  clear b1 ltw HX0 HB0 hdz HPk hL0
  generalize W.drewN nq = V1 at *
  go_wp2_with fail
  have HBl : Hid (Below w0.heap.size w0 V1.drew) := hide' (by
    have z1 := HD.out.2.1
    have z2 := HB1.out
    rw [← HBg.out] at z2
    exact (z1.trans (z2.mono z1.size)).drew)
  have HV : Hid (Sx w0 x y s lb l1 l2 k nx sv ps (ps.map (·.b)) (ps.map (·.q)) (some ⟨wg, 0, none⟩) wc (some ⟨qg, 0, none⟩) qc V1.drew ∧ Mem D w0.heap.size x ws tr bad V1.drew ∧ Rem R w0.heap.size y ws K tr bad V1.drew) := hide' (HWt.out _ HB1.out.drew)
  have HLp : Hid (Lk p.l x nx sv V1.drew ∧ Wt p.b p.l p.t p.has p.ho V1.drew) := hide' ⟨HLk.out _ HV.out.1, (HV.out.1.wt i p HPp.out.1).2.1⟩
  have HC := hide' (step_any HV.out.2.1 HLp.out.1 HLp.out.2 (fun z => (HPp.out.2 z).1) (by have := HD.out; have := HN.out; omega))
  go_region_held3 (fun w' => w'.cell? ⟨s, 2, none⟩ = some (.slice (some ⟨wg, 0, none⟩) L wc) ∧ w'.cell? ⟨s, 5, none⟩ = some (.slice (some ⟨qg, 0, none⟩) L qc) ∧ w'.cell? ⟨wg, i, none⟩ = some (.pointer (some ⟨p.b, 0, none⟩)) ∧ w'.cell? ⟨qg, i, none⟩ = some (.pointer (some ⟨p.q, 0, none⟩))) (first | exact ⟨s2, s5, cwg, cqg⟩ | exact k2 | exact k3) ((first | (go_at_call 11; refine HC.out.mono ?_; rintro e w2 ⟨rfl, t2⟩; have A2 := HV.out.1.afterW HV.out.2.1 HV.out.2.2 HD.out.1 HPp.out.1 (by obtain ⟨_, _, _, z, _⟩ := t2; exact z); have k2 : w2.cell? ⟨s, 2, none⟩ = some (.slice (some ⟨wg, 0, none⟩) L wc) ∧ w2.cell? ⟨s, 5, none⟩ = some (.slice (some ⟨qg, 0, none⟩) L qc) ∧ w2.cell? ⟨wg, i, none⟩ = some (.pointer (some ⟨p.b, 0, none⟩)) ∧ w2.cell? ⟨qg, i, none⟩ = some (.pointer (some ⟨p.q, 0, none⟩)) := ⟨(World.cell?_of_block (w := V1.drew) A2.1).trans s2, (World.cell?_of_block (w := V1.drew) A2.1).trans s5, (World.cell?_of_block (w := V1.drew) (A2.2.1 wg ⟨_, rfl, rfl⟩)).trans cwg, (World.cell?_of_block (w := V1.drew) (A2.2.2.1 qg ⟨_, rfl, rfl⟩)).trans cqg⟩; have Hr := hide' (rstep_any A2.2.2.2.2.2 A2.2.2.2.1 A2.2.2.2.2.1 (fun z => (HPp.out.2 z).1) (by have := HD.out; have := HN.out; omega) (by have := HN.out; omega)); have T2 := hide' t2; clear t2 A2) | (go_at_call 37; refine Hr.out.mono ?_; rintro e w3 ⟨rfl, t3⟩; have F3 := hide' (Sn.waited (n := n) HBl.out HV.out.1 HV.out.2.1 HV.out.2.2 HD.out.1 HPp.out.1 T2.out t3 (wt_ok HPp.out.2) (by have := HN.out.2.1; unfold wM; split; rw [put_len]; exact this; exact this) (by have := HD.out.2.2.1; unfold wR; split; simp; omega; split; simp; omega; simp; omega) (by rw [HLg.out]; exact HD.out.2.2.2)); have k3 : w3.cell? ⟨s, 2, none⟩ = some (.slice (some ⟨wg, 0, none⟩) L wc) ∧ w3.cell? ⟨s, 5, none⟩ = some (.slice (some ⟨qg, 0, none⟩) L qc) ∧ w3.cell? ⟨wg, i, none⟩ = some (.pointer (some ⟨p.b, 0, none⟩)) ∧ w3.cell? ⟨qg, i, none⟩ = some (.pointer (some ⟨p.q, 0, none⟩)) := ⟨(World.cell?_of_block (w := V1.drew) F3.out.2.1).trans s2, (World.cell?_of_block (w := V1.drew) F3.out.2.1).trans s5, (World.cell?_of_block (w := V1.drew) (F3.out.2.2.1 wg ⟨_, rfl, rfl⟩)).trans cwg, (World.cell?_of_block (w := V1.drew) (F3.out.2.2.2 qg ⟨_, rfl, rfl⟩)).trans cqg⟩; clear t3)))
  rename_i hHeld
  clear hHeld
  have F := hide' F3.out.1
  clear HC Hr HSn HWt HLk HPp HB1 cwg cqg s2 s5 k2 k3 F3 T2 HD HBl HV HLp
  go_wp2
  go_ret
  exact ⟨by first | rfl | simp, F.out⟩
end C
end Go.Proofs.Ytnpdmeeolcjmlaa
