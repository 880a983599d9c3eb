import Derived.Test.YtgbhcfephhbalaaAll
import Derived.Laws.BitsAllLaws
import Derived.Deep.RegionHeld3
set_option linter.unusedVariables false
set_option linter.unusedSimpArgs false
namespace Go.Proofs.Ytgbhcfephhbalaa
open Go.RowKit Go.Maps
namespace U
theorem u16_pow (j : Nat) (hj : j < 16) : IntKind.u16.wrap (2 ^ j) = ((2 ^ j : Nat) : Int) ∧ (2 : Nat) ^ j < 65536 := by
  have hp : (2 : Nat) ^ j < 2 ^ 16 := Nat.pow_lt_pow_right (by omega) hj
  refine ⟨?_, hp⟩
  rw [show (2 : Int) ^ j = ((2 ^ j : Nat) : Int) by simp]
  generalize (2 : Nat) ^ j = z at *
  simp [IntKind.wrap, IntKind.signed, IntKind.bits]
  omega
/-- a mask, by its bits -/
theorem mkn_bits (F : Pf) (ts to : ByteArray) (n : Nat) (h : n ≤ 16) (hl : n ≤ F.a.2.2.length) : ∃ m : Nat, mkn F ts to n = (m : Int) ∧ m < 2 ^ n ∧ ∀ k a, k < n → F.a.2.2[k]? = some a → m.testBit k = alw F ts to a := by
  induction n with
  | zero => exact ⟨0, rfl, by simp, fun k a hk => by omega⟩
  | succ n ih =>
    obtain ⟨m, h1, h2, h3⟩ := ih (by omega) (by omega)
    obtain ⟨ac, hac⟩ : ∃ ac, F.a.2.2[n]? = some ac := ⟨_, List.getElem?_eq_getElem (by omega)⟩
    have hp := u16_pow n (by omega)
    have hm : m < 65536 := Nat.lt_trans h2 hp.2
    rw [mkn_at hac]
    by_cases q : alw F ts to ac = true
    · rw [if_pos q, h1, hp.1, u16_or_nat m (2 ^ n) hm hp.2]
      refine ⟨m ||| 2 ^ n, rfl, ?_, fun k a hk ha => ?_⟩
      · exact Nat.or_lt_two_pow (Nat.lt_of_lt_of_le h2 (Nat.pow_le_pow_right (by omega) (by omega))) (Nat.pow_lt_pow_right (by omega) (by omega))
      · rw [Nat.testBit_or, Nat.testBit_two_pow]
        by_cases e : k = n
        · subst e
          rw [hac] at ha; cases ha
          rw [q]; simp
        · rw [h3 k a (by omega) ha]
          have : ¬ n = k := fun z => e z.symm
          simp [this]
    · rw [if_neg q]
      refine ⟨m, h1, Nat.lt_of_lt_of_le h2 (Nat.pow_le_pow_right (by omega) (by omega)), fun k a hk ha => ?_⟩
      by_cases e : k = n
      · subst e
        rw [hac] at ha; cases ha
        rw [Nat.testBit_lt_two_pow h2]
        simpa using q
      · exact h3 k a (by omega) ha
theorem bit_at (m k : Nat) : (((m / 2 ^ k : Nat) : Int) % 2 == 1) = m.testBit k := by
  rw [show (((m / 2 ^ k : Nat) : Int) % 2) = ((m / 2 ^ k % 2 : Nat) : Int) by omega, ← Nat.toNat_testBit]
  cases m.testBit k <;> rfl
theorem mem_fo {ys : List ByteArray} {y : ByteArray} : y ∈ fo ys ↔ y ∈ ys := by rw [fo_dq]; exact mem_dq
theorem rel_in {F : Pf} {t : X.K3} (h1 : t.1 ∈ F.s.2.2.map (·.1)) (h2 : t.2.1 ∈ F.o.2.2) (h3 : t.2.2 ∈ F.a.2.2) : isIn (rel F) t = alw F t.1 t.2.1 t.2.2 := by
  rw [Bool.eq_iff_iff, isIn_mem, rel_trs, List.mem_filter]
  constructor
  · exact fun q => q.2
  · exact fun q => ⟨mem_trs.2 ⟨mem_fo.2 h1, mem_fo.2 h2, mem_fo.2 h3⟩, q⟩
theorem alt_yes {F : Pf} {l : List X.K3} {i : Nat} {z : X.K3} (hz : l[i]? = some z) (h : alt F z = true) : (l.take (i + 1)).filter (alt F) = (l.take i).filter (alt F) ++ [z] := by
  rw [List.take_add_one, hz, List.filter_append]
  simp [h]
theorem alt_no {F : Pf} {l : List X.K3} {i : Nat} {z : X.K3} (hz : l[i]? = some z) (h : alt F z = false) : (l.take (i + 1)).filter (alt F) = (l.take i).filter (alt F) := by
  rw [List.take_add_one, hz, List.filter_append]
  simp [h]
theorem lrg_few {a b c : Nat} (h : lrg a b c = false) : vst a b c = false ∧ a * (b * c) ≤ 2000 := by
  unfold lrg at h
  simp only [Bool.or_eq_false_iff, decide_eq_false_iff_not] at h
  refine ⟨h.1, ?_⟩
  rw [← Nat.mul_assoc]
  omega
set_option maxRecDepth 100000 in
set_option maxHeartbeats 16000000 in
theorem meanFaces_walk (F : Pf) (N : Nat) (w : World) (h : F.In w) (f : Fine F N) : Calls Try.prog 9 #[.agg F.arr] w fun e w' => e = .returned (.bool true) ∧ Below w.heap.size w w' := by
  have H := hide' h
  have Hf := hide' f
  have hsl : (F.s.2.2.length : Int) ≤ 1048576 := by have := f.small.s; omega
  have hol : (F.o.2.2.length : Int) ≤ 1048576 := by have := f.small.o; omega
  have hal : (F.a.2.2.length : Int) ≤ 1048576 := by have := f.small.a; omega
  have csl := h.s.2.1
  have col := h.o.2.1
  have cal := h.a.2.1
  clear h f
  go_enter Try.func9, Try.ntmps9
  go_wp2_with fail
  have B0 : Hid (Below w.heap.size w (w.alloc (.cells F.arr 34)) ∧ (w.alloc (.cells F.arr 34)).heap[w.heap.size]? = some (.cells F.arr 34 (0, 0))) := ⟨(Below.refl _ _).alloc (Nat.le_refl _) _, heap_alloc_new w _⟩
  generalize w.alloc (.cells F.arr 34) = V at *
  obtain ⟨q1, hq1⟩ : ∃ q1, q1 = w.heap.size := ⟨_, rfl⟩
  rw [← hq1]
  have B0' : Hid (Below w.heap.size w V ∧ V.heap[q1]? = some (.cells F.arr 34 (0, 0))) := by rw [hq1]; exact B0
  clear hq1 B0
  have BW : Hid (∀ (V V' : World), (Below w.heap.size w V ∧ V.heap[q1]? = some (.cells F.arr 34 (0, 0))) → Below V.heap.size V V' → (Below w.heap.size w V' ∧ V'.heap[q1]? = some (.cells F.arr 34 (0, 0)))) := fun V V' p b => ⟨p.1.trans (b.mono p.1.size), (b.block _ (lt_of_heap p.2)).trans p.2⟩
  refine (alive_any V).mono ?_
  rintro e V1 ⟨rfl, b1⟩
  have B1 := hide' (BW.out _ _ B0'.out b1)
  clear B0' b1 V
  go_wp2_with (with_reducible refine stay_load 34 _ rfl ?_)
  unfold Stay
  refine wpList_load_row rfl 34 _ rfl q1 rfl 34 F.arr (0, 0) _ B1.out.2 Try.underlying34 rfl (size_arr F) ?_
  go_wp2_with fail
  refine (large_any F N V1 Hf.out).mono ?_
  rintro e V2 ⟨rfl, b2⟩
  have B2 := hide' (BW.out _ _ B1.out b2)
  clear B1 b2 V1
  cases hv : lrg F.s.2.2.length F.o.2.2.length F.a.2.2.length with
  | true =>
    clear hv
    go_wp2_with fail
    go_ret
    exact ⟨rfl, B2.out.1⟩
  | false =>
  have Hv := hide' (vst_few (lrg_few hv).1)
  have Hm := hide' (lrg_few hv).2
  clear hv
  go_wp2_with (with_reducible refine stay_load 34 _ rfl ?_)
  unfold Stay
  refine wpList_load_row rfl 34 _ rfl q1 rfl 34 F.arr (0, 0) _ B2.out.2 Try.underlying34 rfl (size_arr F) ?_
  go_wp2_with fail
  refine (all_any F V2 (H.out.below B2.out.1) Hf.out.small (by have := Hm.out; omega)).mono ?_
  rintro e V3 ⟨lo, lc, rfl, rl, b3⟩
  have B3 := hide' (BW.out _ _ B2.out b3)
  have RL := hide' (And.intro rl.ints rl.cap)
  clear rl b3 B2
  have HTn : Hid (F.trs.length ≤ 2000) := by
    have q := dq_len (trs F.a.2.2 F.o.2.2 (F.s.2.2.map (·.1)))
    have q2 := trs_len F.a.2.2 F.o.2.2 (F.s.2.2.map (·.1))
    have e : F.trs = dq (trs F.a.2.2 F.o.2.2 (F.s.2.2.map (·.1))) := (trs_dq _ _ _).symm
    rw [List.length_map] at q2
    have := Hm.out
    show F.trs.length ≤ _
    rw [e]
    omega
  have HRT := hide' (rel_trs F)
  have HTs : Hid (∀ t ∈ F.trs, t.1.size ≤ 1048576 ∧ t.2.1.size ≤ 1048576 ∧ t.2.2.size ≤ 1048576) := fun t ht => by
    obtain ⟨h1, h2, h3⟩ := mem_trs.1 ht
    obtain ⟨s, hs, e⟩ := List.mem_map.1 (mem_fo.1 h1)
    refine ⟨?_, Nat.le_trans (Hf.out.zo _ (mem_fo.1 h2)) Hf.out.n, Nat.le_trans (Hf.out.za _ (mem_fo.1 h3)) Hf.out.n⟩
    rw [← e]; exact Nat.le_trans (Hf.out.zs s hs) Hf.out.n
  have htl : (F.trs.length : Int) ≤ 2000 := by have := HTn.out; omega
  generalize F.trs = ts at *
  have hlc := RL.out.2
  have KC : Hid (∀ W, Below V3.heap.size V3 W → W.cell? ⟨q1, 0, none⟩ = some (.slice F.a.1 F.a.2.2.length F.a.2.1) ∧ W.cell? ⟨q1, 1, none⟩ = some (.slice F.s.1 F.s.2.2.length F.s.2.1) ∧ W.cell? ⟨q1, 2, none⟩ = some (.slice F.r.1 F.r.2.2.length F.r.2.1) ∧ W.cell? ⟨q1, 3, none⟩ = some (.slice F.o.1 F.o.2.2.length F.o.2.1) ∧ W.cell? ⟨q1, 4, none⟩ = some (.slice F.g.1 F.g.2.2.length F.g.2.1) ∧ W.cell? ⟨q1, 5, none⟩ = some (.slice F.m.1 F.m.2.2.length F.m.2.1) ∧ W.cell? ⟨q1, 6, none⟩ = some (.slice F.i.1 F.i.2.2.length F.i.2.1) ∧ W.cell? ⟨q1, 7, none⟩ = some (.slice F.p.1 F.p.2.2.length F.p.2.1) ∧ W.cell? ⟨q1, 8, none⟩ = some (.slice F.w.1 F.w.2.2.length F.w.2.1) ∧ W.cell? ⟨q1, 9, none⟩ = some (.slice F.u.1 F.u.2.2.length F.u.2.1) ∧ W.cell? ⟨q1, 10, none⟩ = some (.slice F.x.1 F.x.2.2.length F.x.2.1)) := fun W b => by
    have g := (BW.out _ _ B3.out b).2
    exact ⟨by rw [Lib.cell_of_heap g]; rfl, by rw [Lib.cell_of_heap g]; rfl, by rw [Lib.cell_of_heap g]; rfl, by rw [Lib.cell_of_heap g]; rfl, by rw [Lib.cell_of_heap g]; rfl, by rw [Lib.cell_of_heap g]; rfl, by rw [Lib.cell_of_heap g]; rfl, by rw [Lib.cell_of_heap g]; rfl, by rw [Lib.cell_of_heap g]; rfl, by rw [Lib.cell_of_heap g]; rfl, by rw [Lib.cell_of_heap g]; rfl⟩
  go_wp2_with fail
  go_loopw [4, 6] (fun wv iv wx => ∃ (i : Nat) (wo : Option Addr) (wc : Nat), iv = .int .i64 (i : Int) ∧ i ≤ ts.length ∧ wv = .slice wo ((ts.take i).filter (alt F)).length wc ∧ Hid (Below V3.heap.size V3 wx ∧ X.RowI V3.heap.size wo wc ((ts.take i).filter (alt F)) wx)) (fun _ iv _ => ts.length - (intOf iv).toNat)
  case atStart => exact ⟨0, none, 0, rfl, Nat.zero_le _, rfl, Below.refl _ _, X.RowI.nil _ _⟩
  case round =>
    obtain ⟨i, wo, wc, rfl, hi, rfl, HM⟩ := hrel
    by_cases hlt : i < ts.length
    · have hlt' : (i : Int) < (ts.length : Int) := by omega
      obtain ⟨z, hz⟩ : ∃ z, ts[i]? = some z := ⟨_, List.getElem?_eq_getElem hlt⟩
      obtain ⟨y, off, hy, _, _⟩ := (RL.out.1.below HM.out.1).at hz
      have Hz := hide' hz
      have Hzs := hide' (HTs.out z (List.mem_of_getElem? hz))
      have Hy := hide' hy
      have RC : Hid (∀ W, Below V3.heap.size V3 W → W.cell? ⟨q1, 0, none⟩ = some (.slice F.a.1 F.a.2.2.length F.a.2.1) ∧ W.cell? ⟨q1, 1, none⟩ = some (.slice F.s.1 F.s.2.2.length F.s.2.1) ∧ W.cell? ⟨q1, 2, none⟩ = some (.slice F.r.1 F.r.2.2.length F.r.2.1) ∧ W.cell? ⟨q1, 3, none⟩ = some (.slice F.o.1 F.o.2.2.length F.o.2.1) ∧ W.cell? ⟨q1, 4, none⟩ = some (.slice F.g.1 F.g.2.2.length F.g.2.1) ∧ W.cell? ⟨q1, 5, none⟩ = some (.slice F.m.1 F.m.2.2.length F.m.2.1) ∧ W.cell? ⟨q1, 6, none⟩ = some (.slice F.i.1 F.i.2.2.length F.i.2.1) ∧ W.cell? ⟨q1, 7, none⟩ = some (.slice F.p.1 F.p.2.2.length F.p.2.1) ∧ W.cell? ⟨q1, 8, none⟩ = some (.slice F.w.1 F.w.2.2.length F.w.2.1) ∧ W.cell? ⟨q1, 9, none⟩ = some (.slice F.u.1 F.u.2.2.length F.u.2.1) ∧ W.cell? ⟨q1, 10, none⟩ = some (.slice F.x.1 F.x.2.2.length F.x.2.1) ∧ W.cell? ⟨y, off + i * 3, none⟩ = some (.string z.1) ∧ W.cell? ⟨y, off + i * 3 + 1, none⟩ = some (.string z.2.1) ∧ W.cell? ⟨y, off + i * 3 + 2, none⟩ = some (.string z.2.2)) := fun W b => by
        obtain ⟨y', off', hy', _, g1, g2, g3⟩ := (RL.out.1.below b).at hz
        rw [hy] at hy'
        cases hy'
        obtain ⟨k0, k1, k2, k3, k4, k5, k6, k7, k8, k9, k10⟩ := KC.out W b
        exact ⟨k0, k1, k2, k3, k4, k5, k6, k7, k8, k9, k10, g1, g2, g3⟩
      rw [hy]
      clear hz hy
      have C22 : Hid (∀ W, Below V3.heap.size V3 W → Calls Try.prog 22 #[.agg #[.slice F.a.1 F.a.2.2.length F.a.2.1, .slice F.s.1 F.s.2.2.length F.s.2.1, .slice F.r.1 F.r.2.2.length F.r.2.1, .slice F.o.1 F.o.2.2.length F.o.2.1, .slice F.g.1 F.g.2.2.length F.g.2.1, .slice F.m.1 F.m.2.2.length F.m.2.1, .slice F.i.1 F.i.2.2.length F.i.2.1, .slice F.p.1 F.p.2.2.length F.p.2.1, .slice F.w.1 F.w.2.2.length F.w.2.1, .slice F.u.1 F.u.2.2.length F.u.2.1, .slice F.x.1 F.x.2.2.length F.x.2.1], .agg #[.string z.1, .string z.2.1, .string z.2.2]] W fun e w' => e = .returned (.bool (alt F z)) ∧ Below W.heap.size W w') := fun W b => alw_call F N z.1 z.2.1 z.2.2 W (H.out.below (BW.out _ _ B3.out b).1) Hf.out Hzs.out
      go_wp2_with fail
      obtain ⟨k0, k1, k2, k3, k4, k5, k6, k7, k8, k9, k10, d1, d2, d3⟩ := RC.out wr HM.out.1
      have e0 : Below V3.heap.size V3 wr.drew := HM.out.1.trans ⟨rfl, rfl, rfl, Nat.le_refl _, fun _ _ => rfl⟩
      have r0 : Hid (X.RowI V3.heap.size wo wc ((ts.take i).filter (alt F)) wr.drew) := HM.out.2.below ⟨rfl, rfl, rfl, Nat.le_refl _, fun _ _ => rfl⟩
      go_region_held3 (fun W => W.cell? ⟨q1, 0, none⟩ = some (.slice F.a.1 F.a.2.2.length F.a.2.1) ∧ W.cell? ⟨q1, 1, none⟩ = some (.slice F.s.1 F.s.2.2.length F.s.2.1) ∧ W.cell? ⟨q1, 2, none⟩ = some (.slice F.r.1 F.r.2.2.length F.r.2.1) ∧ W.cell? ⟨q1, 3, none⟩ = some (.slice F.o.1 F.o.2.2.length F.o.2.1) ∧ W.cell? ⟨q1, 4, none⟩ = some (.slice F.g.1 F.g.2.2.length F.g.2.1) ∧ W.cell? ⟨q1, 5, none⟩ = some (.slice F.m.1 F.m.2.2.length F.m.2.1) ∧ W.cell? ⟨q1, 6, none⟩ = some (.slice F.i.1 F.i.2.2.length F.i.2.1) ∧ W.cell? ⟨q1, 7, none⟩ = some (.slice F.p.1 F.p.2.2.length F.p.2.1) ∧ W.cell? ⟨q1, 8, none⟩ = some (.slice F.w.1 F.w.2.2.length F.w.2.1) ∧ W.cell? ⟨q1, 9, none⟩ = some (.slice F.u.1 F.u.2.2.length F.u.2.1) ∧ W.cell? ⟨q1, 10, none⟩ = some (.slice F.x.1 F.x.2.2.length F.x.2.1) ∧ W.cell? ⟨y, off + i * 3, none⟩ = some (.string z.1) ∧ W.cell? ⟨y, off + i * 3 + 1, none⟩ = some (.string z.2.1) ∧ W.cell? ⟨y, off + i * 3 + 2, none⟩ = some (.string z.2.2)) (first | with_reducible exact RC.out _ e1 | with_reducible exact RC.out _ e0 | go_keep) ((go_at_call 22; refine (C22.out _ e0).mono ?_; rintro e w2 ⟨rfl, b2⟩; have r1 := hide' (r0.out.below b2); have e1 : Below V3.heap.size V3 w2 := e0.trans (b2.mono e0.size); clear b2))
      rename_i hHeld
      clear hHeld k0 k1 k2 k3 k4 k5 k6 k7 k8 k9 k10 d1 d2 d3 e0 r0 HM
      obtain ⟨_, _, _, _, _, _, _, _, _, _, _, d1, d2, d3⟩ := RC.out w2 e1
      have E1 := hide' e1
      clear e1
      cases h1 : alt F z with
      | false =>
        have HF := hide' (alt_no Hz.out h1)
        clear h1
        go_wp2_with fail
        exact ⟨⟨i + 1, wo, wc, by go_num, by omega, by rw [HF.out], by rw [HF.out]; exact ⟨E1.out, r1.out⟩⟩, by simp [intOf]; omega⟩
      | true =>
        have HF := hide' (alt_yes Hz.out h1)
        clear h1
        go_wp2_with (at_builtin; refine stay_app _ _ _ rfl ?_)
        unfold Stay
        refine X.wpList_app1 w2 rfl _ _ rfl V3.heap.size wo wc _ z 36 _ rfl r1.out rfl (by have := List.length_filter_le (alt F) (ts.take i); have := List.length_take_le i ts; show _ < _; omega) E1.out.size ?_
        intro g cap wz r8 t8 hg hl8
        have HM3 := hide' (And.intro (E1.out.trans (below_own t8 (fun j q => (r1.out.lt j q).1) E1.out.size)) r8)
        clear hg hl8 r8 t8 r1 E1
        go_wp2_with fail
        exact ⟨⟨i + 1, _, _, by go_num, by omega, by rw [HF.out, List.length_append]; rfl, by rw [HF.out]; exact HM3⟩, by simp [intOf]; omega⟩
    · have hk : i = ts.length := by omega
      have hlt' : ¬ (i : Int) < (ts.length : Int) := by omega
      have HM2 := HM
      rw [hk, List.take_length, ← HRT.out] at HM2
      rw [hk, List.take_length, ← HRT.out, ← hk]
      clear HM hk
      have hrl : Hid (((rel F).length : Int) ≤ 65536) := by have := rel_few Hv.out; show _ ≤ _; omega
      have W4 := hide' (And.intro HM2.out.1 (And.intro HM2.out.2.ints HM2.out.2.cap))
      have B4 := hide' (BW.out _ _ B3.out HM2.out.1)
      clear HM2
      go_wp2_with fail
      clear hlt hlt' hi
      obtain ⟨V4, hV4⟩ : ∃ V, V = wr := ⟨_, rfl⟩
      subst hV4
      have BV : Hid (∀ W, Below V4.heap.size V4 W → (Below w.heap.size w W ∧ W.heap[q1]? = some (.cells F.arr 34 (0, 0)))) := fun W b => BW.out _ _ B4.out b
      have KD : Hid (∀ W, Below V4.heap.size V4 W → W.cell? ⟨q1, 0, none⟩ = some (.slice F.a.1 F.a.2.2.length F.a.2.1) ∧ W.cell? ⟨q1, 1, none⟩ = some (.slice F.s.1 F.s.2.2.length F.s.2.1) ∧ W.cell? ⟨q1, 2, none⟩ = some (.slice F.r.1 F.r.2.2.length F.r.2.1) ∧ W.cell? ⟨q1, 3, none⟩ = some (.slice F.o.1 F.o.2.2.length F.o.2.1) ∧ W.cell? ⟨q1, 4, none⟩ = some (.slice F.g.1 F.g.2.2.length F.g.2.1) ∧ W.cell? ⟨q1, 5, none⟩ = some (.slice F.m.1 F.m.2.2.length F.m.2.1) ∧ W.cell? ⟨q1, 6, none⟩ = some (.slice F.i.1 F.i.2.2.length F.i.2.1) ∧ W.cell? ⟨q1, 7, none⟩ = some (.slice F.p.1 F.p.2.2.length F.p.2.1) ∧ W.cell? ⟨q1, 8, none⟩ = some (.slice F.w.1 F.w.2.2.length F.w.2.1) ∧ W.cell? ⟨q1, 9, none⟩ = some (.slice F.u.1 F.u.2.2.length F.u.2.1) ∧ W.cell? ⟨q1, 10, none⟩ = some (.slice F.x.1 F.x.2.2.length F.x.2.1)) := fun W b => by
        have g := (BV.out W b).2
        exact ⟨by rw [Lib.cell_of_heap g]; rfl, by rw [Lib.cell_of_heap g]; rfl, by rw [Lib.cell_of_heap g]; rfl, by rw [Lib.cell_of_heap g]; rfl, by rw [Lib.cell_of_heap g]; rfl, by rw [Lib.cell_of_heap g]; rfl, by rw [Lib.cell_of_heap g]; rfl, by rw [Lib.cell_of_heap g]; rfl, by rw [Lib.cell_of_heap g]; rfl, by rw [Lib.cell_of_heap g]; rfl, by rw [Lib.cell_of_heap g]; rfl⟩
      have W5 := hide' W4.out.2
      clear W4 KC RL HTn HRT HTs htl hlc B3 B4 V2 
      obtain ⟨n, hn⟩ : ∃ n, n = min F.a.2.2.length 16 := ⟨_, rfl⟩
      have hna : n ≤ F.a.2.2.length := by omega
      have hn16 : n ≤ 16 := by omega
      have Hn := hide' hn
      clear hn
      go_loopw [8] (fun iv wx => ∃ (i : Nat), iv = .int .i64 (i : Int) ∧ i ≤ F.s.2.2.length ∧ Hid (Below V4.heap.size V4 wx)) (fun iv _ => F.s.2.2.length - (intOf iv).toNat)
      case atStart => exact ⟨0, rfl, Nat.zero_le _, Below.refl _ _⟩
      case round =>
        obtain ⟨i, rfl, hi, HM⟩ := hrel
        obtain ⟨k0, k1, k2, k3, k4, k5, k6, k7, k8, k9, k10⟩ := KD.out _ HM.out
        by_cases hlt : i < F.s.2.2.length
        · have hlt' : (i : Int) < (F.s.2.2.length : Int) := by omega
          obtain ⟨s, hs⟩ : ∃ s, F.s.2.2[i]? = some s := ⟨_, List.getElem?_eq_getElem hlt⟩
          have Hs := hide' hs
          obtain ⟨sb, soff, hsy, _, _⟩ := (H.out.below (BV.out _ HM.out).1).s.1.at hs
          have SC : Hid (∀ W, Below V4.heap.size V4 W → W.cell? ⟨sb, soff + i * 2, none⟩ = some (.string s.1)) := fun W b => by
            obtain ⟨b', o', e', _, g1, _⟩ := (H.out.below (BV.out _ b).1).s.1.at hs
            rw [hsy] at e'
            cases e'
            exact g1
          have Hsy := hide' hsy
          clear hs hsy hlt
          go_wp2_with fail
          clear k0 k1 k2 k3 k4 k5 k6 k7 k8 k9 k10
          go_loopw [9] (fun jv wx => ∃ (j : Nat), jv = .int .i64 (j : Int) ∧ j ≤ F.o.2.2.length ∧ Hid (Below V4.heap.size V4 wx)) (fun jv _ => F.o.2.2.length - (intOf jv).toNat)
          case atStart => exact ⟨0, rfl, Nat.zero_le _, HM⟩
          case round =>
            clear HM
            obtain ⟨j, rfl, hj, HM⟩ := hrel
            obtain ⟨k0, k1, k2, k3, k4, k5, k6, k7, k8, k9, k10⟩ := KD.out _ HM.out
            by_cases hlt : j < F.o.2.2.length
            · have hjt' : (j : Int) < (F.o.2.2.length : Int) := by omega
              obtain ⟨o, ho⟩ : ∃ o, F.o.2.2[j]? = some o := ⟨_, List.getElem?_eq_getElem hlt⟩
              have Ho := hide' ho
              obtain ⟨ob, ooff, hoy, _, _⟩ := (H.out.below (BV.out _ HM.out).1).o.1.at ho
              have Hoy := hide' hoy
              have SA : Hid (∀ W, Below V4.heap.size V4 W → W.cell? ⟨q1, 0, none⟩ = some (.slice F.a.1 F.a.2.2.length F.a.2.1) ∧ W.cell? ⟨q1, 1, none⟩ = some (.slice (some ⟨sb, soff, none⟩) F.s.2.2.length F.s.2.1) ∧ W.cell? ⟨q1, 2, none⟩ = some (.slice F.r.1 F.r.2.2.length F.r.2.1) ∧ W.cell? ⟨q1, 3, none⟩ = some (.slice (some ⟨ob, ooff, none⟩) F.o.2.2.length F.o.2.1) ∧ W.cell? ⟨q1, 4, none⟩ = some (.slice F.g.1 F.g.2.2.length F.g.2.1) ∧ W.cell? ⟨q1, 5, none⟩ = some (.slice F.m.1 F.m.2.2.length F.m.2.1) ∧ W.cell? ⟨q1, 6, none⟩ = some (.slice F.i.1 F.i.2.2.length F.i.2.1) ∧ W.cell? ⟨q1, 7, none⟩ = some (.slice F.p.1 F.p.2.2.length F.p.2.1) ∧ W.cell? ⟨q1, 8, none⟩ = some (.slice F.w.1 F.w.2.2.length F.w.2.1) ∧ W.cell? ⟨q1, 9, none⟩ = some (.slice F.u.1 F.u.2.2.length F.u.2.1) ∧ W.cell? ⟨q1, 10, none⟩ = some (.slice F.x.1 F.x.2.2.length F.x.2.1) ∧ W.cell? ⟨sb, soff + i * 2, none⟩ = some (.string s.1) ∧ W.cell? ⟨ob, ooff + j, none⟩ = some (.string o)) := fun W b => by
                obtain ⟨b', o', e', _, g1⟩ := (H.out.below (BV.out _ b).1).o.1.at ho
                rw [hoy] at e'
                cases e'
                obtain ⟨k0, k1, k2, k3, k4, k5, k6, k7, k8, k9, k10⟩ := KD.out W b
                rw [Hsy.out] at k1
                rw [hoy] at k3
                exact ⟨k0, k1, k2, k3, k4, k5, k6, k7, k8, k9, k10, SC.out W b, g1⟩
              clear ho hoy hlt
              obtain ⟨m, hm1, hm2, hm3⟩ := mkn_bits F s.1 o n hn16 hna
              have HB := hide' (And.intro hm2 hm3)
              have hm : (m : Int) ≤ 65535 := by
                have q := Nat.pow_le_pow_right (n := 2) (by omega) hn16
                have q2 : (2 : Nat) ^ 16 = 65536 := rfl
                omega
              have C24 : Hid (∀ W, Below V4.heap.size V4 W → Calls Try.prog 24 #[.agg #[.slice F.a.1 F.a.2.2.length F.a.2.1, .slice (some ⟨sb, soff, none⟩) F.s.2.2.length F.s.2.1, .slice F.r.1 F.r.2.2.length F.r.2.1, .slice (some ⟨ob, ooff, none⟩) F.o.2.2.length F.o.2.1, .slice F.g.1 F.g.2.2.length F.g.2.1, .slice F.m.1 F.m.2.2.length F.m.2.1, .slice F.i.1 F.i.2.2.length F.i.2.1, .slice F.p.1 F.p.2.2.length F.p.2.1, .slice F.w.1 F.w.2.2.length F.w.2.1, .slice F.u.1 F.u.2.2.length F.u.2.1, .slice F.x.1 F.x.2.2.length F.x.2.1], .string s.1, .string o] W fun e w' => e = .returned (.int .u16 (m : Int)) ∧ Below W.heap.size W w') := fun W b => by
                rw [← Hsy.out, ← Hoy.out, ← hm1, Hn.out]
                exact mask_any F s.1 o W (H.out.below (BV.out _ b).1) Hf.out.small Hf.out.po ⟨Nat.le_trans (Hf.out.zs s (List.mem_of_getElem? Hs.out)) Hf.out.n, Nat.le_trans (Hf.out.zo o (List.mem_of_getElem? Ho.out)) Hf.out.n⟩ (fun a ha => okk_of (Nat.le_trans (Hf.out.za a ha) Hf.out.n)) Hf.out.okx Hf.out.oku
              clear hm1 hm2 hm3
              go_wp2_with fail
              clear k0 k1 k2 k3 k4 k5 k6 k7 k8 k9 k10
              obtain ⟨c0, c1, c2, c3, c4, c5, c6, c7, c8, c9, c10, c11, c12⟩ := SA.out wr HM.out
              have e0 : Below V4.heap.size V4 wr.drew := HM.out.trans ⟨rfl, rfl, rfl, Nat.le_refl _, fun _ _ => rfl⟩
              go_region_held3 (fun W => W.cell? ⟨q1, 0, none⟩ = some (.slice F.a.1 F.a.2.2.length F.a.2.1) ∧ W.cell? ⟨q1, 1, none⟩ = some (.slice (some ⟨sb, soff, none⟩) F.s.2.2.length F.s.2.1) ∧ W.cell? ⟨q1, 2, none⟩ = some (.slice F.r.1 F.r.2.2.length F.r.2.1) ∧ W.cell? ⟨q1, 3, none⟩ = some (.slice (some ⟨ob, ooff, none⟩) F.o.2.2.length F.o.2.1) ∧ W.cell? ⟨q1, 4, none⟩ = some (.slice F.g.1 F.g.2.2.length F.g.2.1) ∧ W.cell? ⟨q1, 5, none⟩ = some (.slice F.m.1 F.m.2.2.length F.m.2.1) ∧ W.cell? ⟨q1, 6, none⟩ = some (.slice F.i.1 F.i.2.2.length F.i.2.1) ∧ W.cell? ⟨q1, 7, none⟩ = some (.slice F.p.1 F.p.2.2.length F.p.2.1) ∧ W.cell? ⟨q1, 8, none⟩ = some (.slice F.w.1 F.w.2.2.length F.w.2.1) ∧ W.cell? ⟨q1, 9, none⟩ = some (.slice F.u.1 F.u.2.2.length F.u.2.1) ∧ W.cell? ⟨q1, 10, none⟩ = some (.slice F.x.1 F.x.2.2.length F.x.2.1) ∧ W.cell? ⟨sb, soff + i * 2, none⟩ = some (.string s.1) ∧ W.cell? ⟨ob, ooff + j, none⟩ = some (.string o)) (first | with_reducible exact SA.out _ e1 | with_reducible exact SA.out _ e0 | go_keep) ((go_at_call 24; refine (C24.out _ e0).mono ?_; rintro e w2 ⟨rfl, b2⟩; have e1 : Below V4.heap.size V4 w2 := e0.trans (b2.mono e0.size); clear b2))
              rename_i hHeld
              clear hHeld c0 c1 c2 c3 c4 c5 c6 c7 c8 c9 c10 c11 c12 e0 HM
              have E1 := hide' e1
              clear e1
              have hw : IntKind.i64.wrap (m : Int) = (m : Int) := by
                simp [IntKind.wrap, IntKind.signed, IntKind.bits]
                omega
              rw [hw]
              clear hw
              go_wp2_with fail
              go_loopw [10, 11] (fun mv kv wx => ∃ (k : Nat), kv = .int .i64 (k : Int) ∧ k ≤ n ∧ mv = .int .i64 ((m / 2 ^ k : Nat) : Int) ∧ Hid (Below V4.heap.size V4 wx)) (fun _ kv _ => n - (intOf kv).toNat)
              case atStart => exact ⟨0, rfl, Nat.zero_le _, by rw [Nat.pow_zero, Nat.div_one], E1⟩
              case round =>
                obtain ⟨k, rfl, hk, rfl, HM⟩ := hrel
                have k0 := (KD.out _ HM.out).1
                have hk16 : (k : Int) ≤ 16 := by omega
                by_cases hlt : k < n
                · have hkt' : (k : Int) < (F.a.2.2.length : Int) := by omega
                  have hkt2 : (k : Int) < 16 := by omega
                  obtain ⟨a, ha⟩ : ∃ a, F.a.2.2[k]? = some a := ⟨_, List.getElem?_eq_getElem (by omega)⟩
                  obtain ⟨ab, aoff, hay, _, _⟩ := (H.out.below (BV.out _ HM.out).1).a.1.at ha
                  have SB : Hid (∀ W, Below V4.heap.size V4 W → W.cell? ⟨q1, 0, none⟩ = some (.slice (some ⟨ab, aoff, none⟩) F.a.2.2.length F.a.2.1) ∧ W.cell? ⟨q1, 1, none⟩ = some (.slice (some ⟨sb, soff, none⟩) F.s.2.2.length F.s.2.1) ∧ W.cell? ⟨q1, 3, none⟩ = some (.slice (some ⟨ob, ooff, none⟩) F.o.2.2.length F.o.2.1) ∧ W.cell? ⟨sb, soff + i * 2, none⟩ = some (.string s.1) ∧ W.cell? ⟨ob, ooff + j, none⟩ = some (.string o) ∧ W.cell? ⟨ab, aoff + k, none⟩ = some (.string a)) := fun W b => by
                    obtain ⟨b', o', e', _, g1⟩ := (H.out.below (BV.out _ b).1).a.1.at ha
                    rw [hay] at e'
                    cases e'
                    obtain ⟨q0, q1, q2, q3, q4, q5, q6, q7, q8, q9, q10, q11, q12⟩ := SA.out W b
                    rw [hay] at q0
                    exact ⟨q0, q1, q3, q11, q12, g1⟩
                  have HE : Hid (isIn (rel F) (s.1, o, a) = (((m / 2 ^ k : Nat) : Int) % 2 == 1)) := by
                    show _ = _
                    rw [bit_at, HB.out.2 k a hlt ha]
                    exact rel_in (List.mem_map_of_mem (List.mem_of_getElem? Hs.out)) (List.mem_of_getElem? Ho.out) (List.mem_of_getElem? ha)
                  have C33 : Hid (∀ W, Below V4.heap.size V4 W → Calls Try.prog 33 #[.slice wo (rel F).length wc, .agg #[.string s.1, .string o, .string a]] W fun e w' => e = .returned (.bool (isIn (rel F) (s.1, o, a))) ∧ Below W.heap.size W w') := fun W b => has_any wo wc (rel F) (s.1, o, a) W (W5.out.1.below b) W5.out.2 (by have := hrl.out; omega)
                  have HN : Hid (m / 2 ^ (k + 1) = m / 2 ^ k / 2) := by show _ = _; rw [Nat.pow_succ, Nat.div_div_eq_div_mul]
                  have hM : ((m / 2 ^ k : Nat) : Int) ≤ 65535 := by have := Nat.div_le_self m (2 ^ k); omega
                  clear ha hay
                  generalize hMk : m / 2 ^ k = M at *
                  clear hMk
                  go_wp2_with fail
                  clear k0
                  obtain ⟨c0, c1, c2, c3, c4, c5⟩ := SB.out wr HM.out
                  have e0 : Below V4.heap.size V4 wr.drew := HM.out.trans ⟨rfl, rfl, rfl, Nat.le_refl _, fun _ _ => rfl⟩
                  go_region_held3 (fun W => W.cell? ⟨q1, 0, none⟩ = some (.slice (some ⟨ab, aoff, none⟩) F.a.2.2.length F.a.2.1) ∧ W.cell? ⟨q1, 1, none⟩ = some (.slice (some ⟨sb, soff, none⟩) F.s.2.2.length F.s.2.1) ∧ W.cell? ⟨q1, 3, none⟩ = some (.slice (some ⟨ob, ooff, none⟩) F.o.2.2.length F.o.2.1) ∧ W.cell? ⟨sb, soff + i * 2, none⟩ = some (.string s.1) ∧ W.cell? ⟨ob, ooff + j, none⟩ = some (.string o) ∧ W.cell? ⟨ab, aoff + k, none⟩ = some (.string a)) (first | with_reducible exact SB.out _ e2 | with_reducible exact SB.out _ e1 | with_reducible exact SB.out _ e0 | go_keep) (first | (go_at_call 34; refine (tri_any s.1 o a _).mono ?_; rintro e w1 ⟨rfl, b1⟩; have e1 : Below V4.heap.size V4 w1 := e0.trans (b1.mono e0.size); clear b1) | (go_at_call 33; refine (C33.out _ e1).mono ?_; rintro e w2 ⟨rfl, b2⟩; have e2 : Below V4.heap.size V4 w2 := e1.trans (b2.mono e1.size); clear b2))
                  rename_i hHeld
                  have E2 := hide' e2
                  clear hHeld c0 c1 c2 c3 c4 c5 e0 e1 e2 HM
                  rcases (by omega : (M : Int) % 2 = 0 ∨ (M : Int) % 2 = 1) with hp | hp
                  · have hq : isIn (rel F) (s.1, o, a) = false := by rw [HE.out, hp]; rfl
                    rw [hq]
                    clear hq
                    have ht : Int.tmod (M : Int) 2 = 0 := by have q := Int.ofNat_tmod M 2; have q2 : ((M % 2 : Nat) : Int) = (M : Int) % 2 := rfl; rw [hp] at q2; exact q.symm.trans q2
                    rw [ht]
                    clear hp ht
                    go_wp2_with fail
                    exact ⟨⟨k + 1, by go_num, by omega, by rw [HN.out]; go_num, E2⟩, by simp [intOf]; omega⟩
                  · have hq : isIn (rel F) (s.1, o, a) = true := by rw [HE.out, hp]; rfl
                    rw [hq]
                    clear hq
                    have ht : Int.tmod (M : Int) 2 = 1 := by have q := Int.ofNat_tmod M 2; have q2 : ((M % 2 : Nat) : Int) = (M : Int) % 2 := rfl; rw [hp] at q2; exact q.symm.trans q2
                    rw [ht]
                    clear hp ht
                    go_wp2_with fail
                    exact ⟨⟨k + 1, by go_num, by omega, by rw [HN.out]; go_num, E2⟩, by simp [intOf]; omega⟩
                · have hk' : k = n := by omega
                  have h0 : m / 2 ^ k = 0 := by rw [hk']; exact Nat.div_eq_of_lt HB.out.1
                  rw [h0]
                  have HM2 := HM
                  clear h0 HM
                  by_cases hla : k < F.a.2.2.length
                  · have hkt' : (k : Int) < (F.a.2.2.length : Int) := by omega
                    have hkt2 : ¬ (k : Int) < 16 := by have := Hn.out; omega
                    clear hk'
                    go_wp2_with fail
                    exact ⟨⟨j + 1, by go_num, by omega, HM2⟩, by simp [intOf]; omega⟩
                  · have hkt' : ¬ (k : Int) < (F.a.2.2.length : Int) := by omega
                    clear hk'
                    go_wp2_with fail
                    exact ⟨⟨j + 1, by go_num, by omega, HM2⟩, by simp [intOf]; omega⟩
            · have hjt' : ¬ (j : Int) < (F.o.2.2.length : Int) := by omega
              clear hlt
              go_wp2_with fail
              exact ⟨⟨i + 1, by go_num, by omega, HM⟩, by simp [intOf]; omega⟩
        · have hlt' : ¬ (i : Int) < (F.s.2.2.length : Int) := by omega
          clear hlt
          go_wp2_with (with_reducible refine stay_load 34 _ rfl ?_)
          unfold Stay
          have B7 := hide' (BV.out _ HM.out)
          have W7 := hide' (And.intro (W5.out.1.below HM.out) W5.out.2)
          clear k0 k1 k2 k3 k4 k5 k6 k7 k8 k9 k10 HM hi hlt'
          refine wpList_load_w (by rfl) 34 _ rfl q1 rfl 34 F.arr (0, 0) _ B7.out.2 Try.underlying34 rfl (size_arr _) ?_
          go_wp2_with fail
          refine (rel_call F N wr (H.out.below B7.out.1) Hf.out Hv.out).mono ?_
          rintro e V8 ⟨to, tc, rfl, r8, b8⟩
          have B8 := hide' (BW.out _ _ B7.out b8)
          have E8 := hide' (And.intro (And.intro r8.ints r8.cap) (And.intro (W7.out.1.below b8) W7.out.2))
          have hfl : Hid (((rel F).length : Int) < 1099511627777) := by have := hrl.out; show _ < _; omega
          clear r8 b8 W7 B7
          go_wp2_with fail
          refine (equal_self to wo tc wc (rel F) V8 E8.out.1.1 E8.out.2.1 E8.out.1.2 E8.out.2.2 hfl.out).mono ?_
          rintro e V9 ⟨rfl, b9⟩
          have B9 := hide' (BW.out _ _ B8.out b9)
          clear b9 B8 E8
          go_wp2_with fail
          go_ret
          exact ⟨rfl, B9.out.1⟩
end U
end Go.Proofs.Ytgbhcfephhbalaa
