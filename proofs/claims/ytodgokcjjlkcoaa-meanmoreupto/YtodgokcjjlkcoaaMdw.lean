import Derived.Test.YtodgokcjjlkcoaaOnl
import Derived.Deep.RegionHeld3
set_option linter.unusedVariables false
set_option linter.unusedSimpArgs false
namespace Go.Proofs.Ytodgokcjjlkcoaa
open Go.RowKit Go.Maps
namespace U
theorem rany_onl {F J : Pf} {dn : Bool} (h : OnlIs F dn J) (ts to ta : ByteArray) : rany J ts to ta false J.u.2.2 = rany F ts to ta dn F.u.2.2 ∧ rany J ts to ta true J.u.2.2 = false := by
  rw [h.u]
  unfold rany onl
  constructor
  · rw [List.any_map, List.any_filter]
    congr 1
    funext R
    show ((den R == dn) && (mtc J.po R.alo ts to ta && (false == false))) = (mtc F.po R ts to ta && (den R == dn))
    rw [mtc_nm h.nm]
    show ((den R == dn) && (mtc F.po R ts to ta && true)) = _
    rw [Bool.and_true, Bool.and_comm]
  · rw [List.any_map, List.any_eq_false]
    intro R _
    show ¬ ((mtc J.po R.alo ts to ta && (false == true)) = true)
    simp
theorem alw_onl {F J : Pf} {dn : Bool} (h : OnlIs F dn J) (ts to ta : ByteArray) : alw J ts to ta = rany F ts to ta dn F.u.2.2 := by
  unfold alw
  rw [(rany_onl h ts to ta).1, (rany_onl h ts to ta).2, h.x]
  simp [exc]
def rdn (F : Pf) (dn : Bool) (u : X.K3) : Bool := rany F u.1 u.2.1 u.2.2 dn F.u.2.2
theorem rel_onl {F J : Pf} {dn : Bool} (h : OnlIs F dn J) : rel J = F.trs.filter (rdn F dn) := by
  rw [rel_trs, trs_nm h.nm]
  apply List.filter_congr
  intro u _
  exact alw_onl h _ _ _
/-- denials override -/
def wnt (no xs : List X.K3) (u : X.K3) : Bool := !isIn no u && !isIn xs u
theorem rel_wins {F Y M : Pf} (hY : OnlIs F false Y) (hM : OnlIs F true M) : (rel Y).filter (wnt (rel M) F.x.2.2) = rel F := by
  rw [rel_onl hY, rel_onl hM, rel_trs F, List.filter_filter]
  apply List.filter_congr
  intro u hu
  have e : isIn (F.trs.filter (rdn F true)) u = rdn F true u := by
    rw [Bool.eq_iff_iff, isIn_mem, List.mem_filter]
    exact ⟨fun q => q.2, fun q => ⟨hu, q⟩⟩
  unfold wnt
  rw [e]
  show ((!rdn F true u && !isIn F.x.2.2 u) && rdn F false u) = alw F u.1 u.2.1 u.2.2
  unfold alw
  rw [exc_isIn]
  show ((!rdn F true u && !isIn F.x.2.2 u) && rdn F false u) = (rdn F false u && !rdn F true u && !isIn F.x.2.2 u)
  cases rdn F true u <;> cases rdn F false u <;> cases isIn F.x.2.2 u <;> rfl
theorem OnlIs.fine {F J : Pf} {dn : Bool} {N : Nat} (h : OnlIs F dn J) (f : Fine F N) : Fine J N where
  n := f.n
  a := by rw [h.nm.a]; exact f.a
  s := by rw [h.nm.s]; exact f.s
  r := by rw [h.r]; exact f.r
  o := by rw [h.nm.o]; exact f.o
  g := by rw [h.g]; exact f.g
  mi := by rw [h.nm.m, h.nm.i]; exact f.mi
  pw := by rw [h.nm.p, h.nm.w]; exact f.pw
  u := by rw [h.u]; exact Nat.le_trans (onl_len _ _) f.u
  x := by rw [h.x]; exact Nat.zero_le _
  za := by rw [h.nm.a]; exact f.za
  zs := by rw [h.nm.s]; exact f.zs
  zo := by rw [h.nm.o]; exact f.zo
  zm := by rw [h.nm.m, h.nm.i]; exact f.zm
  zp := by rw [h.nm.p, h.nm.w]; exact f.zp
  zu := fun R hR => by
    rw [h.u] at hR
    unfold onl at hR
    obtain ⟨R', h1, rfl⟩ := List.mem_map.1 hR
    exact f.zu R' (List.mem_filter.1 h1).1
  zx := by rw [h.x]; exact fun t ht => by cases ht
theorem wnt_yes {no xs R : List X.K3} {i : Nat} {z : X.K3} (hz : R[i]? = some z) (h : wnt no xs z = true) : (R.take (i + 1)).filter (wnt no xs) = (R.take i).filter (wnt no xs) ++ [z] := by
  rw [List.take_add_one, hz, List.filter_append]
  simp [h]
theorem wnt_no {no xs R : List X.K3} {i : Nat} {z : X.K3} (hz : R[i]? = some z) (h : wnt no xs z = false) : (R.take (i + 1)).filter (wnt no xs) = (R.take i).filter (wnt no xs) := by
  rw [List.take_add_one, hz, List.filter_append]
  simp [h]
theorem rel_few {F : Pf} (h : (fos F.s.2.2).length * ((fo F.o.2.2).length * (fo F.a.2.2).length) ≤ 65536) : (rel F).length ≤ 65536 := by
  have q1 := relA_len F (fo F.a.2.2) (fo F.o.2.2) (fos F.s.2.2)
  show (relA F _ _ _).length ≤ _
  omega
set_option maxRecDepth 100000 in
set_option maxHeartbeats 8000000 in
theorem meanDenyWins_walk (F : Pf) (N : Nat) (w : World) (h : F.In w) (f : Fine F N) : Calls Try.prog 10 #[.agg F.arr] w fun e w' => e = .returned (.bool true) ∧ Below w.heap.size w w' := by
  have H := hide' h
  have Hf := hide' f
  have hxc := h.x.2.1
  have hxl : (F.x.2.2.length : Int) ≤ 1048576 := by have := f.x; have := f.n; omega
  clear h f
  go_enter Try.func10, Try.ntmps10
  go_wp2_with fail
  have B0 : Hid (Below w.heap.size w (w.alloc (.cells F.arr 34)) ∧ (w.alloc (.cells F.arr 34)).heap[w.heap.size]? = some (.cells F.arr 34 (0, 0))) := ⟨(Below.refl _ _).alloc (Nat.le_refl _) _, heap_alloc_new w _⟩
  generalize w.alloc (.cells F.arr 34) = V at *
  obtain ⟨q1, hq1⟩ : ∃ q1, q1 = w.heap.size := ⟨_, rfl⟩
  rw [← hq1]
  have B0' : Hid (Below w.heap.size w V ∧ V.heap[q1]? = some (.cells F.arr 34 (0, 0))) := by rw [hq1]; exact B0
  clear hq1 B0
  have BW : Hid (∀ (V V' : World), (Below w.heap.size w V ∧ V.heap[q1]? = some (.cells F.arr 34 (0, 0))) → Below V.heap.size V V' → (Below w.heap.size w V' ∧ V'.heap[q1]? = some (.cells F.arr 34 (0, 0)))) := fun V V' p b => ⟨p.1.trans (b.mono p.1.size), (b.block _ (lt_of_heap p.2)).trans p.2⟩
  refine (alive_any V).mono ?_
  rintro e V1 ⟨rfl, b1⟩
  have B1 := hide' (BW.out _ _ B0'.out b1)
  clear B0' b1 V
  go_wp2_with (with_reducible refine stay_load 34 _ rfl ?_)
  unfold Stay
  refine wpList_load_row rfl 34 _ rfl q1 rfl 34 F.arr (0, 0) _ B1.out.2 Try.underlying34 rfl (size_arr F) ?_
  go_wp2_with fail
  refine (vast_call F N V1 Hf.out).mono ?_
  rintro e V2 ⟨rfl, b2⟩
  have B2 := hide' (BW.out _ _ B1.out b2)
  clear B1 b2 V1
  cases hv : vst F.s.2.2.length F.o.2.2.length F.a.2.2.length with
  | true =>
    clear hv
    go_wp2_with fail
    go_ret
    exact ⟨rfl, B2.out.1⟩
  | false =>
  have Hv := hide' (vst_few hv)
  clear hv
  go_wp2_with (with_reducible refine stay_load 34 _ rfl ?_)
  unfold Stay
  refine wpList_load_row rfl 34 _ rfl q1 rfl 34 F.arr (0, 0) _ B2.out.2 Try.underlying34 rfl (size_arr F) ?_
  go_wp2_with fail
  refine (only_any F false V2 (H.out.below B2.out.1) Hf.out.small).mono ?_
  rintro e V3 ⟨Y, rfl, oy, iy, b3⟩
  have B3 := hide' (BW.out _ _ B2.out b3)
  have OY := hide' (And.intro oy iy)
  clear oy iy b3 B2 V2
  go_wp2_with fail
  refine (rel_call Y N V3 OY.out.2 (OY.out.1.fine Hf.out) (by rw [few_nm OY.out.1.nm]; exact Hv.out)).mono ?_
  rintro e V4 ⟨yo, yc, rfl, ry, b4⟩
  have B4 := hide' (BW.out _ _ B3.out b4)
  have RY := hide' ry
  clear ry b4 B3
  go_wp2_with (with_reducible refine stay_load 34 _ rfl ?_)
  unfold Stay
  refine wpList_load_row rfl 34 _ rfl q1 rfl 34 F.arr (0, 0) _ B4.out.2 Try.underlying34 rfl (size_arr F) ?_
  go_wp2_with fail
  refine (only_any F true V4 (H.out.below B4.out.1) Hf.out.small).mono ?_
  rintro e V5 ⟨M, rfl, om, im, b5⟩
  have B5 := hide' (BW.out _ _ B4.out b5)
  have OM := hide' (And.intro om im)
  have RY5 := hide' (And.intro (RY.out.ints.below b5) RY.out.cap)
  clear om im b5 B4 RY
  go_wp2_with fail
  refine (rel_call M N V5 OM.out.2 (OM.out.1.fine Hf.out) (by rw [few_nm OM.out.1.nm]; exact Hv.out)).mono ?_
  rintro e V6 ⟨no, nc, rfl, rn, b6⟩
  have B6 := hide' (BW.out _ _ B5.out b6)
  have RY6 := hide' (And.intro (RY5.out.1.below b6) RY5.out.2)
  have RN6 := hide' (And.intro rn.ints rn.cap)
  have WN := hide' (rel_wins OY.out.1 OM.out.1)
  have hyl : ((rel Y).length : Int) ≤ 65536 := by have := rel_few (F := Y) (by rw [few_nm OY.out.1.nm]; exact Hv.out); omega
  have hnl : ((rel M).length : Int) ≤ 65536 := by have := rel_few (F := M) (by rw [few_nm OM.out.1.nm]; exact Hv.out); omega
  have hyc := RY6.out.2
  have hnc := RN6.out.2
  clear rn b6 B5 RY5 OY OM
  generalize rel Y = ys at *
  generalize rel M = ms at *
  go_wp2_with fail
  go_loopw [7, 8] (fun wv iv wx => ∃ (i : Nat) (wo : Option Addr) (wc : Nat), iv = .int .i64 (i : Int) ∧ i ≤ ys.length ∧ wv = .slice wo ((ys.take i).filter (wnt ms F.x.2.2)).length wc ∧ Hid (Below V6.heap.size V6 wx ∧ X.RowI V6.heap.size wo wc ((ys.take i).filter (wnt ms F.x.2.2)) wx)) (fun _ iv _ => ys.length - (intOf iv).toNat)
  case atStart => exact ⟨0, none, 0, rfl, Nat.zero_le _, rfl, Below.refl _ _, X.RowI.nil _ _⟩
  case round =>
    obtain ⟨i, wo, wc, rfl, hi, rfl, HM⟩ := hrel
    by_cases hlt : i < ys.length
    · have hlt' : (i : Int) < (ys.length : Int) := by omega
      obtain ⟨z, hz⟩ : ∃ z, ys[i]? = some z := ⟨_, List.getElem?_eq_getElem hlt⟩
      obtain ⟨y, off, hy, hyl', d1, d2, d3⟩ := (RY6.out.1.below HM.out.1).at hz
      have Hz := hide' hz
      have Hy := hide' hy
      have RY7 : Hid (∀ W, Below V6.heap.size V6 W → W.cell? ⟨y, off + i * 3, none⟩ = some (.string z.1) ∧ W.cell? ⟨y, off + i * 3 + 1, none⟩ = some (.string z.2.1) ∧ W.cell? ⟨y, off + i * 3 + 2, none⟩ = some (.string z.2.2) ∧ W.cell? ⟨q1, 10, none⟩ = some (.slice F.x.1 F.x.2.2.length F.x.2.1)) := fun W b => by
        obtain ⟨y', off', hy', _, g1, g2, g3⟩ := (RY6.out.1.below b).at hz
        rw [hy] at hy'
        cases hy'
        have g4 := (BW.out _ _ B6.out b).2
        exact ⟨g1, g2, g3, by rw [Lib.cell_of_heap g4]; rfl⟩
      rw [hy]
      clear hz hy hyl' hi
      go_wp2_with fail
      refine (has_any no nc ms z wr (RN6.out.1.below HM.out.1) hnc (by omega)).mono ?_
      rintro e w1 ⟨rfl, b1⟩
      have H1 := hide' (And.intro (HM.out.1.trans (b1.mono HM.out.1.size)) (HM.out.2.below b1))
      clear b1 d1 d2 d3 HM
      obtain ⟨d1, d2, d3, d4⟩ := RY7.out w1 H1.out.1
      go_wp2_with fail
      have C33 : Hid (∀ W, Below V6.heap.size V6 W → Calls Try.prog 33 #[.slice F.x.1 F.x.2.2.length F.x.2.1, .agg #[.string z.1, .string z.2.1, .string z.2.2]] W fun e w' => e = .returned (.bool (isIn F.x.2.2 z)) ∧ Below W.heap.size W w') := fun W b => has_any F.x.1 F.x.2.1 F.x.2.2 z W (H.out.below (BW.out _ _ B6.out b).1).x.1 hxc hxl
      have e0 : Below V6.heap.size V6 w1.drew := H1.out.1.trans ⟨rfl, rfl, rfl, Nat.le_refl _, fun _ _ => rfl⟩
      have r0 : Hid (X.RowI V6.heap.size wo wc ((ys.take i).filter (wnt ms F.x.2.2)) w1.drew) := H1.out.2.below ⟨rfl, rfl, rfl, Nat.le_refl _, fun _ _ => rfl⟩
      go_region_held3 (fun W => W.cell? ⟨y, off + i * 3, none⟩ = some (.string z.1) ∧ W.cell? ⟨y, off + i * 3 + 1, none⟩ = some (.string z.2.1) ∧ W.cell? ⟨y, off + i * 3 + 2, none⟩ = some (.string z.2.2) ∧ W.cell? ⟨q1, 10, none⟩ = some (.slice F.x.1 F.x.2.2.length F.x.2.1)) (first | with_reducible exact RY7.out _ e1 | with_reducible exact RY7.out _ e0 | go_keep) (first | (go_at_call 33; refine (C33.out _ e0).mono ?_; rintro e w2 ⟨rfl, b2⟩; have r1 := hide' (r0.out.below b2); have e1 : Below V6.heap.size V6 w2 := e0.trans (b2.mono e0.size); clear b2))
      rename_i hHeld
      clear hHeld d1 d2 d3 d4 e0 r0 H1
      obtain ⟨d1, d2, d3, d4⟩ := RY7.out w2 e1
      have E1 := hide' e1
      clear e1
      cases h1 : isIn ms z with
      | true =>
        have HF : Hid ((ys.take (i + 1)).filter (wnt ms F.x.2.2) = (ys.take i).filter (wnt ms F.x.2.2)) := wnt_no Hz.out (by unfold wnt; rw [h1]; rfl)
        clear h1
        generalize isIn F.x.2.2 z = v2 at *
        go_wp2_with fail
        exact ⟨⟨i + 1, wo, wc, by go_num, by omega, by rw [HF.out], by rw [HF.out]; exact ⟨E1.out, r1.out⟩⟩, by simp [intOf]; omega⟩
      | false =>
        cases h2 : isIn F.x.2.2 z with
        | true =>
          have HF : Hid ((ys.take (i + 1)).filter (wnt ms F.x.2.2) = (ys.take i).filter (wnt ms F.x.2.2)) := wnt_no Hz.out (by unfold wnt; rw [h1, h2]; rfl)
          clear h1 h2
          go_wp2_with fail
          exact ⟨⟨i + 1, wo, wc, by go_num, by omega, by rw [HF.out], by rw [HF.out]; exact ⟨E1.out, r1.out⟩⟩, by simp [intOf]; omega⟩
        | false =>
          have HF : Hid ((ys.take (i + 1)).filter (wnt ms F.x.2.2) = (ys.take i).filter (wnt ms F.x.2.2) ++ [z]) := wnt_yes Hz.out (by unfold wnt; rw [h1, h2]; rfl)
          clear h1 h2
          go_wp2_with (at_builtin; refine stay_app _ _ _ rfl ?_)
          unfold Stay
          refine X.wpList_app1 w2 rfl _ _ rfl V6.heap.size wo wc _ z 36 _ rfl r1.out rfl (by have := List.length_filter_le (wnt ms F.x.2.2) (ys.take i); have := List.length_take_le i ys; show _ < _; omega) E1.out.size ?_
          intro g cap wz r8 t8 hg hl8
          have HM3 := hide' (And.intro (E1.out.trans (below_own t8 (fun j q => (r1.out.lt j q).1) E1.out.size)) r8)
          clear hg hl8 r8 t8 r1 E1
          go_wp2_with fail
          exact ⟨⟨i + 1, _, _, by go_num, by omega, by rw [HF.out, List.length_append]; rfl, by rw [HF.out]; exact HM3⟩, by simp [intOf]; omega⟩
    · have hk : i = ys.length := by omega
      have hlt' : ¬ (i : Int) < (ys.length : Int) := by omega
      have HM2 := HM
      rw [hk, List.take_length, WN.out] at HM2
      rw [hk, List.take_length, WN.out, ← hk]
      clear HM hk
      go_wp2_with (with_reducible refine stay_load 34 _ rfl ?_)
      unfold Stay
      clear hlt hlt' hi
      have B7 := hide' (BW.out _ _ B6.out HM2.out.1)
      refine wpList_load_w (by rfl) 34 _ rfl q1 rfl 34 F.arr (0, 0) _ B7.out.2 Try.underlying34 rfl (size_arr _) ?_
      go_wp2_with fail
      refine (rel_call F N wr (H.out.below B7.out.1) Hf.out Hv.out).mono ?_
      rintro e V8 ⟨to, tc, rfl, r8, b8⟩
      have B8 := hide' (BW.out _ _ B7.out b8)
      have E8 := hide' (And.intro (And.intro r8.ints r8.cap) (And.intro (HM2.out.2.below b8).ints HM2.out.2.cap))
      have hfl : Hid (((rel F).length : Int) < 1099511627777) := by have := rel_few Hv.out; show _ < _; omega
      clear r8 b8 HM2 B7
      go_wp2_with fail
      refine (equal_self to wo tc wc (rel F) V8 E8.out.1.1 E8.out.2.1 E8.out.1.2 E8.out.2.2 hfl.out).mono ?_
      rintro e V9 ⟨rfl, b9⟩
      have B9 := hide' (BW.out _ _ B8.out b9)
      clear b9 B8 E8
      go_wp2_with fail
      go_ret
      exact ⟨rfl, B9.out.1⟩
end U
end Go.Proofs.Ytodgokcjjlkcoaa
