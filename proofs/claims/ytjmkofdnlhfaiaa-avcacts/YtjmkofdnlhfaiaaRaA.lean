import Derived.Test.YtjmkofdnlhfaiaaRa9
set_option linter.unusedVariables false
set_option linter.unusedSimpArgs false
namespace Go.Proofs.Ytjmkofdnlhfaiaa
open Go.RowKit
namespace C
variable {n v : Nat} {s : St} {L : List Dc} {B r hb : Nat} {lo : Option Addr} {lc : Nat} {w w' : World}
set_option maxRecDepth 100000 in
set_option maxHeartbeats 4000000 in
theorem rput_turn (tag : Int) (t : Tr) (al : Bool) (h : Rf B r hb n v s L lo lc w) (h1 : s.ev < 4000000000000000000) (hf : fst (has (s.f (spt n t)) t) v = none) (hr : fst (fre (s.f (spt n t))) v = none) : Calls Try.prog 24 #[.pointer (some ⟨r, 0, none⟩), .int .i64 tag, .int .i64 t.s, .int .i64 t.o, .int .i64 t.a, .bool al] w fun e w' => e = .returned (.tuple #[]) ∧ RT B r hb n v (pta n v s tag t al) lo w w' := by
  rw [pta_turn hf hr]
  have Hfull : Hid (∀ q, q < v → ∃ d, s.f (spt n t) q = some d ∧ d.t ≠ t) := hide' (fun q hq => by
    have := fst_none hr q hq
    unfold fre at this
    cases e : s.f (spt n t) q with
    | none => rw [e] at this; cases this
    | some d => exact ⟨d, rfl, fun e2 => by have := fst_none hf q hq; rw [has_of e e2] at this; cases this⟩)
  have hi := spt_lt h.nv.1.1 t
  have ho := h.lr.of_none h.nv.1.1 hf
  obtain ⟨w0, x, hw0, hx, HF⟩ := rput_pre t h
  rw [ho] at HF
  unfold idx at HF
  replace HF := hide' HF
  have Hlow : Hid (∀ j, RO r hb lo j → j < w.heap.size) := hide' (fun j hj => (h.low hj).2)
  have Hv := hide' h.nv.2
  have Hn := hide' h.nv.1
  have Hlr := hide' h.lr
  have Hx := hide' hx
  have Hw0 := hide' hw0
  have W1 := hide' (wsucN s.ev (by omega))
  have HT0 : Hid (Tn v (trn v (s.f (spt n t)) (s.h (spt n t)) v) t (s.f (spt n t)) (s.h (spt n t)) v) := hide' ⟨h.hv _ hi, rfl, fun j hj _ => dst_lt (h.hv _ hi) hj, Hfull.out⟩
  clear h hf hr ho hx hw0 h1
  generalize trn v (s.f (spt n t)) (s.h (spt n t)) v = R at *
  go_enter Try.func24, Try.ntmps24
  go_wp2_with fail
  rw [← Hw0.out, ← Hx.out]
  refine HF.out.mono ?_
  rintro e w2 ⟨rfl, H2⟩
  clear HF Hw0 Hx
  have HS := hide' (rput_pre2 t tag al H2.out.1 H2.out.2.1 H2.out.2.2 Hlow.out)
  clear H2
  go_wp2_with fail
  refine HS.out.mono ?_
  rintro e w3 ⟨rfl, H3⟩
  clear HS
  have x0 : w3.cell? ⟨x, 0, none⟩ = some (.int .i64 t.s) := by rw [Lib.cell_of_heap H3.out.1]; rfl
  have x1 : w3.cell? ⟨x, 1, none⟩ = some (.int .i64 t.o) := by rw [Lib.cell_of_heap H3.out.1]; rfl
  have x2 : w3.cell? ⟨x, 2, none⟩ = some (.int .i64 t.a) := by rw [Lib.cell_of_heap H3.out.1]; rfl
  generalize hI : spt n t = I at *
  obtain ⟨w4, hw4⟩ : ∃ w4, w4 = w3.alloc (.cells #[.int .i64 (I : Nat), .int .i64 0, .int .i64 t.s, .int .i64 t.o, .int .i64 t.a, .int .i64 tag, .bool al, .bool false] 82) := ⟨_, rfl⟩
  obtain ⟨y, hy⟩ : ∃ y, y = w3.heap.size := ⟨_, rfl⟩
  have H4 : Hid (Rg B r hb n v s L lo lc y 0 t tag al w w4) := hide' (by rw [hy, hw4]; exact H3.out.2)
  have Hy := hide' hy
  have Hw4 := hide' hw4
  clear hy hw4 H3
  go_wp2_with fail
  rw [← Hy.out, ← Hw4.out]
  clear Hy Hw4 x0 x1 x2
  go_loopw [16] (fun p wx => wx = w4 ∧ ∃ k : Nat, k ≤ v ∧ p = .int .i64 (k : Int)) (fun p _ => v - (intOf p).toNat)
  case atStart => exact ⟨rfl, 0, by omega, rfl⟩
  case round =>
    obtain ⟨rfl, k, hk, rfl⟩ := hrel
    have c1 := H4.out.rf.c1
    by_cases hkv : k < v
    · have hkv' : (k : Int) < (v : Int) := by omega
      have HC := hide' (rin_any I k H4.out.rf)
      obtain ⟨d, hd, _⟩ := Hfull.out k hkv
      obtain ⟨m, hm, _⟩ := Hlr.out.in_some hi hkv hd
      rw [hm] at HC
      unfold idx at HC
      have Hw := hide' (wsucN k (by have := Hv.out; omega))
      have hm0 : ¬ (m : Int) < 0 := by omega
      clear hm hd
      go_wp2_with fail
      refine HC.out.mono ?_
      rintro e wa ⟨rfl, hwa⟩
      replace hwa := hwa.symm
      subst hwa
      clear HC
      go_wp2
      exact ⟨⟨by trivial, k + 1, by omega, by rw [Hw.out]⟩, msr' hkv _ (Hw.out.trans (by omega))⟩
    · obtain rfl : v = k := by omega
      have H4' : Hid (∃ p L', Rg B r hb n v (sf s I (s.f I) (s.h I)) L' lo lc y p t tag al w wr) := hide' ⟨0, L, by
        have e : sf s I (s.f I) (s.h I) = s := by unfold sf; rw [fup_id, fup_id]
        rw [e]; exact H4.out⟩
      clear H4 Hlr Hfull hk hkv
      have hIn : (I : Int) < (n : Int) := by omega
      have hv0 : (0 : Int) < (v : Int) := by have := Hv.out; omega
      go_wp2_with fail
      go_loopw [17] (fun q wx => ∃ (q' : Nat), q = .int .i64 (q' : Int) ∧ ∃ f kk m p L', Hid (q' + m = v ∧ Tn v R t f kk m ∧ Rg B r hb n v (sf s I f kk) L' lo lc y p t tag al w wx)) (fun q _ => v + 1 - (intOf q).toNat)
      case atStart => exact ⟨0, rfl, _, _, v, _, _, hide' ⟨by omega, HT0.out, H4'.out.choose_spec.choose_spec⟩⟩
      case round =>
        clear H4' HT0 c1
        obtain ⟨q, rfl, f, kk, m, p, L', HK⟩ := hrel
        have hq : q < v + 1 := by have := HK.out.1; omega
        have hq' : (q : Int) ≤ (v : Int) := by omega
        have hkv := HK.out.2.1.kv
        have rf := HK.out.2.2.rf
        obtain ⟨d, hd, hdt⟩ := HK.out.2.1.full kk hkv
        obtain ⟨P, hP, hLP⟩ := rf.lr.in_some (d := d) hi hkv (by show fup s.f I f I kk = _; rw [fup_self]; exact hd)
        have HC := rin_any I kk rf
        rw [hP] at HC
        unfold idx at HC
        replace HC := hide' HC
        have c1 := rf.c1
        have c2 := rf.c2
        have ch := rf.hc hi
        rw [show (sf s I f kk).h I = kk from fup_self _ _ _] at ch
        have d1 : wr.cell? ⟨y, 1, none⟩ = some (.int .i64 (p : Nat)) := by rw [Lib.cell_of_heap HK.out.2.2.db]; rfl
        have df : wr.frozen? ⟨y, 1, none⟩ = false := Lib.frozen_of_heap HK.out.2.2.db 1
        have HP := hide' (And.intro hLP hd)
        have Hkv := hide' hkv
        have nyr : r ≠ y := HK.out.2.2.ny r (.inl rfl)
        have nyh : hb ≠ y := HK.out.2.2.ny hb (.inr (.inl rfl))
        clear rf hP hLP hd hkv hdt
        go_wp2_with fail
        refine HC.out.mono ?_
        rintro e wa ⟨rfl, hwa⟩
        replace hwa := hwa.symm
        subst hwa
        clear HC
        obtain ⟨w5, hw5⟩ : ∃ w5, w5 = wr.setCell ⟨y, 1, none⟩ (.int .i64 (kk : Nat)) := ⟨_, rfl⟩
        have H5 : Hid (Rg B r hb n v (sf s I f kk) L' lo lc y kk t tag al w w5) := hide' (by rw [hw5]; exact HK.out.2.2.pset kk)
        have Hw5 := hide' hw5
        clear hw5
        go_wp2_with fail
        rw [← Hw5.out]
        have c1' := H5.out.rf.c1
        have c2' := H5.out.rf.c2
        have ch' := H5.out.rf.hc hi
        have chf := H5.out.rf.hf I
        rw [show (sf s I f kk).h I = kk from fup_self _ _ _] at ch'
        have HN := hide' (nx_tmod Hkv.out Hv.out.2)
        have H6 : Hid (Rg B r hb n v (sf s I f (nx v kk)) L' lo lc y kk t tag al w (w5.setCell ⟨hb, I, none⟩ (.int .i64 (nx v kk : Nat))).drew) := hide' (by
          have e : sh (sf s I f kk) I (nx v kk) = sf s I f (nx v kk) := by unfold sh sf; rw [fup_fup]
          have hh := H5.out.rf.hset hi (nx_lt Hkv.out)
          rw [e] at hh
          exact H5.out.step (hh.1.kept (S := fun _ => False) ((Turn.refl _ _).drew) (fun _ _ q => q)) hh.2.drew)
        have HTn := hide' (And.intro HK.out.1 HK.out.2.1)
        clear Hw5 c1 c2 ch d1 df HK H5
        go_region
        rw [HN.out]
        clear c1' c2' ch' chf HN
        generalize (w5.setCell ⟨hb, I, none⟩ (.int .i64 (nx v kk : Nat))).drew = w6 at *
        obtain ⟨g, rfl, hc, hz⟩ := H6.out.rf.ent HP.out.1
        have p7 := hc 7 _ rfl
        have c3 := H6.out.rf.c3
        have hPl : P < L'.length := (List.getElem?_eq_some_iff.1 HP.out.1).1
        have hPl' : (P : Int) < (L'.length : Int) := by omega
        cases hm : d.mr with
        | false =>
          rw [hm] at p7
          have hmk : mkd f kk = false := by unfold mkd; rw [HP.out.2]; exact hm
          have hR : R = (f, kk) := HTn.out.2.eq.trans (trn_no hmk)
          subst hR
          have d0 : w6.cell? ⟨y, 0, none⟩ = some (.int .i64 (I : Nat)) := by rw [Lib.cell_of_heap H6.out.db]; exact (by first | rfl | (rw [hI]; rfl))
          have d1 : w6.cell? ⟨y, 1, none⟩ = some (.int .i64 (kk : Nat)) := by rw [Lib.cell_of_heap H6.out.db]; exact (by first | rfl | (rw [hI]; rfl))
          have d2 : w6.cell? ⟨y, 2, none⟩ = some (.int .i64 t.s) := by rw [Lib.cell_of_heap H6.out.db]; exact (by first | rfl | (rw [hI]; rfl))
          have d3 : w6.cell? ⟨y, 3, none⟩ = some (.int .i64 t.o) := by rw [Lib.cell_of_heap H6.out.db]; exact (by first | rfl | (rw [hI]; rfl))
          have d4 : w6.cell? ⟨y, 4, none⟩ = some (.int .i64 t.a) := by rw [Lib.cell_of_heap H6.out.db]; exact (by first | rfl | (rw [hI]; rfl))
          have d5 : w6.cell? ⟨y, 5, none⟩ = some (.int .i64 tag) := by rw [Lib.cell_of_heap H6.out.db]; exact (by first | rfl | (rw [hI]; rfl))
          have d6 : w6.cell? ⟨y, 6, none⟩ = some (.bool al) := by rw [Lib.cell_of_heap H6.out.db]; exact (by first | rfl | (rw [hI]; rfl))
          have d7 : w6.cell? ⟨y, 7, none⟩ = some (.bool false) := by rw [Lib.cell_of_heap H6.out.db]; exact (by first | rfl | (rw [hI]; rfl))
          have e0 := hc 0 _ rfl
          have z0 := hz (P * 8 + 0)
          have e1 := hc 1 _ rfl
          have z1 := hz (P * 8 + 1)
          have e2 := hc 2 _ rfl
          have z2 := hz (P * 8 + 2)
          have e3 := hc 3 _ rfl
          have z3 := hz (P * 8 + 3)
          have e4 := hc 4 _ rfl
          have z4 := hz (P * 8 + 4)
          have e5 := hc 5 _ rfl
          have z5 := hz (P * 8 + 5)
          have e6 := hc 6 _ rfl
          have z6 := hz (P * 8 + 6)
          have e7 := p7
          have z7 := hz (P * 8 + 7)
          rw [Nat.add_zero] at e0 z0
          have ngy : g ≠ y := H6.out.ny g (.inr (.inr ⟨⟨g, 0, none⟩, rfl, rfl⟩))
          have ngr : g ≠ r := (H6.out.rf.nat (j := g) ⟨⟨g, 0, none⟩, rfl, rfl⟩).1
          have HE : Hid (Rf B r hb n v ⟨fup2 (fup s.f I f) I kk (some ⟨t, tag, al, false⟩), fup s.h I (nx v kk), s.hi, s.mi, s.ev⟩ (L'.set P ⟨I, kk, ⟨t, tag, al, false⟩⟩) (some ⟨g, 0, none⟩) lc ((((((((w6.setCell ⟨g, P * 8, none⟩ (.int .i64 (I : Nat))).setCell ⟨g, P * 8 + 1, none⟩ (.int .i64 (kk : Nat))).setCell ⟨g, P * 8 + 2, none⟩ (.int .i64 t.s)).setCell ⟨g, P * 8 + 3, none⟩ (.int .i64 t.o)).setCell ⟨g, P * 8 + 4, none⟩ (.int .i64 t.a)).setCell ⟨g, P * 8 + 5, none⟩ (.int .i64 tag)).setCell ⟨g, P * 8 + 6, none⟩ (.bool al)).setCell ⟨g, P * 8 + 7, none⟩ (.bool false)).drew ∧ Turn (RO r hb (some ⟨g, 0, none⟩)) w ((((((((w6.setCell ⟨g, P * 8, none⟩ (.int .i64 (I : Nat))).setCell ⟨g, P * 8 + 1, none⟩ (.int .i64 (kk : Nat))).setCell ⟨g, P * 8 + 2, none⟩ (.int .i64 t.s)).setCell ⟨g, P * 8 + 3, none⟩ (.int .i64 t.o)).setCell ⟨g, P * 8 + 4, none⟩ (.int .i64 t.a)).setCell ⟨g, P * 8 + 5, none⟩ (.int .i64 tag)).setCell ⟨g, P * 8 + 6, none⟩ (.bool al)).setCell ⟨g, P * 8 + 7, none⟩ (.bool false)).drew) := hide' (by
            have hh := H6.out.rf.pall HP.out.1 ⟨I, kk, ⟨t, tag, al, false⟩⟩ (s' := ⟨fup2 (fup s.f I f) I kk (some ⟨t, tag, al, false⟩), fup s.h I (nx v kk), s.hi, s.mi, s.ev⟩) rfl ⟨rfl, rfl, rfl⟩ (H6.out.rf.lr.set Hn.out.1 HP.out.1 ⟨t, tag, al, false⟩ hI (fun j' d' hj' hne hd' => by
              replace hd' : fup s.f I f I j' = some d' := hd'
              rw [fup_self] at hd'
              obtain ⟨d2, hd2, ht2⟩ := HTn.out.2.full j' hj'
              rw [hd2] at hd'
              cases hd'
              exact ht2) (fun i' j' _ _ => fup2_at ..))
            exact ⟨hh.1, H6.out.tu.trans hh.2⟩)
          clear hc hz HTn hm hmk p7
          go_wp2_with fail
          go_region
          generalize ((((((((w6.setCell ⟨g, P * 8, none⟩ (.int .i64 (I : Nat))).setCell ⟨g, P * 8 + 1, none⟩ (.int .i64 (kk : Nat))).setCell ⟨g, P * 8 + 2, none⟩ (.int .i64 t.s)).setCell ⟨g, P * 8 + 3, none⟩ (.int .i64 t.o)).setCell ⟨g, P * 8 + 4, none⟩ (.int .i64 t.a)).setCell ⟨g, P * 8 + 5, none⟩ (.int .i64 tag)).setCell ⟨g, P * 8 + 6, none⟩ (.bool al)).setCell ⟨g, P * 8 + 7, none⟩ (.bool false)).drew = w7 at *
          clear d0 d1 d2 d3 d4 d5 d6 d7 e0 e1 e2 e3 e4 e5 e6 e7 z0 z1 z2 z3 z4 z5 z6 z7 c3 H6
          have c6 := HE.out.1.c6
          have c6f := HE.out.1.fr 6
          have HE2 := hide' (HE.out.1.cset ⟨fup2 (fup s.f I f) I kk (some ⟨t, tag, al, false⟩), fup s.h I (nx v kk), s.hi, s.mi, s.ev + 1⟩ rfl rfl 6 (.int .i64 ((s.ev + 1 : Nat) : Int)) rfl)
          have HT := hide' HE.out.2
          clear HE
          go_wp2
          refine bodyPost_ret (results_none rfl _ _ _) rfl ?_
          rw [W1.out]
          exact ⟨rfl, _, _, _, HE2.out.1, HT.out.trans HE2.out.2, fun j hj => .inl hj⟩
        | true =>
          rw [hm] at p7
          have hmk : mkd f kk = true := by unfold mkd; rw [HP.out.2]; exact hm
          obtain ⟨m', rfl⟩ := HTn.out.2.pos hmk
          have HX := hide' (HTn.out.2.next hmk)
          have p7f := hz (P * 8 + 7)
          have HE : Hid (Rg B r hb n v (sf s I (C.unm f kk) (nx v kk)) (L'.set P ⟨I, kk, umk d⟩) (some ⟨g, 0, none⟩) lc y kk t tag al w (w6.setCell ⟨g, P * 8 + 7, none⟩ (.bool false))) := hide' (by
            have hh := H6.out.rf.pset HP.out.1 (q := 7) (by omega) rfl (.bool false) (x' := ⟨I, kk, umk d⟩) rfl (s' := sf s I (C.unm f kk) (nx v kk)) rfl ⟨rfl, rfl, rfl⟩ (H6.out.rf.lr.set Hn.out.1 HP.out.1 (umk d) (H6.out.rf.lr.spot _ (List.mem_of_getElem? HP.out.1)) (fun j' d' hj' hne hd' e => hne (H6.out.rf.lr.uniq I j' kk d' d hi hj' Hkv.out hd' (by show fup s.f I f I kk = _; rw [fup_self]; exact HP.out.2) e)) (fun i' j' _ _ => sf_unm s I f kk _ HP.out.2 i' j'))
            exact H6.out.step hh.1 hh.2)
          have Hw := hide' (wsucN q (by have := Hv.out; omega))
          have Hqm : Hid (q + 1 + m' = v) := hide' (by have := HTn.out.1; omega)
          clear hc hz HTn hm hmk H6
          go_wp2
          exact ⟨⟨q + 1, by rw [Hw.out], _, _, m', _, _, hide' ⟨Hqm.out, HX.out, HE.out⟩⟩, msr' hq _ (Hw.out.trans (by omega))⟩
theorem rput_any (tag : Int) (t : Tr) (al : Bool) (h : Rf B r hb n v s L lo lc w) (h1 : s.ev < 4000000000000000000) : Calls Try.prog 24 #[.pointer (some ⟨r, 0, none⟩), .int .i64 tag, .int .i64 t.s, .int .i64 t.o, .int .i64 t.a, .bool al] w fun e w' => e = .returned (.tuple #[]) ∧ RT B r hb n v (pta n v s tag t al) lo w w' := by
  cases hf : fst (has (s.f (spt n t)) t) v with
  | some j =>
    obtain ⟨hj, hh, _⟩ := fst_some hf
    obtain ⟨d, hd, _⟩ := has_true hh
    exact rput_same tag t al h hf hd
  | none =>
    cases hr : fst (fre (s.f (spt n t))) v with
    | some j => exact rput_room tag t al h hf hr
    | none => exact rput_turn tag t al h h1 hf hr
end C
end Go.Proofs.Ytjmkofdnlhfaiaa
