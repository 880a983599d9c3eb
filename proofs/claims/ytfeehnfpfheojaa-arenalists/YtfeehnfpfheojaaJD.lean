import Derived.Test.YtfeehnfpfheojaaJC
import Derived.Test.YtfeehnfpfheojaaAtl
import Derived.Test.YtfeehnfpfheojaaJB
import Derived.Deep.CutBlock
set_option linter.unusedVariables false
set_option linter.unusedSimpArgs false
namespace Go.Proofs.Ytfeehnfpfheojaa
open Go.RowKit Go.Sort
namespace Ra
open Fr Ar
variable {B b : Nat} {s : Int} {ws of : List Int} {cnt : Nat} {wo oo : Option Addr} {wc oc : Nat} {w w' : World}
variable {D : Nat → Prop} {L : List Bk}
set_option maxRecDepth 100000 in
set_option maxHeartbeats 4000000 in
theorem give_none (a : Int) (h : Dl D B b s L ws cnt w) (hf : ∀ x ∈ L, ps a x = false) : Calls Try.prog 45 #[.pointer (some ⟨b, 0, none⟩), .int .i64 a] w fun r w' => r = .returned (.int .i64 151) ∧ Below w.heap.size w w' := by
  have hb := h.few
  have HB := hide' (dl_blocks h)
  have HL := hide' hb.1
  have HF := hide' hf
  obtain ⟨N, hN⟩ : ∃ N, N = L.length := ⟨_, rfl⟩
  have HN := hide' hN
  rw [← hN] at HB
  clear h hb hN hf
  go_enter Try.func45, Try.ntmps45
  go_wp2_with fail
  refine HB.out.mono ?_
  rintro e w1 ⟨g, rc, rfl, k1, k2⟩
  have H1 := hide' (And.intro k1 k2)
  clear k1 k2 HB
  go_wp2_with fail
  go_loopw [6] (fun y wx => ∃ k : Nat, y = .int .i64 (k : Int) ∧ k ≤ N ∧ ∃ V, V = wx ∧ V = w1) (fun y _ => N - (intOf y).toNat)
  case atStart => exact ⟨0, rfl, Nat.zero_le _, _, rfl, rfl⟩
  case round =>
    obtain ⟨k, rfl, hk, V, rfl, rfl⟩ := hrel
    by_cases hlt : k < N
    · have hltI : (k : Int) < (N : Int) := by omega
      have e2 : wrap64 ((k : Int) + 1) = (k : Int) + 1 := by have := HL.out; have := HN.out; unfold wrap64; omega
      have Hend := hide' (msr2 hlt _ e2)
      have hkL : k < L.length := by rw [← HN.out]; exact hlt
      obtain ⟨g', eg, z0, z1, z2, z3⟩ := H1.out.1.item (List.getElem?_eq_getElem hkL)
      cases eg
      have hp := HF.out L[k] (List.getElem_mem hkL)
      obtain ⟨f, hff⟩ : ∃ f, f = L[k].free := ⟨_, rfl⟩
      obtain ⟨x, hx⟩ : ∃ f, f = L[k].addr := ⟨_, rfl⟩
      rw [← hff] at z3
      rw [← hx] at z1
      have hp2 : (!f && decide (x = a)) = false := by rw [hff, hx]; exact hp
      have K := hide' hlt
      clear hk hlt z0 z2 hkL hp hff hx
      by_cases hxa : x = a
      · have hf : f = true := by rw [hxa] at hp2; simpa using hp2
        subst hf
        subst hxa
        clear hp2
        go_wp2
        exact ⟨⟨k + 1, by rw [e2]; rfl, K.out, _, rfl, rfl⟩, Hend.out⟩
      · have g1 : (x == a) = false := beq_false_of_ne hxa
        clear hp2
        go_wp2
        exact ⟨⟨k + 1, by rw [e2]; rfl, K.out, _, rfl, rfl⟩, Hend.out⟩
    · obtain rfl : k = N := by omega
      clear hk hlt
      go_wp2
      go_ret
      exact ⟨rfl, H1.out.2⟩
set_option maxRecDepth 100000 in
set_option maxHeartbeats 8000000 in
theorem give_some (a v : Nat) {L1 L2 : List Bk} (h : Dl D B b s L ws cnt w) (hL : L = L1 ++ ⟨(a : Int), (v : Int), false⟩ :: L2) : Calls Try.prog 45 #[.pointer (some ⟨b, 0, none⟩), .int .i64 (a : Int)] w fun r w' => r = .returned (.int .i64 0) ∧ Dl D B b s (gvL L (a : Int)) (M.pfill ws (a : Int) (v : Int) M.P) cnt w' ∧ Turn D w w' := by
  have hb := h.few
  have HB := hide' (dl_blocks h)
  have HL := hide' hb.1
  obtain ⟨of, wo, oo, wc, oc, d1, d2, d3, d4, d5, d6, d7, d8⟩ := h
  obtain ⟨N, hN⟩ : ∃ N, N = L.length := ⟨_, rfl⟩
  have HN := hide' hN
  rw [← hN] at HB
  have hcov : Cov s L (of.length : Int) := by rw [d5]; exact hb.2.2
  have hpm := cov_mem hcov ⟨(a : Int), (v : Int), false⟩ (by rw [hL]; exact List.mem_append_right _ List.mem_cons_self)
  simp only at hpm
  have hap : (∀ x ∈ L1, x.addr ≠ (a : Int)) ∧ (∀ x ∈ L2, x.addr ≠ (a : Int)) := by
    have hc := hcov
    rw [hL] at hc
    obtain ⟨q1, q2⟩ := cov_apart hc
    refine ⟨fun x hx e => ?_, fun x hx e => ?_⟩
    · have y1 := q1 x hx
      have y2 := (cov_mem hcov x (by rw [hL]; exact List.mem_append_left _ hx)).2.1
      simp only at y1
      omega
    · have y1 := q2 x hx
      simp only at y1
      omega
  obtain ⟨g, e1, _⟩ := row_at d1.rw_ (show a < ws.length by omega)
  obtain ⟨hh, e2, _⟩ := row_at d1.ro (show a < of.length by omega)
  subst e1
  subst e2
  have Ham : Hid (a + v ≤ ws.length ∧ a + v ≤ of.length ∧ 1 ≤ v ∧ ws.length ≤ 65536) := hide' (by omega)
  have HQ := hide' (And.intro hL hap)
  have HD := hide' (And.intro d1 (And.intro d2 (And.intro d3 (And.intro d4 (And.intro d5 (And.intro d6 (And.intro d7 d8)))))))
  obtain ⟨K0, hK0⟩ : ∃ K0, K0 = L1.length := ⟨_, rfl⟩
  have HK0 : Hid (K0 = L1.length ∧ K0 < N ∧ L[K0]? = some ⟨(a : Int), (v : Int), false⟩) := hide' (by
    refine ⟨hK0, ?_, ?_⟩
    · rw [hN, hL, hK0]; simp
    · rw [hL, hK0]; simp)
  have lb := lt_of_heap d1.hb
  clear hb hN hL hpm hcov hap d1 d2 d3 d4 d5 d6 d7 d8 hK0
  go_enter Try.func45, Try.ntmps45
  go_wp2_with fail
  refine HB.out.mono ?_
  rintro e w1 ⟨gl, rc, rfl, k1, k2⟩
  have H1 := hide' (And.intro k1 k2)
  clear k1 k2 HB
  go_wp2_with fail
  go_loopw [6] (fun y wx => ∃ k : Nat, y = .int .i64 (k : Int) ∧ k ≤ K0 ∧ ∃ V, V = wx ∧ V = w1) (fun y _ => N - (intOf y).toNat)
  case atStart => exact ⟨0, rfl, Nat.zero_le _, _, rfl, rfl⟩
  case round =>
    obtain ⟨k, rfl, hk, V, rfl, rfl⟩ := hrel
    have hltN : k < N := by have := HK0.out.2.1; omega
    have hltI : (k : Int) < (N : Int) := by omega
    have hkL : k < L.length := by rw [← HN.out]; exact hltN
    obtain ⟨g', eg, z0, z1, z2, z3⟩ := H1.out.1.item (List.getElem?_eq_getElem hkL)
    cases eg
    by_cases hlt : k < K0
    · have e2 : wrap64 ((k : Int) + 1) = (k : Int) + 1 := by have := HL.out; have := HN.out; unfold wrap64; omega
      have Hend := hide' (msr2 hltN _ e2)
      have hp : L[k].addr ≠ (a : Int) := by
        have hk1 : k < L1.length := by rw [← HK0.out.1]; exact hlt
        have : L[k] = L1[k] := by
          have e := HQ.out.1
          simp only [e]
          rw [List.getElem_append_left hk1]
        rw [this]
        exact HQ.out.2.1 _ (List.getElem_mem hk1)
      obtain ⟨x, hx⟩ : ∃ f, f = L[k].addr := ⟨_, rfl⟩
      rw [← hx] at z1 hp
      have g1 : (x == (a : Int)) = false := beq_false_of_ne hp
      have K := hide' hlt
      clear hk hlt z0 z2 z3 hkL hp hx hltN lb
      go_wp2
      exact ⟨⟨k + 1, by rw [e2]; rfl, K.out, _, rfl, rfl⟩, Hend.out⟩
    · obtain rfl : k = K0 := by omega
      have hLk : L[k] = ⟨(a : Int), (v : Int), false⟩ := by
        have := HK0.out.2.2
        rw [List.getElem?_eq_getElem hkL] at this
        exact Option.some.inj this
      rw [hLk] at z1 z2 z3
      simp only at z1 z2 z3
      have dV := HD.out.1.below H1.out.2
      have F0 : Hid (Fl V B b s ws of cnt g hh wc oc a M.P 0 0 V) := hide' ⟨dV, Turn.refl _ _⟩
      have nlB : ∀ j, Own b (some ⟨g, 0, none⟩) (some ⟨hh, 0, none⟩) j → ¬ M.At (some ⟨gl, 0, none⟩) j := fun j q q2 => by
        have y1 := (HD.out.1.lt q).2
        have y2 := (H1.out.1.lt q2).1
        omega
      have HnlB := hide' nlB
      have R0 : Hid (RowB w.heap.size (some ⟨gl, 0, none⟩) rc L V) := hide' H1.out.1
      have Hit : Hid (∀ X, RowB w.heap.size (some ⟨gl, 0, none⟩) rc L X → X.cell? ⟨gl, k * 3 + 1, none⟩ = some (.int .i64 (v : Int))) := hide' (fun X hX => by
        obtain ⟨g', eg, _, _, y1, _⟩ := hX.item (List.getElem?_eq_getElem hkL)
        cases eg
        rw [hLk] at y1
        exact y1)
      clear hk hlt z0 hltN dV nlB hLk lb hkL
      go_wp2_with fail
      clear z1 z2 z3
      go_loopw [7] (fun y wx => ∃ j : Nat, y = .int .i64 ((a + j : Nat) : Int) ∧ j ≤ v ∧ ∃ X, X = wx ∧ Fl V B b s ws of cnt g hh wc oc a M.P 0 j X ∧ RowB w.heap.size (some ⟨gl, 0, none⟩) rc L X) (fun y _ => (a + v) - (intOf y).toNat)
      case atStart => exact ⟨0, rfl, Nat.zero_le _, _, rfl, F0.out, R0.out⟩
      case round =>
        obtain ⟨j, rfl, hj, X, rfl, hF, hR⟩ := hrel
        obtain ⟨I, hI⟩ : ∃ I, I = a + j := ⟨_, rfl⟩
        rw [← hI]
        have y1 := Hit.out X hR
        have e1 : wrap64 ((a : Int) + (v : Int)) = ((a + v : Nat) : Int) := by have := Ham.out; unfold wrap64; omega
        by_cases hjm : j < v
        · have q1 : (I : Int) < ((a + v : Nat) : Int) := by omega
          have e2 : wrap64 ((I : Int) + 1) = ((I + 1 : Nat) : Int) := by have := Ham.out; unfold wrap64; omega
          have Hend : Hid (a + v - (intOf (.int .i64 (wrap64 ((I : Int) + 1)))).toNat < a + v - (intOf (.int .i64 (I : Int))).toNat) := hide' (by
            rw [e2]
            show a + v - (((I + 1 : Nat) : Int)).toNat < a + v - (I : Int).toNat
            omega)
          have c1 := hF.1.c1
          have c2 := hF.1.c2
          rw [M.fil_len] at c1 c2
          obtain ⟨_, e3, r1, r2⟩ := row_at hF.1.rw_ (i := I) (by rw [M.fil_len]; have := Ham.out; omega)
          cases e3
          obtain ⟨_, e3, r3, r4⟩ := row_at hF.1.ro (i := I) (by rw [M.fil_len]; have := Ham.out; omega)
          cases e3
          obtain ⟨n1, hn1⟩ : ∃ n, n = ws.length := ⟨_, rfl⟩
          obtain ⟨n2, hn2⟩ : ∃ n, n = of.length := ⟨_, rfl⟩
          rw [← hn1] at c1
          rw [← hn2] at c2
          have q2 : (I : Int) < (n1 : Int) := by have := Ham.out; omega
          have q3 : (I : Int) < (n2 : Int) := by have := Ham.out; omega
          generalize og (M.fil ws a M.P j) (I : Int) = v1 at *
          generalize og (M.fil of a 0 j) (I : Int) = v2 at *
          have hFs := hF.step
          rw [← hI] at hFs
          have hgh : g ≠ hh := fun e => hF.1.ne g ⟨_, rfl, rfl⟩ ⟨_, rfl, e⟩
          have hbg : b ≠ g := fun e => hF.1.nb.1 ⟨_, rfl, e⟩
          have hbh : b ≠ hh := fun e => hF.1.nb.2 ⟨_, rfl, e⟩
          have hRs : RowB w.heap.size (some ⟨gl, 0, none⟩) rc L ((X.setCell ⟨hh, I, none⟩ (.int .i64 0)).setCell ⟨g, I, none⟩ (.int .i64 M.P)) := (hR.kept (turn_one hh I _ X) (fun j q e => HnlB.out j (.inr (.inr ⟨_, rfl, e⟩)) q)).kept (turn_one g I _ _) (fun j q e => HnlB.out j (.inr (.inl ⟨_, rfl, e⟩)) q)
          have K := hide' (And.intro hFs (And.intro hRs (And.intro hI hjm)))
          have c1' : (X.setCell ⟨hh, I, none⟩ (.int .i64 0)).cell? ⟨b, 1, none⟩ = some (.slice (some ⟨g, 0, none⟩) n1 wc) := ((turn_one hh I _ X).cell (p := ⟨b, 1, none⟩) (lt_of_heap hF.1.hb) hbh).trans c1
          have lg : g < X.heap.size := (row_kd hF.1.rw_ ⟨_, rfl, rfl⟩).2.2
          have r1' : (X.setCell ⟨hh, I, none⟩ (.int .i64 0)).cell? ⟨g, I, none⟩ = some (.int .i64 v1) := ((turn_one hh I _ X).cell (p := ⟨g, I, none⟩) lg hgh).trans r1
          have r2' : (X.setCell ⟨hh, I, none⟩ (.int .i64 0)).frozen? ⟨g, I, none⟩ = false := (World.frozen?_of_block ((turn_one hh I (.int .i64 0) X).block g lg hgh)).trans r2
          clear hF hR hFs hRs hI hjm hj hn1 hn2 F0 R0
          go_wp2_with fail
          go_upto_region 10 with fail
          generalize X.setCell ⟨hh, I, none⟩ (.int .i64 0) = X1 at *
          have K2 : Hid (Fl V B b s ws of cnt g hh wc oc a M.P 0 (j + 1) (X1.setCell ⟨g, I, none⟩ (.int .i64 M.P)) ∧ RowB w.heap.size (some ⟨gl, 0, none⟩) rc L (X1.setCell ⟨g, I, none⟩ (.int .i64 M.P))) := hide' ⟨K.out.1, K.out.2.1⟩
          clear c1 c2 r1 r2 r3 r4 y1 hgh hbg hbh lg
          go_wp2
          refine ⟨⟨j + 1, ?_, K.out.2.2.2, _, rfl, K2.out.1, K2.out.2⟩, Hend.out⟩
          rw [e2, K.out.2.2.1]
          rfl
        · obtain rfl : j = v := by omega
          have q1 : ¬ (I : Int) < ((a + j : Nat) : Int) := by omega
          have K : Hid (Fl V B b s ws of cnt g hh wc oc a M.P 0 j X) := hide' hF
          clear hF hR hj hjm hI F0 R0
          go_wp2_with fail
          go_ret
          obtain ⟨d1, d2, d3, d4, d5, d6, d7, d8⟩ := HD.out
          obtain ⟨l1, l2, l3⟩ := HQ.out
          have hAm := Ham.out
          have hw1 : M.pfill ws (a : Int) (j : Int) M.P = M.fil ws a M.P j := by
            unfold M.pfill
            rw [if_pos (show M.Wi ws (a : Int) (j : Int) from ⟨by omega, by omega, by omega⟩)]
            rfl
          have hlen : (M.fil of a 0 j).length = of.length := M.fil_len _ _ _ _
          have hlw : (M.fil ws a M.P j).length = ws.length := M.fil_len _ _ _ _
          refine ⟨rfl, ⟨M.fil of a 0 j, _, _, _, _, by rw [hw1]; exact K.out.1, ?_, d3, by rw [hlen]; exact d4, by rw [hlen, hw1, hlw]; exact d5, by rw [hw1, hlw]; exact d6, fun i => ?_, d8⟩, ?_⟩
          · rw [l1, gvL_of l2 l3]
            refine Seg.give (of := of) (by rw [← l1]; exact d2) d3 hlen (fun i q1 q2 => ?_)
            rw [og_fil (by omega) i (by omega)]
          · by_cases hi : 0 ≤ i
            · rw [og_fil (by omega) i hi]
              split
              · omega
              · exact d7 i
            · have e : og (M.fil of a 0 j) i = og (M.fil of a 0 j) 0 := by unfold og; rw [show i.toNat = (0 : Int).toNat by omega]
              rw [e, og_fil (by omega) 0 (by omega)]
              split
              · omega
              · exact d7 0
          · exact ((turn_below H1.out.2).trans K.out.2).mono (fun j _ q => (d8 j).2 q)
end Ra
end Go.Proofs.Ytfeehnfpfheojaa
set_option linter.unusedVariables false
set_option linter.unusedSimpArgs false
namespace Go.Proofs.Ytfeehnfpfheojaa
open Go.RowKit Go.Sort
namespace Ra
open Fr Ar
variable {B b ab x : Nat} {s : Int} {ws : List Int} {tr : List M.Ac} {bad : Nat} {cnt cb : Nat} {w w' : World}
variable {D : Nat → Prop} {L : List Bk}
/-- what Take answers and makes, of the pieces -/
def tA (L : List Bk) (n : Int) : Int := if n < 1 then 0 else match L.find? (pf n) with | some p => p.addr | none => 0
def tE (L : List Bk) (n : Int) : Int := if n < 1 then 1 else match L.find? (pf n) with | some _ => 0 | none => 150
def tL (L : List Bk) (n : Int) : List Bk := if n < 1 then L else match L.find? (pf n) with | some _ => tkL L n | none => L
def tW (ws : List Int) (L : List Bk) (n : Int) : List Int := if n < 1 then ws else match L.find? (pf n) with | some p => M.pfill ws p.addr n 0 | none => ws
def gE (L : List Bk) (a : Int) : Int := match L.find? (ps a) with | some _ => 0 | none => 151
def gL (L : List Bk) (a : Int) : List Bk := match L.find? (ps a) with | some _ => gvL L a | none => L
def gW (ws : List Int) (L : List Bk) (a : Int) : List Int := match L.find? (ps a) with | some p => M.pfill ws a p.size M.P | none => ws
theorem tk_cases (L : List Bk) (n : Int) : (n < 1 ∧ tA L n = 0 ∧ tE L n = 1 ∧ tL L n = L ∧ ∀ ws, tW ws L n = ws) ∨ (1 ≤ n ∧ (∀ x ∈ L, pf n x = false) ∧ tA L n = 0 ∧ tE L n = 150 ∧ tL L n = L ∧ ∀ ws, tW ws L n = ws) ∨ (1 ≤ n ∧ ∃ L1 p L2, L = L1 ++ p :: L2 ∧ (∀ x ∈ L1, pf n x = false) ∧ pf n p = true ∧ tA L n = p.addr ∧ tE L n = 0 ∧ tL L n = tkL L n ∧ ∀ ws, tW ws L n = M.pfill ws p.addr n 0) := by
  by_cases h : n < 1
  · exact .inl ⟨h, by unfold tA; rw [if_pos h], by unfold tE; rw [if_pos h], by unfold tL; rw [if_pos h], fun ws => by unfold tW; rw [if_pos h]⟩
  · have h1 : 1 ≤ n := by omega
    cases hf : L.find? (pf n) with
    | none =>
      refine .inr (.inl ⟨h1, fun x hx => ?_, by unfold tA; rw [if_neg h, hf], by unfold tE; rw [if_neg h, hf], by unfold tL; rw [if_neg h, hf], fun ws => by unfold tW; rw [if_neg h, hf]⟩)
      have := List.find?_eq_none.1 hf x hx
      simpa using this
    | some p =>
      obtain ⟨hp, L1, L2, e, h2⟩ := List.find?_eq_some_iff_append.1 hf
      exact .inr (.inr ⟨h1, L1, p, L2, e, fun x hx => by simpa using h2 x hx, hp, by unfold tA; rw [if_neg h, hf], by unfold tE; rw [if_neg h, hf], by unfold tL; rw [if_neg h, hf], fun ws => by unfold tW; rw [if_neg h, hf]⟩)
theorem gv_cases (L : List Bk) (a : Int) : ((∀ x ∈ L, ps a x = false) ∧ gE L a = 151 ∧ gL L a = L ∧ ∀ ws, gW ws L a = ws) ∨ (∃ L1 v L2, L = L1 ++ ⟨a, v, false⟩ :: L2 ∧ gE L a = 0 ∧ gL L a = gvL L a ∧ ∀ ws, gW ws L a = M.pfill ws a v M.P) := by
  cases hf : L.find? (ps a) with
  | none =>
    refine .inl ⟨fun x hx => ?_, by unfold gE; rw [hf], by unfold gL; rw [hf], fun ws => by unfold gW; rw [hf]⟩
    have := List.find?_eq_none.1 hf x hx
    simpa using this
  | some p =>
    obtain ⟨hp, L1, L2, e, h2⟩ := List.find?_eq_some_iff_append.1 hf
    obtain ⟨pa, pz, pg⟩ := p
    unfold ps at hp
    simp at hp
    obtain ⟨hp1, hp2⟩ := hp
    subst hp1
    subst hp2
    exact .inr ⟨L1, pz, L2, e, by unfold gE; rw [hf], by unfold gL; rw [hf], fun ws => by unfold gW; rw [hf]⟩
theorem tW_len (ws : List Int) (L : List Bk) (n : Int) : (tW ws L n).length = ws.length := by
  have e : ∀ (a m c : Int), (M.pfill ws a m c).length = ws.length := fun a m c => by
    unfold M.pfill
    split
    · exact M.fil_len _ _ _ _
    · rfl
  unfold tW
  split
  · rfl
  · split
    · exact e _ _ _
    · rfl
theorem gW_len (ws : List Int) (L : List Bk) (a : Int) : (gW ws L a).length = ws.length := by
  unfold gW
  split
  · unfold M.pfill
    split
    · exact M.fil_len _ _ _ _
    · rfl
  · rfl
/-- the document's Take -/
theorem dl_take (n : Int) (h : Dl D B b s L ws cnt w) (hc : cnt < 4611686018427387904) : Calls Try.prog 47 #[.pointer (some ⟨b, 0, none⟩), .int .i64 n] w fun r w' => r = .returned (.tuple #[.int .i64 (tA L n), .int .i64 (tE L n)]) ∧ (∃ c, c ≤ cnt + 1 ∧ Dl D B b s (tL L n) (tW ws L n) c w') ∧ Turn D w w' := by
  rcases tk_cases L n with ⟨h1, e1, e2, e3, e4⟩ | ⟨h1, hf, e1, e2, e3, e4⟩ | ⟨h1, L1, p, L2, hL, hf, hp, e1, e2, e3, e4⟩
  · rw [e1, e2, e3, e4]
    refine (take_bad n h1).mono ?_
    rintro r w' ⟨rfl, rfl⟩
    exact ⟨rfl, ⟨cnt, Nat.le_succ _, h⟩, Turn.refl _ _⟩
  · rw [e1, e2, e3, e4]
    refine (take_none n h h1 hf).mono ?_
    rintro r w' ⟨rfl, hb⟩
    exact ⟨rfl, ⟨cnt, Nat.le_succ _, h.below hb⟩, turn_below hb⟩
  · rw [e1, e2, e3, e4]
    refine (take_some n h h1 hL hf hp hc).mono ?_
    rintro r w' ⟨rfl, a, t⟩
    exact ⟨rfl, ⟨cnt + 1, Nat.le_refl _, a⟩, t⟩
/-- the document's Give -/
theorem dl_give (a : Int) (h : Dl D B b s L ws cnt w) : Calls Try.prog 45 #[.pointer (some ⟨b, 0, none⟩), .int .i64 a] w fun r w' => r = .returned (.int .i64 (gE L a)) ∧ Dl D B b s (gL L a) (gW ws L a) cnt w' ∧ Turn D w w' := by
  rcases gv_cases L a with ⟨hf, e1, e2, e3⟩ | ⟨L1, v, L2, hL, e1, e2, e3⟩
  · rw [e1, e2, e3]
    refine (give_none a h hf).mono ?_
    rintro r w' ⟨rfl, hb⟩
    exact ⟨rfl, h.below hb, turn_below hb⟩
  · rw [e1, e2, e3]
    have hf := h.few
    have hm := cov_mem hf.2.2 ⟨a, v, false⟩ (by rw [hL]; exact List.mem_append_right _ List.mem_cons_self)
    have h0 : 0 ≤ s := by obtain ⟨_, _, _, _, _, _, _, q, _⟩ := h; exact q
    simp only at hm
    obtain ⟨A, rfl⟩ : ∃ A : Nat, a = (A : Int) := ⟨a.toNat, by omega⟩
    obtain ⟨V, rfl⟩ : ∃ V : Nat, v = (V : Int) := ⟨v.toNat, by omega⟩
    exact give_some A V h hL
/-- the program's Take, by the pieces -/
theorem at_take (n : Int) (H : Atl D B ab x ws tr bad s L cb w) (hc : cb < 4611686018425000000) (hn2 : n ≤ 9223372036854775807) : Calls Try.prog 46 #[.pointer (some ⟨ab, 0, none⟩), .int .i64 n] w fun r w' => r = .returned (.tuple #[.int .i64 (tA L n), .int .i64 (tE L n)]) ∧ LTo D B ab x (tW ws L n) tr bad s (tL L n) (cb + 65537) w w' := by
  have hself := H
  obtain ⟨F, O, cnt, h1, T, h3, h4, h5, h6⟩ := H
  have hOl : O.length ≤ L.length := by rw [← T.ou.length_eq]; exact outs_le L
  have hLl := hself.pure.2.2.1
  have none_of : (∀ x ∈ frees L, x.size < n) → ∀ x ∈ L, pf n x = false := fun hs x hx => by
    unfold pf
    cases hx2 : x.free with
    | false => rfl
    | true =>
      have := hs x (List.mem_filter.2 ⟨hx, hx2⟩)
      simp
      omega
  refine (take_any n h1 T.dis T.oks (by omega) T.keys (by omega) hn2).mono ?_
  rintro r w' (⟨q, hr, hw⟩ | ⟨q, hs, hr, hd, ho, c', hc', D', hA, t, hD⟩ | ⟨q, S, p, FR, hN, hd, ho, hsm, hnp, hr, c', hc', D', hA, t, hD⟩)
  · subst hw
    rcases tk_cases L n with ⟨_, e1, e2, e3, e4⟩ | ⟨z, _⟩ | ⟨z, _⟩
    · rw [e1, e2, e3, e4]
      exact ⟨hr, D, hself.mono (by omega), Turn.refl _ _, fun _ z => .inl z⟩
    · omega
    · omega
  · have hs2 := none_of (by rw [T.fr]; exact hs)
    rcases tk_cases L n with ⟨z, _⟩ | ⟨_, _, e1, e2, e3, e4⟩ | ⟨_, L1, p, L2, hL, _, hp, _⟩
    · omega
    · rw [e1, e2, e3, e4]
      exact ⟨hr, D', ⟨norm F, O, c', hA, ⟨T.cov, by rw [norm_norm]; exact T.fr, T.ou, hd, ho⟩, h3, h4, h5, by omega⟩, t, hD⟩
    · have := hs2 p (by rw [hL]; exact List.mem_append_right _ List.mem_cons_self)
      rw [hp] at this
      cases this
  · obtain ⟨L1, L2, hL, hf, hpf, T'⟩ := T.take q hN hd ho hnp
    have hm := cov_mem T.cov p (by rw [hL]; exact List.mem_append_right _ List.mem_cons_self)
    have hp : pf n p = true := by unfold pf; simp [hpf, hnp]
    have hL1 : ∀ y ∈ L1, pf n y = false := fun y hy => by
      unfold pf
      cases hx2 : y.free with
      | false => rfl
      | true =>
        have := hsm y (by rw [← hf]; exact List.mem_filter.2 ⟨hy, hx2⟩)
        simp
        omega
    have htk := tkL_of (L2 := L2) hL1 hp
    rw [← hL] at htk
    have hfind : L.find? (pf n) = some p := List.find?_eq_some_iff_append.2 ⟨hp, L1, L2, hL, fun y hy => by rw [hL1 y hy]; rfl⟩
    have hn : ¬ n < 1 := by omega
    have e1 : tA L n = p.addr := by unfold tA; rw [if_neg hn, hfind]
    have e2 : tE L n = 0 := by unfold tE; rw [if_neg hn, hfind]
    have e3 : tL L n = L1 ++ ⟨p.addr, n, false⟩ :: (rem p n ++ L2) := by unfold tL; rw [if_neg hn, hfind]; exact htk
    have e4 : tW ws L n = M.pfill ws p.addr n 0 := by unfold tW; rw [if_neg hn, hfind]
    have g1 : (M.pfill ws p.addr n 0).length = ws.length := by rw [← e4]; exact tW_len _ _ _
    rw [e1, e2, e3, e4]
    exact ⟨hr, D', ⟨_, _, c', hA, by rw [g1]; exact T', h3, by rw [g1]; exact h4, by rw [g1]; exact h5, by omega⟩, t, hD⟩
/-- the program's Give, by the pieces -/
theorem at_give (a : Int) (hk : Oo.okk a) (H : Atl D B ab x ws tr bad s L cb w) (hc : cb < 4611686018425000000) : Calls Try.prog 44 #[.pointer (some ⟨ab, 0, none⟩), .int .i64 a] w fun r w' => r = .returned (.int .i64 (gE L a)) ∧ LTo D B ab x (gW ws L a) tr bad s (gL L a) (cb + 65537) w w' := by
  have hself := H
  obtain ⟨F, O, cnt, h1, T, h3, h4, h5, h6⟩ := H
  have nd : O.Pairwise (fun p q => p.1 ≠ q.1) := by obtain ⟨_, _, _, _, A, _⟩ := h1; exact A.om.nd
  have memO : ∀ z : Bk, z ∈ L → z.free = false → (z.addr, z.size) ∈ O := fun z hz hf => T.ou.mem_iff.1 (List.mem_map.2 ⟨z, List.mem_filter.2 ⟨hz, by simp [hf]⟩, rfl⟩)
  cases hh : Oo.hasK O a with
  | false =>
    refine (give_no a hk h1 hh).mono ?_
    rintro r w' ⟨hr, hw⟩
    subst hw
    rcases gv_cases L a with ⟨_, e1, e2, e3⟩ | ⟨L1, v, L2, hL, _⟩
    · rw [e1, e2, e3]
      exact ⟨hr, D, hself.mono (by omega), Turn.refl _ _, fun _ z => .inl z⟩
    · exact absurd rfl (Oo.has_no hh _ (memO ⟨a, v, false⟩ (by rw [hL]; exact List.mem_append_right _ List.mem_cons_self) rfl))
  | true =>
    obtain ⟨L1, L2, F', hL, hp, T'⟩ := T.give nd h3 (by omega) hh
    obtain ⟨z1, z2, z3, z4⟩ := T.siz_yes nd hh
    have hfl := few T.dis T.oks
    refine (give_yes a hk h1 hh hp (by omega) (by omega) (by omega)).mono ?_
    rintro r w' ⟨hr, D', hA, t, hD⟩
    have hcov := T.cov
    rw [hL] at hcov
    obtain ⟨q1, q2⟩ := cov_apart hcov
    simp only at q1 q2
    have n1 : ∀ y ∈ L1, y.addr ≠ a := fun y hy e => by
      have := q1 y hy
      have := (cov_mem hcov y (List.mem_append_left _ hy)).2.1
      omega
    have n2 : ∀ y ∈ L2, y.addr ≠ a := fun y hy e => by
      have := q2 y hy
      omega
    have hfind : L.find? (ps a) = some ⟨a, Oo.val O a, false⟩ := List.find?_eq_some_iff_append.2 ⟨by unfold ps; simp, L1, L2, hL, fun y hy => by unfold ps; simp [n1 y hy]⟩
    have e1 : gE L a = 0 := by unfold gE; rw [hfind]
    have e2 : gL L a = normT (L1 ++ ⟨a, Oo.val O a, true⟩ :: L2) := by unfold gL; rw [hfind]; simp only; rw [hL]; exact gvL_of n1 n2
    have e3 : gW ws L a = M.pfill ws a (Oo.val O a) M.P := by unfold gW; rw [hfind]
    have g1 : (M.pfill ws a (Oo.val O a) M.P).length = ws.length := by rw [← e3]; exact gW_len _ _ _
    rw [e1, e2, e3]
    exact ⟨hr, D', ⟨F', _, cnt + 1, hA, by rw [g1]; exact T', h3, by rw [g1]; exact h4, by rw [g1]; exact h5, by omega⟩, t, hD⟩
end Ra
end Go.Proofs.Ytfeehnfpfheojaa
set_option linter.unusedVariables false
set_option linter.unusedSimpArgs false
namespace Go.Proofs.Ytfeehnfpfheojaa
open Go.RowKit Go.Sort
namespace Ra
open Fr Ar
variable {B b : Nat} {s : Int} {ws of : List Int} {cnt : Nat} {wo oo : Option Addr} {wc oc : Nat} {w w' : World}
variable {D : Nat → Prop} {L : List Bk}
theorem ri3 : (Try.prog.info? 3).map (fun i => (i.zero, i.size, i.bytes)) = some (some (.int .i64 0), 1, 8) := by kernel_rfl
/-- a word more, in either row -/
theorem Da.growW {v : Int} {gg cap' : Nat} {w1 : World} (h : Da B b s ws of cnt wo oo wc oc w) (hB : B ≤ w.heap.size) (r1 : w1.ownsRow B 3 1 (.slice (some ⟨gg, 0, none⟩) (ws.length + 1) cap') (ws.length + 1) (M.ivs ws ++ [.int .i64 v])) (t1 : Turn (M.At wo) w w1) (hg : M.At wo gg ∨ w.heap.size ≤ gg) :
    Da B b s (ws ++ [v]) of cnt (some ⟨gg, 0, none⟩) oo cap' oc (w1.setCell ⟨b, 1, none⟩ (.slice (some ⟨gg, 0, none⟩) (ws.length + 1) cap')) ∧ Below B w (w1.setCell ⟨b, 1, none⟩ (.slice (some ⟨gg, 0, none⟩) (ws.length + 1) cap')) := by
  have nb := h.nb
  have t2 := turn_one b 1 (.slice (some ⟨gg, 0, none⟩) (ws.length + 1) cap') w1
  have hgb : gg ≠ b := by
    rcases hg with q | q
    · exact fun e => nb.1 (e ▸ q)
    · have := lt_of_heap h.hb; omega
  have hx := (t1.block b (lt_of_heap h.hb) nb.1).trans h.hb
  have hgo : ∀ j, M.At oo j → j ≠ gg := fun j q e => by
    rcases hg with z | z
    · exact h.ne gg z (e ▸ q)
    · have := (row_kd h.ro q).2.2; omega
  refine ⟨⟨?_, ?_, ?_, ?_, h.lo⟩, ?_⟩
  · rw [List.length_append]; exact set_block hx
  · rw [List.length_append]
    have := t2.row r1 (fun j hj e => by
      have : gg = j := by simpa [Value.ownBlock] using hj
      omega)
    simpa [M.ivs] using this
  · exact t2.row (t1.row h.ro (fun j hj e => h.ne j e (M.own_at hj))) (fun j hj e => nb.2 (e ▸ M.own_at hj))
  · rintro j ⟨a, ha, rfl⟩ q
    cases ha
    exact hgo gg q rfl
  · exact (t1.below (fun j q => (row_kd h.rw_ q).2.1) hB).trans (t2.below (fun j q => q ▸ h.lo) (Nat.le_trans hB t1.size))
theorem Da.growO {v : Int} {gg cap' : Nat} {w1 : World} (h : Da B b s ws of cnt wo oo wc oc w) (hB : B ≤ w.heap.size) (r1 : w1.ownsRow B 3 1 (.slice (some ⟨gg, 0, none⟩) (of.length + 1) cap') (of.length + 1) (M.ivs of ++ [.int .i64 v])) (t1 : Turn (M.At oo) w w1) (hg : M.At oo gg ∨ w.heap.size ≤ gg) :
    Da B b s ws (of ++ [v]) cnt wo (some ⟨gg, 0, none⟩) wc cap' (w1.setCell ⟨b, 2, none⟩ (.slice (some ⟨gg, 0, none⟩) (of.length + 1) cap')) ∧ Below B w (w1.setCell ⟨b, 2, none⟩ (.slice (some ⟨gg, 0, none⟩) (of.length + 1) cap')) := by
  have nb := h.nb
  have t2 := turn_one b 2 (.slice (some ⟨gg, 0, none⟩) (of.length + 1) cap') w1
  have hgb : gg ≠ b := by
    rcases hg with q | q
    · exact fun e => nb.2 (e ▸ q)
    · have := lt_of_heap h.hb; omega
  have hx := (t1.block b (lt_of_heap h.hb) nb.2).trans h.hb
  have hgo : ∀ j, M.At wo j → j ≠ gg := fun j q e => by
    rcases hg with z | z
    · exact h.ne j q (e ▸ z)
    · have := (row_kd h.rw_ q).2.2; omega
  refine ⟨⟨?_, ?_, ?_, ?_, h.lo⟩, ?_⟩
  · rw [List.length_append]; exact set_block hx
  · exact t2.row (t1.row h.rw_ (fun j hj e => h.ne j (M.own_at hj) e)) (fun j hj e => nb.1 (e ▸ M.own_at hj))
  · rw [List.length_append]
    have := t2.row r1 (fun j hj e => by
      have : gg = j := by simpa [Value.ownBlock] using hj
      omega)
    simpa [M.ivs] using this
  · rintro j q ⟨a, ha, e⟩
    cases ha
    exact hgo j q e
  · exact (t1.below (fun j q => (row_kd h.ro q).2.1) hB).trans (t2.below (fun j q => q ▸ h.lo) (Nat.le_trans hB t1.size))
theorem rep_more (k : Nat) : List.replicate k (0 : Int) ++ [0] = List.replicate (k + 1) 0 := (List.replicate_succ' ..).symm
set_option maxRecDepth 100000 in
set_option maxHeartbeats 400000 in
theorem rnew_bad (n f : Int) (h : f < 0 ∨ n ≤ f) : Calls Try.prog 32 #[.int .i64 n, .int .i64 f] w fun r w' => r = .returned (.tuple #[.pointer none, .int .i64 3]) ∧ w' = w := by
  by_cases h0 : f < 0
  · clear h
    go_enter Try.func32, Try.ntmps32
    go_wp2
    go_ret2
    exact ⟨rfl, rfl⟩
  · have h1 : n ≤ f := by omega
    have h2 : 0 ≤ f := by omega
    clear h
    go_enter Try.func32, Try.ntmps32
    go_wp2
    go_ret2
    exact ⟨rfl, rfl⟩
set_option maxRecDepth 100000 in
set_option maxHeartbeats 8000000 in
theorem rnew_ok (n : Nat) (f : Int) (hB : B ≤ w.heap.size) (h0 : 0 ≤ f) (h1 : f < (n : Int)) (hn : n ≤ 65536) : Calls Try.prog 32 #[.int .i64 (n : Int), .int .i64 f] w fun r w' => r = .returned (.tuple #[.pointer (some ⟨w.heap.size, 0, none⟩), .int .i64 0]) ∧ Below w.heap.size w w' ∧ ∃ D, Dl D B w.heap.size f [⟨f, (n : Int) - f, true⟩] (List.replicate n 0) 0 w' ∧ ∀ j, D j → w.heap.size ≤ j := by
  have g1 : ¬ f < 0 := by omega
  have g2 : ¬ (n : Int) ≤ f := by omega
  have HN := hide' (And.intro hn (And.intro h0 (And.intro h1 hB)))
  obtain ⟨b, hb⟩ : ∃ b, b = w.heap.size := ⟨_, rfl⟩
  have Hb := hide' hb
  have D0 : Hid (Da w.heap.size b f [] [] 0 none none 0 0 (w.alloc (.cells #[.int .i64 f, .slice none 0 0, .slice none 0 0, .int .i64 0] 85))) := hide' ⟨by rw [hb]; exact heap_alloc_new _ _, World.ownsRow_nil _ _ _ _, World.ownsRow_nil _ _ _ _, (fun j q => by obtain ⟨a, e, _⟩ := q; cases e), by rw [hb]; exact Nat.le_refl _⟩
  have B0 : Hid (Below w.heap.size w (w.alloc (.cells #[.int .i64 f, .slice none 0 0, .slice none 0 0, .int .i64 0] 85))) := hide' ((Below.refl _ _).alloc (Nat.le_refl _) _)
  clear hB h0 h1 hn hb
  go_enter Try.func32, Try.ntmps32
  go_wp2_with fail
  rw [← Hb.out]
  go_loopw [7] (fun y wx => ∃ (k : Nat) (wo oo : Option Addr) (wc oc : Nat) (V : World), V = wx ∧ y = .int .i64 (k : Int) ∧ k ≤ n ∧ Da w.heap.size b f (List.replicate k 0) (List.replicate k 0) 0 wo oo wc oc V ∧ Below w.heap.size w V) (fun y _ => n - (intOf y).toNat)
  case atStart => exact ⟨0, none, none, 0, 0, _, rfl, rfl, Nat.zero_le _, D0.out, B0.out⟩
  case round =>
    obtain ⟨k, wo, oo, wc, oc, W, rfl, rfl, hk, hd, hbw⟩ := hrel
    by_cases hlt : k < n
    · have hltI : (k : Int) < (n : Int) := by omega
      have e2 : wrap64 ((k : Int) + 1) = (k : Int) + 1 := by have := HN.out.1; unfold wrap64; omega
      have Hend := hide' (msr2 hlt _ e2)
      have c1 := hd.c1
      have f1 := hd.f 1
      have H := hide' (And.intro hd (And.intro hbw hlt))
      have lr : (List.replicate k (0 : Int)).length = k := List.length_replicate
      have hl : Hid ((List.replicate k (0 : Int)).length < 3000000000000) := hide' (by have := HN.out.1; rw [lr]; omega)
      have row := hide' hd.rw_
      have nb := hd.nb
      have lb := lt_of_heap hd.hb
      rw [lr] at c1
      have HBW := hide' hbw.size
      have HLR := hide' lr
      rw [lr] at row hl
      clear hd hbw hlt hk lr
      go_wp2_with (at_builtin; first | (have G := d2; refine M.wpList_more (e := 3) (m := 1) Try.underlying22 ri3 rfl (by omega) (by omega) _ rfl _ _ rfl row2.out hl.out (Nat.le_trans HBW.out HB2.out) [.int .i64 0] rfl (by simp [Value.oneCell']) 1 rfl (by rw [World.size_setCell]; rfl) ?_; intro gh cap2 w4 r4 t4 hg4; have a0 := (t4.cell (p := ⟨b, 2, none⟩) lb2.out nb2.out).trans d2; have a1 : w4.frozen? ⟨b, 2, none⟩ = false := (World.frozen?_of_block (t4.block b lb2.out nb2.out)).trans d2f; clear d2 d2f) | (refine M.wpList_more (e := 3) (m := 1) Try.underlying22 ri3 rfl (by omega) (by omega) W rfl _ _ rfl row.out hl.out HBW.out [.int .i64 0] rfl (by simp [Value.oneCell']) _ rfl rfl ?_; intro gg cap' w3 r3 t3 hg3; have a0 := (t3.cell (p := ⟨b, 1, none⟩) lb nb.1).trans c1; have a1 : w3.frozen? ⟨b, 1, none⟩ = false := (World.frozen?_of_block (t3.block b lb nb.1)).trans f1; have K2 : Hid (Da w.heap.size b f (List.replicate (k + 1) 0) (List.replicate k 0) 0 (some ⟨gg, 0, none⟩) oo cap' oc (w3.setCell ⟨b, 1, none⟩ (.slice (some ⟨gg, 0, none⟩) (k + 1) cap')) ∧ Below w.heap.size W (w3.setCell ⟨b, 1, none⟩ (.slice (some ⟨gg, 0, none⟩) (k + 1) cap'))) := (by have := H.out.1.growW (v := 0) HBW.out (by rw [HLR.out]; exact r3) t3 hg3; rw [HLR.out, rep_more] at this; exact hide' this); have d2 := K2.out.1.c2; have d2f := K2.out.1.f 2; rw [HLR.out] at d2; have row2 := hide' K2.out.1.ro; rw [HLR.out] at row2; have nb2 := hide' K2.out.1.nb.2; have lb2 := hide' (lt_of_heap K2.out.1.hb); have HB2 := hide' K2.out.2.size; clear r3 t3 hg3))
      have K3 : Hid (Da w.heap.size b f (List.replicate (k + 1) 0) (List.replicate (k + 1) 0) 0 (some ⟨gg, 0, none⟩) (some ⟨gh, 0, none⟩) cap' cap2 (w4.setCell ⟨b, 2, none⟩ (.slice (some ⟨gh, 0, none⟩) (k + 1) cap2)) ∧ Below w.heap.size w (w4.setCell ⟨b, 2, none⟩ (.slice (some ⟨gh, 0, none⟩) (k + 1) cap2))) := hide' (by
        have := K2.out.1.growO (v := 0) (Nat.le_trans HBW.out HB2.out) (by rw [HLR.out]; exact r4) t4 hg4
        rw [HLR.out, rep_more] at this
        exact ⟨this.1, (H.out.2.1.trans K2.out.2).trans this.2⟩)
      exact ⟨⟨k + 1, _, _, _, _, _, rfl, by rw [e2]; rfl, H.out.2.2, K3.out.1, K3.out.2⟩, Hend.out⟩
    · obtain rfl : k = n := by omega
      have H := hide' (And.intro hd hbw)
      clear hd hbw hk hlt
      go_wp2
      go_ret2
      obtain ⟨hd, hbw⟩ := H.out
      obtain ⟨h1, h2, h3, h4⟩ := HN.out
      have lr : (List.replicate k (0 : Int)).length = k := List.length_replicate
      have hz : ∀ i, og (List.replicate k (0 : Int)) i = 0 := fun i => by
        unfold og
        simp [List.getD, List.getElem?_replicate]
        split <;> rfl
      have hb := Hb.out
      have hd' : Da B b f (List.replicate k 0) (List.replicate k 0) 0 wo oo wc oc W := ⟨hd.hb, World.ownsRow.mono hd.rw_ h4, World.ownsRow.mono hd.ro h4, hd.ne, by omega⟩
      refine ⟨by rw [← hb]; rfl, hbw, Own b wo oo, ⟨List.replicate k 0, wo, oo, wc, oc, by rw [← hb]; exact hd', Seg.start h2 h3 lr hz, h2, by rw [lr]; exact h3, rfl, by rw [lr]; exact h1, fun i => by rw [hz]; exact Int.le_refl _, fun j => by rw [← hb]⟩, fun j q => (hd.lt q).1⟩
end Ra
end Go.Proofs.Ytfeehnfpfheojaa
set_option linter.unusedVariables false
set_option linter.unusedSimpArgs false
namespace Go.Proofs.Ytfeehnfpfheojaa
open Go.RowKit Go.Sort
namespace Ra
open Fr Ar
variable {B b : Nat} {s : Int} {ws of : List Int} {cnt : Nat} {wo oo : Option Addr} {wc oc : Nat} {w w' : World}
variable {D : Nat → Prop} {L : List Bk}
/-- the addresses that are out -/
def oA (L : List Bk) : List Int := (outs L).map (·.1)
/-- which piece is given back -/
def bkA (L : List Bk) (n : Int) : Int := if (oA L).length = 0 then n else (oA L).getD (n % ((oA L).length : Int)).toNat 0
theorem oA_take {k : Nat} (h : k < L.length) : oA (L.take (k + 1)) = oA (L.take k) ++ (if L[k].free then [] else [L[k].addr]) := by
  unfold oA
  rw [List.take_succ_eq_append_getElem h, outs_app, List.map_append]
  congr 1
  cases hf : L[k].free <;> simp [outs, hf]
theorem oA_len (L : List Bk) : (oA L).length ≤ L.length := by unfold oA; rw [List.length_map]; exact outs_le L
set_option maxRecDepth 100000 in
set_option maxHeartbeats 4000000 in
theorem back_any (n : Int) (h : Dl D B b s L ws cnt w) : Calls Try.prog 43 #[.pointer (some ⟨b, 0, none⟩), .int .i64 n] w fun r w' => r = .returned (.int .i64 (bkA L n)) ∧ Below w.heap.size w w' := by
  have hb := h.few
  have HB := hide' (dl_blocks h)
  have HL := hide' hb.1
  obtain ⟨N, hN⟩ : ∃ N, N = L.length := ⟨_, rfl⟩
  have HN := hide' hN
  rw [← hN] at HB
  clear h hb hN
  go_enter Try.func43, Try.ntmps43
  go_wp2_with fail
  refine HB.out.mono ?_
  rintro e w1 ⟨g, rc, rfl, k1, k2⟩
  have H1 := hide' (And.intro k1 k2)
  clear k1 k2 HB
  go_wp2_with fail
  go_loopw [6, 7] (fun l y wx => ∃ (k : Nat) (ro : Option Addr) (rc2 : Nat) (V : World), V = wx ∧ y = .int .i64 (k : Int) ∧ l = .slice ro (oA (L.take k)).length rc2 ∧ k ≤ N ∧ V.ownsRow w1.heap.size 3 1 (.slice ro (oA (L.take k)).length rc2) (oA (L.take k)).length (M.ivs (oA (L.take k))) ∧ Below w1.heap.size w1 V) (fun _ y _ => N - (intOf y).toNat)
  case atStart => exact ⟨0, none, 0, _, rfl, rfl, rfl, Nat.zero_le _, World.ownsRow_nil _ _ _ _, Below.refl _ _⟩
  case round =>
    obtain ⟨k, ro, rc2, V, rfl, rfl, rfl, hk, hr, hbw⟩ := hrel
    have hRow : RowB w.heap.size (some ⟨g, 0, none⟩) rc L V := H1.out.1.kept (turn_below (S := fun _ => False) hbw) (fun _ _ q => q)
    by_cases hlt : k < N
    · have hltI : (k : Int) < (N : Int) := by omega
      have e2 : wrap64 ((k : Int) + 1) = (k : Int) + 1 := by have := HL.out; have := HN.out; unfold wrap64; omega
      have Hend := hide' (msr2 hlt _ e2)
      have hkL : k < L.length := by rw [← HN.out]; exact hlt
      obtain ⟨g', eg, z0, z1, z2, z3⟩ := hRow.item (List.getElem?_eq_getElem hkL)
      cases eg
      have hot := oA_take hkL
      have hlen := oA_len (L.take k)
      obtain ⟨f, hff⟩ : ∃ f, f = L[k].free := ⟨_, rfl⟩
      obtain ⟨a, ha⟩ : ∃ f, f = L[k].addr := ⟨_, rfl⟩
      rw [← hff] at z3 hot
      rw [← ha] at z1 hot
      obtain ⟨zs, hzs⟩ : ∃ zs, zs = oA (L.take k) := ⟨_, rfl⟩
      rw [← hzs] at hr hot hlen ⊢
      have hl3 : Hid (zs.length < 3000000000000) := hide' (by have := List.length_take_le k L; have := HL.out; omega)
      have K := hide' (And.intro hr (And.intro hbw (And.intro hlt hot)))
      have HBW := hide' hbw.size
      clear hk hlt z0 z2 hkL hff ha hzs hlen hr hbw hot hRow
      cases f with
      | true =>
        go_wp2
        refine ⟨⟨k + 1, ro, rc2, _, rfl, by rw [e2]; rfl, ?_, K.out.2.2.1, ?_, K.out.2.1⟩, Hend.out⟩
        · rw [K.out.2.2.2]; simp
        · rw [K.out.2.2.2]; simpa using K.out.1
      | false =>
        go_wp2_with (at_builtin; refine M.wpList_more (e := 3) (m := 1) Try.underlying22 ri3 rfl (by omega) (by omega) V rfl _ _ rfl K.out.1 hl3.out HBW.out [.int .i64 a] rfl (by simp [Value.oneCell']) _ rfl rfl ?_; intro gg cap' w3 r3 t3 hg3; have K2 := hide' (And.intro r3 (K.out.2.1.trans (t3.below (fun j q => (row_kd K.out.1 q).2.1) HBW.out))); clear r3 t3 hg3)
        refine ⟨⟨k + 1, some ⟨gg, 0, none⟩, cap', w3, rfl, by rw [e2]; rfl, ?_, K.out.2.2.1, ?_, K2.out.2⟩, Hend.out⟩
        · rw [K.out.2.2.2, List.length_append]; rfl
        · rw [K.out.2.2.2, List.length_append]
          have := K2.out.1
          simpa [M.ivs] using this
    · obtain rfl : k = N := by omega
      have hfull : L.take k = L := by rw [HN.out]; exact List.take_length
      rw [hfull] at hr ⊢
      have hlen := oA_len L
      have hll := HL.out
      have K : Hid (Below w.heap.size w V) := hide' (H1.out.2.trans (hbw.mono H1.out.2.size))
      have HBK : Hid (bkA L n = if (oA L).length = 0 then n else (oA L).getD (n % ((oA L).length : Int)).toNat 0) := hide' rfl
      obtain ⟨zs, hzs⟩ : ∃ zs, zs = oA L := ⟨_, rfl⟩
      rw [← hzs] at hr HBK hlen ⊢
      by_cases h0 : zs.length = 0
      · rw [h0]
        clear hk hlt hr hbw hRow hfull hlen hll hzs
        go_wp2
        go_ret
        exact ⟨by rw [HBK.out, if_pos h0]; rfl, K.out⟩
      · have HA := hide' (Bk.at_any n (zs.length : Int) V (by omega) (by omega))
        obtain ⟨q1, q2⟩ : 0 ≤ n % (zs.length : Int) ∧ n % (zs.length : Int) < (zs.length : Int) := ⟨Int.emod_nonneg _ (by omega), Int.emod_lt_of_pos _ (by omega)⟩
        obtain ⟨I, hI⟩ : ∃ I : Nat, (I : Int) = n % (zs.length : Int) := ⟨(n % (zs.length : Int)).toNat, by omega⟩
        rw [← hI] at HA q1 q2 HBK
        have HBK2 : Hid (bkA L n = zs.getD I 0) := hide' (by rw [HBK.out, if_neg h0]; rfl)
        obtain ⟨g2, e3, r1, _⟩ := row_at hr (i := I) (by omega)
        subst e3
        replace r1 : V.cell? ⟨g2, I, none⟩ = some (.int .i64 (zs.getD I 0)) := r1
        have n0 : ((zs.length : Int) == 0) = false := beq_false_of_ne (by omega)
        generalize zs.getD I 0 = y at *
        generalize zs.length = m at *
        clear hk hlt hr hbw hRow hfull hlen hll hzs h0 hI HBK q1
        go_wp2_with fail
        refine HA.out.mono ?_
        rintro e w3 ⟨rfl, rfl⟩
        go_wp2
        go_ret
        exact ⟨by rw [HBK2.out]; rfl, K.out⟩
end Ra
end Go.Proofs.Ytfeehnfpfheojaa
set_option linter.unusedVariables false
set_option linter.unusedSimpArgs false
namespace Go.Proofs.Ytfeehnfpfheojaa
open Go.RowKit Go.Sort
namespace Ar
open Fr
/-- a call, as it lies -/
structure Op4 where
  kind : Int
  arena : Int
  n : Int
  value : Int
def Op4.arr (o : Op4) : Array Value := #[.int .i64 o.kind, .int .i64 o.arena, .int .i64 o.n, .int .i64 o.value]
def Op4.ok (o : Op4) : Prop := -9223372036854775808 ≤ o.n ∧ o.n ≤ 9223372036854775807
/-- a slice of calls that came in -/
def Ops (w : World) (a : Option Addr) (os : List Op4) : Prop := os = [] ∨ ∃ b off, a = some ⟨b, off, none⟩ ∧ b < w.heap.size ∧ ∀ j o, os[j]? = some o → ∀ r, r < 4 → w.cell? ⟨b, off + j * 4 + r, none⟩ = o.arr[r]?
variable {D : Nat → Prop} {B ab x : Nat} {ws : List Int} {tr : List M.Ac} {bad : Nat} {s : Int} {L : List Bk} {cb : Nat} {w w' : World}
/-- what a round holds beside the arena: the call's box, the pieces and the words as they were -/
structure Xr (n0 b : Nat) (o : Op4) (g rc : Nat) (L : List Bk) (ro : Option Addr) (rc' : Nat) (ws : List Int) (w : World) : Prop where
  hb : w.heap[b]? = some (.cells o.arr 80 (0, 0))
  lb : n0 ≤ b
  row : RowB n0 (some ⟨g, 0, none⟩) rc L w
  was : w.ownsRow n0 3 1 (.slice ro ws.length rc') ws.length (M.ivs ws)
theorem Xr.kept {n0 b : Nat} {o : Op4} {g rc : Nat} {ro : Option Addr} {rc' : Nat} {S : Nat → Prop} (X : Xr n0 b o g rc L ro rc' ws w) (t : Turn S w w') (hS : ∀ j, S j → j < n0) : Xr n0 b o g rc L ro rc' ws w' :=
  ⟨(t.block b (lt_of_heap X.hb) (fun q => by have := hS b q; have := X.lb; omega)).trans X.hb, X.lb, X.row.kept t (fun j hj q => by have := (X.row.lt hj).1; have := hS j q; omega), t.row X.was (fun j hj q => by have := (X.was.lt j hj).1; have := hS j q; omega)⟩
theorem Xr.below {n0 b : Nat} {o : Op4} {g rc : Nat} {ro : Option Addr} {rc' : Nat} (X : Xr n0 b o g rc L ro rc' ws w) (t : Below w.heap.size w w') : Xr n0 b o g rc L ro rc' ws w' := X.kept (turn_below (S := fun _ => False) t) (fun _ q => q.elim)
theorem op_cells {b : Nat} {o : Op4} (h : w.heap[b]? = some (.cells o.arr 80 (0, 0))) : w.cell? ⟨b, 0, none⟩ = some (.int .i64 o.kind) ∧ w.cell? ⟨b, 2, none⟩ = some (.int .i64 o.n) := ⟨by rw [Lib.cell_of_heap h]; rfl, by rw [Lib.cell_of_heap h]; rfl⟩
theorem RowB.mono {B' : Nat} {so : Option Addr} {sc : Nat} (h : RowB B so sc L w) (hb : B' ≤ B) : RowB B' so sc L w := World.ownsRow.mono h hb
theorem Atl.lts (H : Atl D B ab x ws tr bad s L cb w) : ∀ j, D j → j < w.heap.size := fun j q => (H.lo q).2
theorem fit_bd {e : Int} (h : Cov s L e) (h0 : 0 ≤ s) (n : Int) : -1 ≤ fit L n ∧ fit L n ≤ e := by
  unfold fit
  cases hf : L.find? (pf n) with
  | none => have := cov_le h; simp only; omega
  | some b =>
    have := cov_mem h b (List.mem_of_find?_eq_some hf)
    simp only
    omega
/-- the place, counted round -/
theorem at_lt {i n : Int} (h : 0 < n) : 0 ≤ i % n ∧ i % n < n := ⟨Int.emod_nonneg _ (by omega), Int.emod_lt_of_pos _ h⟩
end Ar
end Go.Proofs.Ytfeehnfpfheojaa
set_option linter.unusedVariables false
set_option linter.unusedSimpArgs false
namespace Go.Proofs.Ytfeehnfpfheojaa
open Go.RowKit Go.Sort
namespace Ep
open Fr Ar Ra
/-- A PAIR: the program's arena with its memory, and the document's, in the struct at nb -/
structure Pp (B nb x ab rb : Nat) (s : Int) (L : List Bk) (ws : List Int) (tr : List M.Ac) (D E : Nat → Prop) (cb cnt : Nat) (w : World) : Prop where
  hn : w.heap[nb]? = some (.cells #[.pointer (some ⟨x, 0, none⟩), .pointer (some ⟨ab, 0, none⟩), .pointer (some ⟨rb, 0, none⟩), .int .i64 (tr.length : Nat)] 78 (0, 0))
  a : Atl D B ab x ws tr 0 s L cb w
  d : Dl E B rb s L ws cnt w
  de : ∀ j, D j → ¬ E j
  dn : ¬ D nb
  en : ¬ E nb
  lo : B ≤ nb
def Qs (nb : Nat) (D E : Nat → Prop) (j : Nat) : Prop := j = nb ∨ D j ∨ E j
variable {B nb x ab rb : Nat} {s : Int} {L : List Bk} {ws : List Int} {tr : List M.Ac} {D E : Nat → Prop} {cb cnt : Nat} {w w' : World}
theorem Pp.lt (h : Pp B nb x ab rb s L ws tr D E cb cnt w) {j : Nat} (hj : Qs nb D E j) : B ≤ j ∧ j < w.heap.size := by
  rcases hj with rfl | hj | hj
  · exact ⟨h.lo, lt_of_heap h.hn⟩
  · exact h.a.lo hj
  · exact h.d.lo hj
theorem Pp.kept {S : Nat → Prop} (h : Pp B nb x ab rb s L ws tr D E cb cnt w) (t : Turn S w w') (hn : ∀ j, Qs nb D E j → ¬ S j) : Pp B nb x ab rb s L ws tr D E cb cnt w' :=
  ⟨(t.block nb (lt_of_heap h.hn) (hn nb (.inl rfl))).trans h.hn, h.a.kept t (fun j q => hn j (.inr (.inl q))), h.d.kept t (fun j q => hn j (.inr (.inr q))), h.de, h.dn, h.en, h.lo⟩
theorem Pp.below (h : Pp B nb x ab rb s L ws tr D E cb cnt w) (t : Below w.heap.size w w') : Pp B nb x ab rb s L ws tr D E cb cnt w' := h.kept (turn_below (S := fun _ => False) t) (fun _ _ q => q)
theorem Pp.c0 (h : Pp B nb x ab rb s L ws tr D E cb cnt w) : w.cell? ⟨nb, 0, none⟩ = some (.pointer (some ⟨x, 0, none⟩)) := by rw [Lib.cell_of_heap h.hn]; rfl
theorem Pp.c1 (h : Pp B nb x ab rb s L ws tr D E cb cnt w) : w.cell? ⟨nb, 1, none⟩ = some (.pointer (some ⟨ab, 0, none⟩)) := by rw [Lib.cell_of_heap h.hn]; rfl
theorem Pp.c2 (h : Pp B nb x ab rb s L ws tr D E cb cnt w) : w.cell? ⟨nb, 2, none⟩ = some (.pointer (some ⟨rb, 0, none⟩)) := by rw [Lib.cell_of_heap h.hn]; rfl
theorem Pp.c3 (h : Pp B nb x ab rb s L ws tr D E cb cnt w) : w.cell? ⟨nb, 3, none⟩ = some (.int .i64 (tr.length : Nat)) := by rw [Lib.cell_of_heap h.hn]; rfl
/-- a pair after at most K calls, and its blocks -/
def Ps (K B nb : Nat) (Q : Nat → Prop) (w : World) : Prop := ∃ x ab rb s L ws tr D E cb cnt, Pp B nb x ab rb s L ws tr D E cb cnt w ∧ cb ≤ 1 + K * 65537 ∧ cnt ≤ K ∧ tr.length ≤ K ∧ ∀ j, Q j ↔ Qs nb D E j
/-- what a call leaves -/
def PT (K B nb : Nat) (Q : Nat → Prop) (w w' : World) : Prop := ∃ Q', Ps K B nb Q' w' ∧ Turn Q w w' ∧ ∀ j, Q' j → Q j ∨ w.heap.size ≤ j
theorem cb_more {cb K : Nat} (h : cb ≤ 1 + K * 65537) : cb ≤ 1 + (K + 1) * 65537 := Nat.le_trans h (Nat.add_le_add_left (Nat.mul_le_mul_right 65537 (Nat.le_succ K)) 1)
theorem Pp.idle {K : Nat} {Q : Nat → Prop} (h : Pp B nb x ab rb s L ws tr D E cb cnt w) (h1 : cb ≤ 1 + K * 65537) (h2 : cnt ≤ K) (h3 : tr.length ≤ K) (hq : ∀ j, Q j ↔ Qs nb D E j) (b : Below w.heap.size w w') : PT (K + 1) B nb Q w w' :=
  ⟨Q, ⟨x, ab, rb, s, L, ws, tr, D, E, cb, cnt, h.below b, cb_more h1, Nat.le_succ_of_le h2, Nat.le_succ_of_le h3, hq⟩, turn_below b, fun j q => .inl q⟩
/-- the program's side has turned -/
theorem Pp.turnA {L' : List Bk} {ws' : List Int} {cb' : Nat} (h : Pp B nb x ab rb s L ws tr D E cb cnt w) (t : LTo D B ab x ws' tr 0 s L' cb' w w') : ∃ D', Atl D' B ab x ws' tr 0 s L' cb' w' ∧ Dl E B rb s L ws cnt w' ∧ w'.heap[nb]? = some (.cells #[.pointer (some ⟨x, 0, none⟩), .pointer (some ⟨ab, 0, none⟩), .pointer (some ⟨rb, 0, none⟩), .int .i64 (tr.length : Nat)] 78 (0, 0)) ∧ (∀ j, D' j → ¬ E j) ∧ ¬ D' nb ∧ Turn D w w' ∧ ∀ j, D' j → D j ∨ w.heap.size ≤ j := by
  obtain ⟨D', h1, h2, h3⟩ := t
  refine ⟨D', h1, h.d.kept h2 (fun j q z => h.de j z q), (h2.block nb (lt_of_heap h.hn) h.dn).trans h.hn, fun j q z => ?_, fun q => ?_, h2, h3⟩
  · rcases h3 j q with y | y
    · exact h.de j y z
    · have := (h.d.lo z).2; omega
  · rcases h3 nb q with y | y
    · exact h.dn y
    · have := lt_of_heap h.hn; omega
/-- amid a call: the program's side is done -/
structure Am (B nb x ab rb : Nat) (s : Int) (L L' : List Bk) (ws ws' : List Int) (tr : List M.Ac) (D D' E : Nat → Prop) (cb cnt : Nat) (w0 w : World) : Prop where
  hn : w.heap[nb]? = some (.cells #[.pointer (some ⟨x, 0, none⟩), .pointer (some ⟨ab, 0, none⟩), .pointer (some ⟨rb, 0, none⟩), .int .i64 (tr.length : Nat)] 78 (0, 0))
  a : Atl D' B ab x ws' tr 0 s L' cb w
  d : Dl E B rb s L ws cnt w
  de : ∀ j, D' j → ¬ E j
  dn : ¬ D' nb
  en : ¬ E nb
  lo : B ≤ nb
  t : Turn D w0 w
  nw : ∀ j, D' j → D j ∨ w0.heap.size ≤ j
theorem Am.fin {L' : List Bk} {ws' : List Int} {D' : Nat → Prop} {w0 : World} {cnt' : Nat} (h : Am B nb x ab rb s L L' ws ws' tr D D' E cb cnt w0 w) (e : Dl E B rb s L' ws' cnt' w') (t : Turn E w w') : Pp B nb x ab rb s L' ws' tr D' E cb cnt' w' ∧ Turn (Qs nb D E) w0 w' ∧ ∀ j, Qs nb D' E j → Qs nb D E j ∨ w0.heap.size ≤ j := by
  refine ⟨⟨(t.block nb (lt_of_heap h.hn) h.en).trans h.hn, h.a.kept t h.de, e, h.de, h.dn, h.en, h.lo⟩, (h.t.mono (fun j _ q => .inr (.inl q))).trans (t.mono (fun j _ q => .inr (.inr q))), fun j q => ?_⟩
  rcases q with q | q | q
  · exact .inl (.inl q)
  · exact (h.nw j q).imp (fun z => .inr (.inl z)) id
  · exact .inl (.inr (.inr q))
/-- amid a call: the document's side is done -/
structure An (B nb x ab rb : Nat) (s : Int) (L L' : List Bk) (ws ws' : List Int) (tr : List M.Ac) (D E : Nat → Prop) (cb cnt : Nat) (w0 w : World) : Prop where
  hn : w.heap[nb]? = some (.cells #[.pointer (some ⟨x, 0, none⟩), .pointer (some ⟨ab, 0, none⟩), .pointer (some ⟨rb, 0, none⟩), .int .i64 (tr.length : Nat)] 78 (0, 0))
  a : Atl D B ab x ws tr 0 s L cb w
  d : Dl E B rb s L' ws' cnt w
  de : ∀ j, D j → ¬ E j
  dn : ¬ D nb
  en : ¬ E nb
  lo : B ≤ nb
  t : Turn E w0 w
theorem An.fin {L' : List Bk} {ws' : List Int} {w0 : World} {cb' : Nat} (h : An B nb x ab rb s L L' ws ws' tr D E cb cnt w0 w) (e : LTo D B ab x ws' tr 0 s L' cb' w w') : ∃ D', Pp B nb x ab rb s L' ws' tr D' E cb' cnt w' ∧ Turn (Qs nb D E) w0 w' ∧ ∀ j, Qs nb D' E j → Qs nb D E j ∨ w0.heap.size ≤ j := by
  obtain ⟨D', h1, h2, h3⟩ := e
  have hz := h.t.size
  refine ⟨D', ⟨(h2.block nb (lt_of_heap h.hn) h.dn).trans h.hn, h1, h.d.kept h2 (fun j q z => h.de j z q), fun j q z => ?_, fun q => ?_, h.en, h.lo⟩, (h.t.mono (fun j _ q => .inr (.inr q))).trans (h2.mono (fun j _ q => .inr (.inl q))), fun j q => ?_⟩
  · rcases h3 j q with y | y
    · exact h.de j y z
    · have := (h.d.lo z).2; omega
  · rcases h3 nb q with y | y
    · exact h.dn y
    · have := lt_of_heap h.hn; omega
  · rcases q with q | q | q
    · exact .inl (.inl q)
    · rcases h3 j q with y | y
      · exact .inl (.inr (.inl y))
      · exact .inr (Nat.le_trans hz y)
    · exact .inl (.inr (.inr q))
/-- the call's own box -/
def BO (k p n v : Int) : Obj := .cells #[.int .i64 k, .int .i64 p, .int .i64 n, .int .i64 v] 80
theorem at_box (k p n v : Int) (h : Pp B nb x ab rb s L ws tr D E cb cnt w) : ∃ w1 y, Hid (w1 = w.alloc (.cells #[.int .i64 k, .int .i64 p, .int .i64 n, .int .i64 v] 80)) ∧ Hid (y = w.heap.size) ∧ Below w.heap.size w w1 ∧ w1.heap[y]? = some (.cells #[.int .i64 k, .int .i64 p, .int .i64 n, .int .i64 v] 80 (0, 0)) ∧ Pp B nb x ab rb s L ws tr D E cb cnt w1 ∧ w1.cell? ⟨y, 0, none⟩ = some (.int .i64 k) ∧ w1.cell? ⟨y, 2, none⟩ = some (.int .i64 n) ∧ w1.cell? ⟨y, 3, none⟩ = some (.int .i64 v) ∧ ¬ Qs nb D E y := by
  have x1 : (w.alloc (.cells #[.int .i64 k, .int .i64 p, .int .i64 n, .int .i64 v] 80)).heap[w.heap.size]? = some (.cells #[.int .i64 k, .int .i64 p, .int .i64 n, .int .i64 v] 80 (0, 0)) := heap_alloc_new _ _
  have b1 : Below w.heap.size w (w.alloc (.cells #[.int .i64 k, .int .i64 p, .int .i64 n, .int .i64 v] 80)) := (Below.refl _ _).alloc (Nat.le_refl _) _
  refine ⟨_, _, hide' rfl, hide' rfl, b1, x1, h.below b1, (Lib.cell_of_heap x1 0).trans rfl, (Lib.cell_of_heap x1 2).trans rfl, (Lib.cell_of_heap x1 3).trans rfl, fun q => ?_⟩
  have := (h.lt q).2
  omega
set_option maxRecDepth 100000 in
set_option maxHeartbeats 4000000 in
theorem one0 (k p n v : Int) (h1 : ¬ k = 1) (h2 : ¬ k = 2) (h3 : ¬ k = 3) (h4 : ¬ k = 4) (h5 : ¬ k = 5) (h6 : ¬ k = 6) (h : Pp B nb x ab rb s L ws tr D E cb cnt w) :
    Calls Try.prog 33 #[.pointer (some ⟨nb, 0, none⟩), .agg #[.int .i64 k, .int .i64 p, .int .i64 n, .int .i64 v]] w fun e w' => e = .returned (.bool true) ∧ Below w.heap.size w w' := by
  obtain ⟨w1, y, Hw1, Hy, b1, x1, q1, o0, o2, o3, ny⟩ := at_box k p n v h
  have KB := hide' b1
  have g1 : (k == 1) = false := beq_false_of_ne h1
  have g2 : (k == 2) = false := beq_false_of_ne h2
  have g3 : (k == 3) = false := beq_false_of_ne h3
  have g4 : (k == 4) = false := beq_false_of_ne h4
  have g5 : (k == 5) = false := beq_false_of_ne h5
  have g6 : (k == 6) = false := beq_false_of_ne h6
  clear h b1 x1 q1 ny h1 h2 h3 h4 h5 h6
  go_enter Try.func33, Try.ntmps33
  go_upto_region 1 with fail
  rw [← Hw1.out, ← Hy.out]
  clear Hw1 Hy
  go_wp2
  go_ret
  exact ⟨rfl, KB.out⟩
set_option maxRecDepth 100000 in
set_option maxHeartbeats 8000000 in
theorem one1 {K : Nat} {Q : Nat → Prop} (p n v : Int) (h : Pp B nb x ab rb s L ws tr D E cb cnt w) (k1 : cb ≤ 1 + K * 65537) (k2 : cnt ≤ K) (k3 : tr.length ≤ K) (hq : ∀ j, Q j ↔ Qs nb D E j) (hK : K < 2000000) (hn : n ≤ 9223372036854775807) :
    Calls Try.prog 33 #[.pointer (some ⟨nb, 0, none⟩), .agg #[.int .i64 1, .int .i64 p, .int .i64 n, .int .i64 v]] w fun e w' => e = .returned (.bool true) ∧ PT (K + 1) B nb Q w w' := by
  obtain ⟨w1, y, Hw1, Hy, b1, x1, q1, o0, o2, o3, ny⟩ := at_box 1 p n v h
  have b1d : Below w.heap.size w w1.drew := b1.drew
  have q1d := h.below b1d
  have lty := lt_of_heap x1
  have HA : Hid (Calls Try.prog 46 #[.pointer (some ⟨ab, 0, none⟩), .int .i64 n] w1.drew fun e w2 => e = .returned (.tuple #[.int .i64 (tA L n), .int .i64 (tE L n)]) ∧ w2.cell? ⟨nb, 2, none⟩ = some (.pointer (some ⟨rb, 0, none⟩)) ∧ w2.cell? ⟨y, 2, none⟩ = some (.int .i64 n) ∧
      Hid (Calls Try.prog 47 #[.pointer (some ⟨rb, 0, none⟩), .int .i64 n] w2.drew fun e w3 => e = .returned (.tuple #[.int .i64 (tA L n), .int .i64 (tE L n)]) ∧ Hid (PT (K + 1) B nb Q w w3))) := hide' ((at_take n q1d.a (by omega) hn).mono (by
    rintro e w2 ⟨rfl, t⟩
    obtain ⟨D', z1, z2, z3, z4, z5, z6, z7⟩ := q1d.turnA t
    have am : Am B nb x ab rb s L (tL L n) ws (tW ws L n) tr D D' E (cb + 65537) cnt w1.drew w2 := ⟨z3, z1, z2, z4, z5, h.en, h.lo, z6, z7⟩
    refine ⟨rfl, (Lib.cell_of_heap z3 2).trans rfl, (z6.cell (p := ⟨y, 2, none⟩) lty (fun q => ny (.inr (.inl q)))).trans o2, hide' ?_⟩
    have bd : Below w2.heap.size w2 w2.drew := (Below.refl _ _).drew
    refine (dl_take n (z2.below bd) (by omega)).mono ?_
    rintro e w3 ⟨rfl, ⟨c, hc, f⟩, t3⟩
    have amd : Am B nb x ab rb s L (tL L n) ws (tW ws L n) tr D D' E (cb + 65537) cnt w1.drew w2.drew := ⟨z3, z1.below bd, z2.below bd, z4, z5, h.en, h.lo, z6.drew, z7⟩
    obtain ⟨f1, f2, f3⟩ := amd.fin f t3
    refine ⟨rfl, hide' ⟨Qs nb D' E, ⟨x, ab, rb, s, _, _, tr, D', E, _, c, f1, by omega, by omega, by omega, fun j => Iff.rfl⟩, ((turn_below b1d).trans f2).mono (fun j _ q => (hq j).2 q), fun j q => ?_⟩⟩
    exact (f3 j q).imp (hq j).2 (Nat.le_trans b1d.size)))
  have c1 := q1.c1
  have c1' : w1.drew.cell? ⟨nb, 1, none⟩ = some (.pointer (some ⟨ab, 0, none⟩)) := c1
  have o2' : w1.drew.cell? ⟨y, 2, none⟩ = some (.int .i64 n) := o2
  clear h k1 k2 k3 hq hK hn b1 x1 q1 ny b1d q1d lty
  generalize tA L n = ra at *
  generalize tE L n = re at *
  go_enter Try.func33, Try.ntmps33
  go_upto_region 1 with fail
  rw [← Hw1.out, ← Hy.out]
  clear Hw1 Hy
  go_wp2_with fail
  go_region_with (refine HA.out.mono ?_; rintro e w2 ⟨rfl, d1, d2, HB⟩)
  all_goals
    clear HA c1 c1' o0 o2 o3 o2'
    have d1' : w2.drew.cell? ⟨nb, 2, none⟩ = some (.pointer (some ⟨rb, 0, none⟩)) := d1
    have d2' : w2.drew.cell? ⟨y, 2, none⟩ = some (.int .i64 n) := d2
    go_wp2_with fail
    go_region_with (refine HB.out.mono ?_; rintro e w3 ⟨rfl, KQ⟩)
    all_goals
      clear HB d1 d2 d1' d2'
      go_wp2
      go_ret
      exact ⟨by first | rfl | simp, KQ.out⟩
end Ep
end Go.Proofs.Ytfeehnfpfheojaa
