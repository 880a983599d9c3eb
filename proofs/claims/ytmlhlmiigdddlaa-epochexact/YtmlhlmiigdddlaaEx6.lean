import Derived.Test.YtmlhlmiigdddlaaEx5
import Derived.Deep.CutBlock
import Derived.Deep.DeepCutAuto
set_option linter.unusedVariables false
set_option linter.unusedSimpArgs false
namespace Go.Proofs.Ytmlhlmiigdddlaa
open Go.RowKit
namespace V
open M F
variable {w0 w w' : World} {Ln s x y N : Nat} {D R U : Nat → Prop} {ws ws' : List Int} {tr tr' : List Ac} {bad bad' : Nat} {S : List Sp} {X : List Xp} {G : List Gp} {r : Ro}
theorem Pr.notk {B mm j : Nat} {cs : Array Value} {T : TypeId} (h : Pr U B x y ws mm tr bad w) (hw : w.heap[j]? = some (.cells cs T (0, 0))) (hT : (T ≠ 82 ∧ T ≠ 3 ∧ T ≠ 75) ∧ (T ≠ 85 ∧ T ≠ 99 ∧ T ≠ 75)) : ¬ U j := by
  obtain ⟨D, R, h1, h2, h3, h4⟩ := h
  intro hj
  rcases (h4 j).1 hj with q | q
  · exact h1.not hw hT.1 q
  · exact h2.not hw hT.2 q
theorem kem : ∀ i : Fin 6, (KE i ≠ 82 ∧ KE i ≠ 3 ∧ KE i ≠ 75) ∧ (KE i ≠ 85 ∧ KE i ≠ 99 ∧ KE i ≠ 75) := by decide
/-- a thing more in a family and in its row -/
theorem grow1 {rs : Fin 6 → List Nat} {fm : Fin 6 → List Ob} {ok : Bool} {mm : Nat} (φ : Fin 6) {b gg cap' : Nat} {cs : Array Value} {V w5 : World} (bel : Below w0.heap.size w0 V) (hP : Pr U w0.heap.size x y ws mm tr bad V) (hW : Ws w0.heap.size s x y r rs fm ok V) (hb : V.heap[b]? = some (.cells cs (KT φ) (0, 0))) (hB : w0.heap.size ≤ b) (hn : ∀ (i : Nat) (p : Ob), (fm φ)[i]? = some p → p.1 ≠ b)
    (hr : w5.ownsRow w0.heap.size (KE φ) 1 (.slice (some ⟨gg, 0, none⟩) (r.L φ + 1) cap') (r.L φ + 1) ((rs φ).map ptr ++ [ptr b])) (t : Turn (At (r.ao φ)) V w5) :
    Below w0.heap.size w0 (w5.setCell ⟨s, 2 + φ.1, none⟩ (.slice (some ⟨gg, 0, none⟩) (r.L φ + 1) cap')) ∧ Pr U w0.heap.size x y ws mm tr bad (w5.setCell ⟨s, 2 + φ.1, none⟩ (.slice (some ⟨gg, 0, none⟩) (r.L φ + 1) cap')) ∧ Ws w0.heap.size s x y (r.more φ gg cap') (upd rs φ (rs φ ++ [b])) (upd fm φ (fm φ ++ [(b, cs)])) ok (w5.setCell ⟨s, 2 + φ.1, none⟩ (.slice (some ⟨gg, 0, none⟩) (r.L φ + 1) cap')) ∧ (∀ (j : Nat) (cs' : Array Value) (T : TypeId), V.heap[j]? = some (.cells cs' T (0, 0)) → T ≠ KE φ → T ≠ 44 → (w5.setCell ⟨s, 2 + φ.1, none⟩ (.slice (some ⟨gg, 0, none⟩) (r.L φ + 1) cap')).heap[j]? = some (.cells cs' T (0, 0))) := by
  have tt : Turn (fun j => At (r.ao φ) j ∨ j = s) V (w5.setCell ⟨s, 2 + φ.1, none⟩ (.slice (some ⟨gg, 0, none⟩) (r.L φ + 1) cap')) := (t.mono (fun j _ z => .inl z)).trans ((turn_b s (2 + φ.1) _ w5).mono (fun j _ z => .inr z))
  refine ⟨bel.trans (tt.below (fun j hj => ?_) bel.size), hP.kept tt (fun j hj z => ?_), (hW.new φ hb hB hn).grow φ hr t, fun j cs' T hj n1 n2 => (tt.block j (lt_of_heap hj) (fun z => ?_)).trans hj⟩
  · rcases hj with z | z
    · exact (row_atk (hW.row φ) z).1
    · rw [z]; exact hW.ls
  · rcases z with z | z
    · obtain ⟨_, _, cs', h'⟩ := row_atk (hW.row φ) z
      exact Pr.notk hP h' (kem φ) hj
    · exact Pr.nots hP (z ▸ hW.hs) hj
  · rcases z with z | z
    · obtain ⟨_, _, cs'', h'⟩ := row_atk (hW.row φ) z
      exact cells_ne hj h' n1 rfl
    · exact cells_ne hj hW.hs n2 z
theorem fresh {B : Nat} {rs : Fin 6 → List Nat} {fm : Fin 6 → List Ob} {ok : Bool} {V : World} (hW : Ws B s x y r rs fm ok V) (φ : Fin 6) {b : Nat} (hb : V.heap.size ≤ b) : ∀ (i : Nat) (p : Ob), (fm φ)[i]? = some p → p.1 ≠ b := fun i p hp e => by
  have := lt_of_heap ((hW.fam φ).at_ i p hp).1
  omega
/-- Enter is through -/
theorem ent_fin {bX bY gg cap' gg2 cap2 z i : Nat} {p : Sp} {V4 w5 w6 : World} (bel : Below w0.heap.size w0 V4) (hP : Pr U w0.heap.size x y ws N tr bad V4) (hW : Ws w0.heap.size s x y r (rsOf S X G) (fmOf x y S X G) true V4) (hX : Sc bX x p.e p.f p.n z 0 0 V4) (hY : RSc bY p.c z 0 0 V4) (hbX : w0.heap.size ≤ bX) (hbY : w0.heap.size ≤ bY) (hnX : ∀ (i : Nat) (q : Ob), (fmOf x y S X G 2)[i]? = some q → q.1 ≠ bX) (hnY : ∀ (i : Nat) (q : Ob), (fmOf x y S X G 3)[i]? = some q → q.1 ≠ bY)
    (hr5 : w5.ownsRow w0.heap.size 76 1 (.slice (some ⟨gg, 0, none⟩) (r.L 2 + 1) cap') (r.L 2 + 1) ((rsOf S X G 2).map ptr ++ [ptr bX])) (t5 : Turn (At (r.ao 2)) V4 w5)
    (hr6 : w6.ownsRow w0.heap.size 116 1 (.slice (some ⟨gg2, 0, none⟩) (r.L 3 + 1) cap2) (r.L 3 + 1) ((rsOf S X G 3).map ptr ++ [ptr bY])) (t6 : Turn (At (r.ao 3)) (w5.setCell ⟨s, 4, none⟩ (.slice (some ⟨gg, 0, none⟩) (r.L 2 + 1) cap')) w6)
    (h1 : ws.length = Ln) (h2 : tr.length ≤ N) (h3 : S.length ≤ N ∧ X.length ≤ N ∧ G.length ≤ N) (h4 : r.L 0 = S.length ∧ r.L 1 = S.length ∧ r.L 2 = X.length ∧ r.L 3 = X.length ∧ r.L 4 = G.length ∧ r.L 5 = G.length) (hRt : Rt Ln S X G N) (hp : S[i]? = some p) (hz : z < p.n) :
    Wn w0 Ln s x y (N + 1) (w6.setCell ⟨s, 5, none⟩ (.slice (some ⟨gg2, 0, none⟩) (r.L 3 + 1) cap2)) := by
  obtain ⟨bel5, P5, W5, K5⟩ := grow1 2 bel hP hW hX hbX hnX hr5 t5
  have hY5 := K5 _ _ _ hY (by decide) (by decide)
  obtain ⟨bel6, P6, W6, _⟩ := grow1 3 bel5 P5 W5 hY5 hbY hnY hr6 t6
  refine ⟨bel6, U, ws, tr, bad, S, X ++ [⟨bX, bY, p, z, 0, 0⟩], G, _, pr_more P6, h1, by omega, by rw [List.length_append]; simp; omega, ?_, W6.congr (fun k => ?_) (fun k => ?_), ?_⟩
  · rw [List.length_append]
    obtain ⟨e0, e1, e2, e3, e4, e5⟩ := h4
    exact ⟨e0, e1, by show r.L 2 + 1 = _; rw [e2]; rfl, by show r.L 3 + 1 = _; rw [e3]; rfl, e4, e5⟩
  · rcases fin6 k with rfl | rfl | rfl | rfl | rfl | rfl
    · rfl
    · rfl
    · show X.map Xp.b ++ [bX] = (X ++ [_]).map Xp.b; rw [List.map_append]; rfl
    · show X.map Xp.c ++ [bY] = (X ++ [_]).map Xp.c; rw [List.map_append]; rfl
    · rfl
    · rfl
  · rcases fin6 k with rfl | rfl | rfl | rfl | rfl | rfl
    · rfl
    · rfl
    · show X.map _ ++ [_] = (X ++ [_]).map _; rw [List.map_append]; rfl
    · show X.map _ ++ [_] = (X ++ [_]).map _; rw [List.map_append]; rfl
    · rfl
    · rfl
  · refine ⟨hRt.hS, fun j u hu => ?_, hRt.hG⟩
    rcases add_getO j u hu with ⟨_, rfl⟩ | ⟨_, hu'⟩
    · exact ⟨hz, Nat.zero_le _, i, hp⟩
    · exact hRt.more.hX j u hu'
set_option maxRecDepth 100000 in
set_option maxHeartbeats 4000000 in
theorem sl_enter (wh nn v : Int) (h : Wn w0 Ln s x y N w) (hN : N < 1999990) (hLn : Ln ≤ 60) :
    Calls Try.prog 34 #[.pointer (some ⟨s, 0, none⟩), .agg #[.int .i64 1, .int .i64 wh, .int .i64 nn, .int .i64 v]] w fun e w' => e = .returned (.tuple #[]) ∧ Wn w0 Ln s x y (N + 1) w' := by
  have h0 := h
  obtain ⟨bel, U, ws, tr, bad, S, X, G, r, hP, h1, h2, h3, h4, hW, hRt⟩ := h
  obtain ⟨D, R, hM, hR, hdis, hU⟩ := hP
  have hB0 : Below w.heap.size w (w.alloc (.cells #[.int .i64 1, .int .i64 wh, .int .i64 nn, .int .i64 v] 52)) := (Below.refl _ _).alloc (Nat.le_refl _) _
  have hW0 := hW.below hB0
  have hb0 := heap_alloc_new w (.cells #[.int .i64 1, .int .i64 wh, .int .i64 nn, .int .i64 v] 52)
  have q0 : (w.alloc (.cells #[.int .i64 1, .int .i64 wh, .int .i64 nn, .int .i64 v] 52)).cell? ⟨w.heap.size, 0, none⟩ = some (.int .i64 1) := by rw [Lib.cell_of_heap hb0]; rfl
  have q1 : (w.alloc (.cells #[.int .i64 1, .int .i64 wh, .int .i64 nn, .int .i64 v] 52)).cell? ⟨w.heap.size, 1, none⟩ = some (.int .i64 wh) := by rw [Lib.cell_of_heap hb0]; rfl
  have q2 : (w.alloc (.cells #[.int .i64 1, .int .i64 wh, .int .i64 nn, .int .i64 v] 52)).cell? ⟨w.heap.size, 2, none⟩ = some (.int .i64 nn) := by rw [Lib.cell_of_heap hb0]; rfl
  have hbx : Bs w.heap.size 1 wh nn v (w.alloc (.cells #[.int .i64 1, .int .i64 wh, .int .i64 nn, .int .i64 v] 52)) := hb0
  have s4 := hW0.c2
  have s5 := hW0.c3
  rw [show r.L 0 = S.length from h4.1] at s4
  rw [show r.L 1 = S.length from h4.2.1] at s5
  have HQ : Hid (∀ V', Below w.heap.size w V' → Wn w0 Ln s x y (N + 1) V') := hide' (fun V' hb => h0.quiet hb)
  by_cases hz : S.length = 0
  · have F := hide' (HQ.out _ hB0)
    rw [hz] at s4
    clear h0 bel hM hR hdis hU h1 h2 h3 h4 hW hRt hW0 hb0 HQ hz hB0 s5 q2 hbx 
    go_enter Try.func34, Try.ntmps34
    go_wp2
    refine bodyPost_ret (results_none rfl _ _ _) rfl ?_
    exact ⟨rfl, F.out⟩
  have hL0 : (0 : Int) < (S.length : Int) := by omega
  have hi1 := Int.emod_nonneg wh (b := (S.length : Int)) (by omega)
  have hi2 := Int.emod_lt_of_pos wh (b := (S.length : Int)) hL0
  have HPk := hide' (fun V => pick_big wh (S.length : Int) V hL0 (by omega))
  generalize wh % (S.length : Int) = zi at *
  obtain ⟨i, rfl⟩ : ∃ i : Nat, zi = (i : Int) := ⟨zi.toNat, by omega⟩
  have hil : i < S.length := by omega
  obtain ⟨p, hp⟩ : ∃ p, S[i]? = some p := ⟨_, List.getElem?_eq_getElem hil⟩
  obtain ⟨xg, exg, cxg⟩ := ptr_cell (i := i) (b := p.b) (hW0.row 0) (by show (S.map Sp.b)[i]? = _; rw [List.getElem?_map, hp]; rfl)
  obtain ⟨yg, eyg, cyg⟩ := ptr_cell (i := i) (b := p.c) (hW0.row 1) (by show (S.map Sp.c)[i]? = _; rw [List.getElem?_map, hp]; rfl)
  rw [exg] at s4
  rw [eyg] at s5
  have hdz : ((S.length : Int) == 0) = false := by rw [beq_eq_false_iff_ne]; omega
  have HCell : Hid (∀ V' fm ok, Ws w0.heap.size s x y r (rsOf S X G) fm ok V' → V'.cell? ⟨s, 2, none⟩ = some (.slice (some ⟨xg, 0, none⟩) S.length (r.cap 0)) ∧ V'.cell? ⟨s, 3, none⟩ = some (.slice (some ⟨yg, 0, none⟩) S.length (r.cap 1)) ∧ V'.cell? ⟨xg, i, none⟩ = some (.pointer (some ⟨p.b, 0, none⟩)) ∧ V'.cell? ⟨yg, i, none⟩ = some (.pointer (some ⟨p.c, 0, none⟩))) := hide' (fun V' fm ok hx => by
    have z1 := hx.c2
    have z2 := hx.c3
    rw [show r.L 0 = S.length from h4.1, exg] at z1
    rw [show r.L 1 = S.length from h4.2.1, eyg] at z2
    obtain ⟨g1, e1, z3⟩ := ptr_cell (i := i) (b := p.b) (hx.row 0) (by show (S.map Sp.b)[i]? = _; rw [List.getElem?_map, hp]; rfl)
    obtain ⟨g2, e2, z4⟩ := ptr_cell (i := i) (b := p.c) (hx.row 1) (by show (S.map Sp.c)[i]? = _; rw [List.getElem?_map, hp]; rfl)
    rw [exg] at e1
    rw [eyg] at e2
    cases e1
    cases e2
    exact ⟨z1, z2, z3, z4⟩)
  have HWt : Hid (∀ V', Below w.heap.size w V' → Below w0.heap.size w0 V' ∧ Mem D w0.heap.size x ws tr bad V' ∧ Rem R w0.heap.size y ws N tr bad V' ∧ Ws w0.heap.size s x y r (rsOf S X G) (fmOf x y S X G) true V') := hide' (fun V' hb => ⟨bel.trans (hb.mono bel.size), hM.below hb, hR.below hb, hW.below hb⟩)
  have HP := hide' (And.intro hp (And.intro hdis (And.intro h1 (And.intro h2 (And.intro h3 (And.intro h4 (And.intro hRt hN)))))))
  have HB0 := hide' hB0
  have HBx0 := hide' hbx
  clear hbx
  have hil' : (i : Int) < (S.length : Int) := by omega
  have HLn := hide' hLn
  clear h0 bel hM hR hdis hU h1 h2 h3 h4 hW hRt hW0 hb0 hz hB0 hi1 hi2 hp exg eyg hLn
  generalize hLg : S.length = L at *
  have HLg := hide' hLg
  clear hLg hil
  generalize r.cap 0 = cp1 at *
  generalize r.cap 1 = cp2 at *
  go_enter Try.func34, Try.ntmps34
  go_wp2_with fail
  generalize (w.alloc (.cells #[.int .i64 1, .int .i64 wh, .int .i64 nn, .int .i64 v] 52)) = W at *
  generalize hβg : w.heap.size = β at *
  have HBg := hide' hβg
  clear hβg
  go_quiet ((go_at_call 7; exact Calls.quiet_of_same (HPk.out _)))
  have HB1 : Hid (Below β w (W.drewN nq)) := hide' (HB0.out.trans ⟨rfl, rfl, rfl, Nat.le_refl _, fun _ _ => rfl⟩)
  replace s4 : (W.drewN nq).cell? ⟨s, 2, none⟩ = some (.slice (some ⟨xg, 0, none⟩) L cp1) := s4
  replace s5 : (W.drewN nq).cell? ⟨s, 3, none⟩ = some (.slice (some ⟨yg, 0, none⟩) L cp2) := s5
  replace cxg : (W.drewN nq).cell? ⟨xg, i, none⟩ = some (.pointer (some ⟨p.b, 0, none⟩)) := cxg
  replace cyg : (W.drewN nq).cell? ⟨yg, i, none⟩ = some (.pointer (some ⟨p.c, 0, none⟩)) := cyg
  replace q2 : (W.drewN nq).cell? ⟨β, 2, none⟩ = some (.int .i64 nn) := q2
  have HBx : Hid (Bs β 1 wh nn v (W.drewN nq)) := HBx0
  clear HBx0
  replace q0 : (W.drewN nq).cell? ⟨β, 0, none⟩ = some (.int .i64 1) := q0
  clear q1 HB0 hdz HPk hL0
  generalize W.drewN nq = V1 at *

  have HS := hide' (HWt.out V1 HB1.out)
  have HRS := hide' (HP.out.2.2.2.2.2.2.1.hS i p HP.out.1)
  have hSl : Hid (∀ V' ok, Ws w0.heap.size s x y r (rsOf S X G) (fmOf x y S X G) ok V' → Sl p.b x p.e p.f p.n V' ∧ RSl p.c y p.e p.f p.n V') := hide' (fun V' ok hx => hx.sl HP.out.1)

  by_cases hz : isl p.n nn = true
  · obtain ⟨z, rfl⟩ : ∃ z : Nat, nn = (z : Int) := ⟨nn.toNat, by have := of_decide_eq_true hz; omega⟩
    have HZN : Hid (z < p.n) := hide' (by have := of_decide_eq_true hz; omega)
    clear hz
    have BL : Hid (∀ (V V' : World), Below β w V → Below V.heap.size V V' → Below β w V') := hide' (fun V V' hb hb' => by
      have hq : β ≤ V.heap.size := by have := hb.size; rw [HBg.out] at this; exact this
      exact hb.trans (hb'.mono hq))
    have HC : Hid (Calls Try.prog 25 #[.pointer (some ⟨p.b, 0, none⟩), .int .i64 (z : Nat)] V1.drew fun e V' => e = .returned (.tuple #[.pointer (some ⟨V1.heap.size, 0, none⟩), .int .i64 0]) ∧ Below V1.heap.size V1 V' ∧ Sc V1.heap.size x p.e p.f p.n z 0 0 V') := hide' ((enter_ok z (show Sl p.b x p.e p.f p.n V1.drew from (hSl.out V1 true HS.out.2.2.2).1) HZN.out).mono fun e V' ⟨h1, h2⟩ => ⟨h1, by rw [h2]; exact (show Below V1.heap.size V1 V1.drew from ⟨rfl, rfl, rfl, Nat.le_refl _, fun _ _ => rfl⟩).trans ((Below.refl V1.heap.size V1.drew).alloc (Nat.le_refl _) _), by rw [h2]; exact enter_sc x p.e p.f p.n z V1.drew⟩)
    obtain ⟨bX, hbX⟩ : ∃ bX, V1.heap.size = bX := ⟨_, rfl⟩
    have HbX := hide' hbX
    rw [hbX] at HC
    go_wp2_with fail
    go_region_held3 (fun w' => w'.cell? ⟨s, 2, none⟩ = some (.slice (some ⟨xg, 0, none⟩) L cp1) ∧ w'.cell? ⟨xg, i, none⟩ = some (.pointer (some ⟨p.b, 0, none⟩)) ∧ w'.cell? ⟨β, 2, none⟩ = some (.int .i64 (z : Nat))) (first | exact ⟨s4, cxg, q2⟩ | exact k2) ((go_at_call 25; refine HC.out.mono ?_; rintro e1 V2 ⟨rfl, b2, hx2⟩; have b2' : Below V1.heap.size V1 V2 := (by rw [HbX.out]; exact b2); have hb2 := BL.out V1 V2 HB1.out b2'; have kc := HCell.out V2 _ _ (HWt.out V2 hb2).2.2.2; have hq2 := HBx.out.below b2'; have k2 : V2.cell? ⟨s, 2, none⟩ = some (.slice (some ⟨xg, 0, none⟩) L cp1) ∧ V2.cell? ⟨xg, i, none⟩ = some (.pointer (some ⟨p.b, 0, none⟩)) ∧ V2.cell? ⟨β, 2, none⟩ = some (.int .i64 (z : Nat)) := ⟨kc.1, kc.2.2.1, hq2.c2⟩))
    rename_i hHeld
    clear hHeld
    obtain ⟨_, kc2, _, kc4⟩ := kc
    have kb := hq2.c2
    have HX2 := hide' (And.intro hb2 (And.intro b2' (And.intro hx2 hq2)))
    have HC2 : Hid (Calls Try.prog 59 #[.pointer (some ⟨p.c, 0, none⟩), .int .i64 (z : Nat)] V2.drew fun e V' => e = .returned (.tuple #[.pointer (some ⟨V2.heap.size, 0, none⟩), .int .i64 0]) ∧ Below V2.heap.size V2 V' ∧ RSc V2.heap.size p.c z 0 0 V') := hide' ((renter_ok z (show RSl p.c y p.e p.f p.n V2.drew from (hSl.out V2 true (HWt.out V2 hb2).2.2.2).2) HZN.out).mono fun e V' ⟨h1, h2⟩ => ⟨h1, by rw [h2]; exact (show Below V2.heap.size V2 V2.drew from ⟨rfl, rfl, rfl, Nat.le_refl _, fun _ _ => rfl⟩).trans ((Below.refl V2.heap.size V2.drew).alloc (Nat.le_refl _) _), by rw [h2]; exact renter_sc p.c z V2.drew⟩)
    obtain ⟨bY, hbY⟩ : ∃ bY, V2.heap.size = bY := ⟨_, rfl⟩
    have HbY := hide' hbY
    rw [hbY] at HC2
    clear k2 HC b2 b2' hb2 hx2 hq2 s4 s5 cxg cyg q0 q2 hbX hbY
    go_wp2_with fail
    go_region_held3 (fun w' => w'.cell? ⟨s, 3, none⟩ = some (.slice (some ⟨yg, 0, none⟩) L cp2) ∧ w'.cell? ⟨yg, i, none⟩ = some (.pointer (some ⟨p.c, 0, none⟩)) ∧ w'.cell? ⟨β, 2, none⟩ = some (.int .i64 (z : Nat))) (first | exact ⟨kc2, kc4, kb⟩ | exact k3) ((go_at_call 59; refine HC2.out.mono ?_; rintro e1 V3 ⟨rfl, b3, hy3⟩; have b3' : Below V2.heap.size V2 V3 := (by rw [HbY.out]; exact b3); have hb3 := BL.out V2 V3 HX2.out.1 b3'; have kd := HCell.out V3 _ _ (HWt.out V3 hb3).2.2.2; have hq3 := HX2.out.2.2.2.below b3'; have k3 : V3.cell? ⟨s, 3, none⟩ = some (.slice (some ⟨yg, 0, none⟩) L cp2) ∧ V3.cell? ⟨yg, i, none⟩ = some (.pointer (some ⟨p.c, 0, none⟩)) ∧ V3.cell? ⟨β, 2, none⟩ = some (.int .i64 (z : Nat)) := ⟨kd.2.1, kd.2.2.2, hq3.c2⟩))
    rename_i hHeld
    clear hHeld
    obtain ⟨bl3, m3, r3, W3⟩ := HWt.out V3 hb3
    have c8 := W3.c8
    have f8 := W3.fz 8
    have P3 : Pr (fun j => D j ∨ R j) w0.heap.size x y ws N tr bad V3 := ⟨D, R, m3, r3, HP.out.2.1, fun j => Iff.rfl⟩
    have hx3 : Sc bX x p.e p.f p.n z 0 0 V3 := HX2.out.2.2.1.below b3'
    have HV4 : Hid (∀ V4, V4 = V3.setCell ⟨s, 8, none⟩ (.bool true) → Below w0.heap.size w0 V4 ∧ Pr (fun j => D j ∨ R j) w0.heap.size x y ws N tr bad V4 ∧ Ws w0.heap.size s x y r (rsOf S X G) (fmOf x y S X G) true V4 ∧ Sc bX x p.e p.f p.n z 0 0 V4 ∧ RSc bY p.c z 0 0 V4) := hide' (fun V4 h4 => by
      subst h4
      exact ⟨bel_flag bl3 W3.ls _ 8, Pr.flagged P3 W3 true, W3.flag true, hx3.kept (turn_b s 8 _ V3) (fun e => cells_ne hx3 W3.hs (by decide) e), (turn_b s 8 (.bool true) V3).block _ (lt_of_heap hy3) (fun e => cells_ne hy3 W3.hs (by decide) e) |>.trans hy3⟩)
    have HNX : Hid (w0.heap.size ≤ bX ∧ w0.heap.size ≤ bY ∧ (∀ (i : Nat) (q : Ob), (fmOf x y S X G 2)[i]? = some q → q.1 ≠ bX) ∧ (∀ (i : Nat) (q : Ob), (fmOf x y S X G 3)[i]? = some q → q.1 ≠ bY)) := hide' (by
      have z1 := HS.out.1.size
      have z2 := (HWt.out V2 HX2.out.1).1.size
      rw [HbX.out] at z1
      rw [HbY.out] at z2
      exact ⟨z1, z2, fresh HS.out.2.2.2 2 (by rw [HbX.out]; exact Nat.le_refl _), fresh (HWt.out V2 HX2.out.1).2.2.2 3 (by rw [HbY.out]; exact Nat.le_refl _)⟩)
    clear k3 HC2 kc2 kc4 kb b3 b3' hb3 kd hq3 bl3 m3 r3 W3 P3 hx3 hy3 HX2 HQ HWt HB1 HBx HCell hSl BL HbX HbY
    go_upto_region 8 with fail
    clear c8 f8
    obtain ⟨V4, hV4⟩ : ∃ V4, V4 = V3.setCell ⟨s, 8, none⟩ (.bool true) := ⟨_, rfl⟩
    have HX4 := hide' (HV4.out V4 hV4)
    rw [← hV4]
    clear hV4 HV4
    have c4 := HX4.out.2.2.1.c4
    have HRw : Hid (V4.ownsRow w0.heap.size 76 1 (.slice (r.ao 2) (r.L 2) (r.cap 2)) (r.L 2) ((rsOf S X G 2).map ptr)) := hide' (HX4.out.2.2.1.row 2)
    have HB9 := hide' (HX4.out.1.size)
    have HLX := hide' (show r.L 2 < 3000000000000 by have := HP.out.2.2.2.2.2.1.2.2.1; have := HP.out.2.2.2.2.1; have := HP.out; omega)
    have HLY := hide' (show r.L 3 < 3000000000000 by have := HP.out.2.2.2.2.2.1.2.2.2.1; have := HP.out.2.2.2.2.1; have := HP.out; omega)
    have nws : Hid (¬ At (r.ao 2) s) := hide' (fun q => by obtain ⟨_, _, cs', h'⟩ := row_atk (HX4.out.2.2.1.row 2) q; exact cells_ne HX4.out.2.2.1.hs h' (by decide) rfl)
    go_upto_region 10 with (at_builtin; refine wpList_more (e := 76) (m := 1) Try.underlying39 info76 rfl (by decide) (by decide) V4 rfl _ _ rfl HRw.out HLX.out HB9.out [.pointer (some ⟨bX, 0, none⟩)] rfl (by simp [Value.oneCell']) _ rfl rfl ?_; intro gg cap' w5 hr5 t5 hg5; have a0 := (t5.cell (p := ⟨s, 4, none⟩) (lt_of_heap HX4.out.2.2.1.hs) nws.out).trans c4; have a1 : w5.frozen? ⟨s, 4, none⟩ = false := Lib.frozen_of_heap ((t5.block s (lt_of_heap HX4.out.2.2.1.hs) nws.out).trans HX4.out.2.2.1.hs) 4)
    obtain ⟨V5, hV5⟩ : ∃ V5, V5 = w5.setCell ⟨s, 4, none⟩ (.slice (some ⟨gg, 0, none⟩) (r.L 2 + 1) cap') := ⟨_, rfl⟩
    have W5 : Ws w0.heap.size s x y (r.more 2 gg cap') (upd (rsOf S X G) 2 (rsOf S X G 2 ++ [bX])) (upd (fmOf x y S X G) 2 (fmOf x y S X G 2 ++ [(bX, scc x p.e p.f p.n z 0 0)])) true V5 := by rw [hV5]; exact (grow1 2 HX4.out.1 HX4.out.2.1 HX4.out.2.2.1 HX4.out.2.2.2.1 HNX.out.1 HNX.out.2.2.1 hr5 t5).2.2.1
    have bl5 : Below w0.heap.size w0 V5 := by rw [hV5]; exact (grow1 2 HX4.out.1 HX4.out.2.1 HX4.out.2.2.1 HX4.out.2.2.2.1 HNX.out.1 HNX.out.2.2.1 hr5 t5).1
    rw [← hV5]
    have c5 : V5.cell? ⟨s, 5, none⟩ = some (.slice (r.ao 3) (r.L 3) (r.cap 3)) := W5.c5
    have HRw5 : Hid (V5.ownsRow w0.heap.size 116 1 (.slice (r.ao 3) (r.L 3) (r.cap 3)) (r.L 3) ((rsOf S X G 3).map ptr)) := hide' (W5.row 3)
    have nws5 : Hid (¬ At (r.ao 3) s) := hide' (fun q => by obtain ⟨_, _, cs', h'⟩ := row_atk (W5.row 3) q; exact cells_ne W5.hs h' (by decide) rfl)
    have HB5 := hide' bl5.size
    have HW5 := hide' (And.intro W5 hV5)
    have HT5 := hide' (And.intro hr5 t5)
    clear a0 a1 c4 hr5 t5 hg5 W5 hV5 bl5 HRw HB9 nws
    go_wp2_with (at_builtin; refine wpList_more (e := 116) (m := 1) Try.underlying40 info116 rfl (by decide) (by decide) V5 rfl _ _ rfl HRw5.out HLY.out HB5.out [.pointer (some ⟨bY, 0, none⟩)] rfl (by simp [Value.oneCell']) _ rfl rfl ?_; intro gg2 cap2 w6 hr6 t6 hg6; have a0 := (t6.cell (p := ⟨s, 5, none⟩) (lt_of_heap HW5.out.1.hs) nws5.out).trans c5; have a1 : w6.frozen? ⟨s, 5, none⟩ = false := Lib.frozen_of_heap ((t6.block s (lt_of_heap HW5.out.1.hs) nws5.out).trans HW5.out.1.hs) 5)
    have FF := hide' (ent_fin HX4.out.1 HX4.out.2.1 HX4.out.2.2.1 HX4.out.2.2.2.1 HX4.out.2.2.2.2 HNX.out.1 HNX.out.2.1 HNX.out.2.2.1 HNX.out.2.2.2 HT5.out.1 HT5.out.2 hr6 (by rw [← HW5.out.2]; exact t6) HP.out.2.2.1 HP.out.2.2.2.1 (by rw [HLg.out]; exact HP.out.2.2.2.2.1) (by rw [HLg.out]; exact HP.out.2.2.2.2.2.1) HP.out.2.2.2.2.2.2.1 HP.out.1 HZN.out)
    go_end0
    exact ⟨rfl, FF.out⟩
  · have hz' : isl p.n nn = false := by simpa using hz
    have HT1 : Hid (∀ V, Below β w V → Calls Try.prog 25 #[.pointer (some ⟨p.b, 0, none⟩), .int .i64 nn] V fun e V' => e = .returned (.tuple #[.pointer none, .int .i64 181]) ∧ V' = V) := hide' (fun V hb => enter_no nn (hSl.out V true (HWt.out V hb).2.2.2).1 hz')
    have HT2 : Hid (∀ V, Below β w V → Calls Try.prog 59 #[.pointer (some ⟨p.c, 0, none⟩), .int .i64 nn] V fun e V' => e = .returned (.tuple #[.pointer none, .int .i64 181]) ∧ V' = V) := hide' (fun V hb => renter_no nn (hSl.out V true (HWt.out V hb).2.2.2).2 hz')
    have HBd : Hid (∀ k, Below β w (V1.drewN k)) := hide' (fun k => HB1.out.trans ⟨rfl, rfl, rfl, Nat.le_refl _, fun _ _ => rfl⟩)
    clear hz hz'
    go_wp2_with fail
    go_quiet ((go_at_call 25; exact Calls.quiet_of_same (HT1.out _ (HBd.out _))))
    have HB2 : Hid (Below β w (V1.drewN nq)) := HBd.out nq
    replace s5 : (V1.drewN nq).cell? ⟨s, 3, none⟩ = some (.slice (some ⟨yg, 0, none⟩) L cp2) := s5
    replace cyg : (V1.drewN nq).cell? ⟨yg, i, none⟩ = some (.pointer (some ⟨p.c, 0, none⟩)) := cyg
    replace q2 : (V1.drewN nq).cell? ⟨β, 2, none⟩ = some (.int .i64 nn) := q2
    clear HBd HT1 s4 cxg q0 HBx HS
    generalize V1.drewN nq = V2 at *
    have HBe : Hid (∀ k, Below β w (V2.drewN k)) := hide' (fun k => HB2.out.trans ⟨rfl, rfl, rfl, Nat.le_refl _, fun _ _ => rfl⟩)
    go_wp2_with fail
    go_quiet ((go_at_call 59; exact Calls.quiet_of_same (HT2.out _ (HBe.out _))))
    have FF := hide' (Wn.flagT (HQ.out _ (HBe.out nq)))
    have c8 := (HWt.out _ (HBe.out nq)).2.2.2.c8
    have f8 := (HWt.out _ (HBe.out nq)).2.2.2.fz 8
    clear HT2 HQ HWt HP HB1 HB2 HBe HCell hSl s5 cyg q2
    generalize V2.drewN nq = V3 at *
    go_wp2
    go_end0
    exact ⟨rfl, by first | exact FF.out | simpa using FF.out⟩
end V
end Go.Proofs.Ytmlhlmiigdddlaa
