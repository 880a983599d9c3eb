import Derived.Test.YtbbopkhgmgdlfaaEx1
set_option linter.unusedVariables false
set_option linter.unusedSimpArgs false
namespace Go.Proofs.Ytbbopkhgmgdlfaa
open Go.RowKit
namespace V
open M F
variable {D R U : Nat → Prop} {B x y mm m' b c T s : Nat} {ws ws' : List Int} {tr tr' : List Ac} {bad bad' : Nat} {w w' w1 w2 : World} {cs cs0 : Array Value}
theorem b1 (hM : Mem D B x ws tr bad w) (hR : Rem R B y ws mm tr bad w) (hdis : ∀ j, D j → ¬ R j) (hb : w.heap[b]? = some (.cells cs0 T (0, 0))) (hT : T ≠ 85 ∧ T ≠ 99 ∧ T ≠ 75) (k : BTo D B x b ws' tr' bad' cs T w w1) : ∃ D', Mem D' B x ws' tr' bad' w1 ∧ Rem R B y ws mm tr bad w1 ∧ ∀ j, D' j → ¬ R j := by
  obtain ⟨D', hm, hw, t, q⟩ := k
  refine ⟨D', hm, hR.kept t (fun j hj z => ?_), fun j hj z => ?_⟩
  · rcases z with z | z
    · exact hdis j z hj
    · exact hR.not (z ▸ hb) hT hj
  · rcases q j hj with y | y
    · exact hdis j y z
    · have := (hR.low z).2; omega
theorem b2 (hM : Mem D B x ws' tr' bad' w1) (hR : Rem R B y ws mm tr bad w1) (hdis : ∀ j, D j → ¬ R j) (hc : w1.heap[c]? = some (.cells cs0 T (0, 0))) (hT : T ≠ 82 ∧ T ≠ 3 ∧ T ≠ 75) (k : RBTo R B y c ws' m' tr' bad' cs T w1 w2) : ∃ U, Pr U B x y ws' m' tr' bad' w2 := by
  obtain ⟨R', hm, hw, t, q⟩ := k
  refine ⟨fun j => D j ∨ R' j, D, R', hM.kept t (fun j hj z => ?_), hm, fun j hj z => ?_, fun j => Iff.rfl⟩
  · rcases z with z | z
    · exact hdis j hj z
    · exact hM.not (z ▸ hc) hT hj
  · rcases q j z with y | y
    · exact hdis j hj y
    · have := (hM.lo hj).2; omega
theorem BTo.bel {w0 : World} (hM : Mem D w0.heap.size x ws tr bad w) (bl : Below w0.heap.size w0 w) (hb : w0.heap.size ≤ b) (k : BTo D w0.heap.size x b ws' tr' bad' cs T w w1) : Below w0.heap.size w0 w1 := by
  obtain ⟨D', hm, hw, t, q⟩ := k
  exact bl.trans (t.below (fun j hj => by rcases hj with z | z; exact (hM.lo z).1; omega) bl.size)
theorem RBTo.bel {w0 : World} (hR : Rem D w0.heap.size y ws mm tr bad w) (bl : Below w0.heap.size w0 w) (hb : w0.heap.size ≤ b) (k : RBTo D w0.heap.size y b ws' m' tr' bad' cs T w w1) : Below w0.heap.size w0 w1 := by
  obtain ⟨D', hm, hw, t, q⟩ := k
  exact bl.trans (t.below (fun j hj => by rcases hj with z | z; exact (hR.low z).1; omega) bl.size)
theorem ptr_cell {B e n cap i : Nat} {ao : Option Addr} {bs : List Nat} {b : Nat} (h : w.ownsRow B e 1 (.slice ao n cap) n (bs.map ptr)) (hi : bs[i]? = some b) : ∃ g, ao = some ⟨g, 0, none⟩ ∧ w.cell? ⟨g, i, none⟩ = some (.pointer (some ⟨b, 0, none⟩)) := by
  have hl : i < n := by
    have h1 := h.1
    have h2 := (List.getElem?_eq_some_iff.1 hi).1
    rw [List.length_map] at h1
    omega
  obtain ⟨g, cap', hv, _, _⟩ := h.form (by omega)
  simp only [Value.slice.injEq] at hv
  obtain ⟨rfl, _, rfl⟩ := hv
  refine ⟨g, rfl, ?_⟩
  have := row_cell h i (ptr b) (by simp [hi])
  rw [show (⟨g, 0, none⟩ : Addr).add i = ⟨g, i, none⟩ by unfold Addr.add; split <;> simp_all] at this
  exact this
variable {r : Ro} {rs : Fin 6 → List Nat} {fm : Fin 6 → List Ob} {ok : Bool}
theorem Ws.c0 (h : Ws B s x y r rs fm ok w) : w.cell? ⟨s, 0, none⟩ = some (.pointer (some ⟨x, 0, none⟩)) := by rw [Lib.cell_of_heap h.hs]; rfl
theorem Ws.c1 (h : Ws B s x y r rs fm ok w) : w.cell? ⟨s, 1, none⟩ = some (.pointer (some ⟨y, 0, none⟩)) := by rw [Lib.cell_of_heap h.hs]; rfl
theorem Ws.c2 (h : Ws B s x y r rs fm ok w) : w.cell? ⟨s, 2, none⟩ = some (.slice (r.ao 0) (r.L 0) (r.cap 0)) := by rw [Lib.cell_of_heap h.hs]; rfl
theorem Ws.c3 (h : Ws B s x y r rs fm ok w) : w.cell? ⟨s, 3, none⟩ = some (.slice (r.ao 1) (r.L 1) (r.cap 1)) := by rw [Lib.cell_of_heap h.hs]; rfl
theorem Ws.c4 (h : Ws B s x y r rs fm ok w) : w.cell? ⟨s, 4, none⟩ = some (.slice (r.ao 2) (r.L 2) (r.cap 2)) := by rw [Lib.cell_of_heap h.hs]; rfl
theorem Ws.c5 (h : Ws B s x y r rs fm ok w) : w.cell? ⟨s, 5, none⟩ = some (.slice (r.ao 3) (r.L 3) (r.cap 3)) := by rw [Lib.cell_of_heap h.hs]; rfl
theorem Ws.c6 (h : Ws B s x y r rs fm ok w) : w.cell? ⟨s, 6, none⟩ = some (.slice (r.ao 4) (r.L 4) (r.cap 4)) := by rw [Lib.cell_of_heap h.hs]; rfl
theorem Ws.c7 (h : Ws B s x y r rs fm ok w) : w.cell? ⟨s, 7, none⟩ = some (.slice (r.ao 5) (r.L 5) (r.cap 5)) := by rw [Lib.cell_of_heap h.hs]; rfl
theorem Ws.c8 (h : Ws B s x y r rs fm ok w) : w.cell? ⟨s, 8, none⟩ = some (.bool ok) := by rw [Lib.cell_of_heap h.hs]; rfl
theorem Ws.fz (h : Ws B s x y r rs fm ok w) (j : Nat) : w.frozen? ⟨s, j, none⟩ = false := Lib.frozen_of_heap h.hs j
theorem Pr.nots (h : Pr U B x y ws mm tr bad w) (hw : w.heap[s]? = some (.cells cs 44 (0, 0))) : ¬ U s := by
  obtain ⟨D, R, h1, h2, h3, h4⟩ := h
  intro hj
  rcases (h4 s).1 hj with q | q
  · exact h1.not hw (by decide) q
  · exact h2.not hw (by decide) q
theorem Pr.flagged (h : Pr U B x y ws mm tr bad w) (hW : Ws B s x y r rs fm ok w) (v : Bool) : Pr U B x y ws mm tr bad (w.setCell ⟨s, 8, none⟩ (.bool v)) := h.kept (turn_b s 8 (.bool v) w) (fun j hj e => Pr.nots h hW.hs (e ▸ hj))
theorem bel_flag {w0 : World} (h : Below w0.heap.size w0 w) (hs : w0.heap.size ≤ s) (v : Value) (j : Nat) : Below w0.heap.size w0 (w.setCell ⟨s, j, none⟩ v) := h.trans ((turn_b s j v w).below (fun k hk => by omega) h.size)
variable {w0 : World} {Ln N : Nat} {S : List Sp} {X : List Xp} {G : List Gp}
/-- the box of a call -/
def Bs (q : Nat) (d k n v : Int) (w : World) : Prop := w.heap[q]? = some (.cells #[.int .i64 d, .int .i64 k, .int .i64 n, .int .i64 v] 52 (0, 0))
theorem Wn.quiet (h : Wn w0 Ln s x y N w) (b : Below w.heap.size w w') : Wn w0 Ln s x y (N + 1) w' := by
  obtain ⟨bel, U, ws, tr, bad, S, X, G, r, hP, h1, h2, h3, h4, hW, hR⟩ := h
  exact ⟨bel.trans (b.mono bel.size), U, ws, tr, bad, S, X, G, r, pr_more (hP.below b), h1, by omega, by omega, h4, hW.below b, hR.more⟩
theorem Wn.mono (h : Wn w0 Ln s x y N w) : Wn w0 Ln s x y (N + 1) w := h.quiet (Below.refl _ _)
/-- a section's step on both sides -/
theorem sec_fin {i : Nat} {p : Xp} {a : Nat} (bel : Below w0.heap.size w0 w) (hM : Mem D w0.heap.size x ws tr bad w) (hR : Rem R w0.heap.size y ws N tr bad w) (hdis : ∀ j, D j → ¬ R j) (hW : Ws w0.heap.size s x y r (rsOf S X G) (fmOf x y S X G) true w) (hp : X[i]? = some p)
    (k1 : BTo D w0.heap.size x p.b (sW ws a p.m p.sn) (tr ++ sT ws p.q.e a p.m p.sn) (bad + sB ws p.q.e a p.m) (scc x p.q.e p.q.f p.q.n p.s (md (p.m + 1)) (sS ws p.q.e p.m p.sn)) 115 w w1) :
    ∃ D1, Mem D1 w0.heap.size x (sW ws a p.m p.sn) (tr ++ sT ws p.q.e a p.m p.sn) (bad + sB ws p.q.e a p.m) w1 ∧ Rem R w0.heap.size y ws N tr bad w1 ∧ (∀ j, D1 j → ¬ R j) ∧ Ws w0.heap.size s x y r (rsOf S X G) (upd (fmOf x y S X G) 2 ((fmOf x y S X G 2).set i (p.b, scc x p.q.e p.q.f p.q.n p.s (md (p.m + 1)) (sS ws p.q.e p.m p.sn)))) true w1 ∧ RSc p.c p.q.c p.s p.m p.sn w1 ∧ Below w0.heap.size w0 w1 := by
  have g2 : (fmOf x y S X G 2)[i]? = some (p.b, scc x p.q.e p.q.f p.q.n p.s (md p.m) p.sn) := by show (X.map _)[i]? = _; rw [List.getElem?_map, hp]; rfl
  have g3 : (fmOf x y S X G 3)[i]? = some (p.c, rscc p.q.c p.s p.m p.sn) := by show (X.map _)[i]? = _; rw [List.getElem?_map, hp]; rfl
  obtain ⟨o1, o2⟩ := (hW.fam 2).at_ i _ g2
  obtain ⟨D1, m1, r1, d1⟩ := b1 hM hR hdis o1 (by decide) k1
  have W1 := hW.bto hM g2 k1
  exact ⟨D1, m1, r1, d1, W1, ((W1.fam 3).at_ i _ g3).1, BTo.bel hM bel o2 k1⟩
theorem sec_fin2 {i : Nat} {p : Xp} {a : Nat} (bel : Below w0.heap.size w0 w1) (hM : Mem D w0.heap.size x (sW ws a p.m p.sn) (tr ++ sT ws p.q.e a p.m p.sn) (bad + sB ws p.q.e a p.m) w1) (hR : Rem R w0.heap.size y ws N tr bad w1) (hdis : ∀ j, D j → ¬ R j) (hW : Ws w0.heap.size s x y r (rsOf S X G) (upd (fmOf x y S X G) 2 ((fmOf x y S X G 2).set i (p.b, scc x p.q.e p.q.f p.q.n p.s (md (p.m + 1)) (sS ws p.q.e p.m p.sn)))) true w1) (hp : X[i]? = some p)
    (k2 : RBTo R w0.heap.size y p.c (sW ws a p.m p.sn) (N + 1) (tr ++ sT ws p.q.e a p.m p.sn) (bad + sB ws p.q.e a p.m) (rscc p.q.c p.s (p.m + 1) (sS ws p.q.e p.m p.sn)) 129 w1 w2)
    (h1 : ws.length = Ln) (h2 : tr.length ≤ N) (h3 : S.length ≤ N ∧ X.length ≤ N ∧ G.length ≤ N) (h4 : r.L 0 = S.length ∧ r.L 1 = S.length ∧ r.L 2 = X.length ∧ r.L 3 = X.length ∧ r.L 4 = G.length ∧ r.L 5 = G.length) (hRt : Rt Ln S X G N) :
    (∃ U fm, Pr U w0.heap.size x y (sW ws a p.m p.sn) (N + 1) (tr ++ sT ws p.q.e a p.m p.sn) (bad + sB ws p.q.e a p.m) w2 ∧ Ws w0.heap.size s x y r (rsOf S X G) fm true w2) ∧ Wn w0 Ln s x y (N + 1) (w2.setCell ⟨s, 8, none⟩ (.bool true)) := by
  have g3 : (fmOf x y S X G 3)[i]? = some (p.c, rscc p.q.c p.s p.m p.sn) := by show (X.map _)[i]? = _; rw [List.getElem?_map, hp]; rfl
  have hil := (List.getElem?_eq_some_iff.1 hp).1
  obtain ⟨o1, o2⟩ := (hW.fam 3).at_ i _ g3
  obtain ⟨U, hP⟩ := b2 hM hR hdis o1 (by decide) k2
  have W2 := hW.rbto (φ := 3) hR g3 k2
  refine ⟨⟨U, _, hP, W2⟩, bel_flag (RBTo.bel hR bel o2 k2) hW.ls _ 8, U, _, _, _, S, X.set i { p with m := p.m + 1, sn := sS ws p.q.e p.m p.sn }, G, r, Pr.flagged hP W2 true, by rw [sW_len]; exact h1, by rw [List.length_append]; have := sT_len ws p.q.e a p.m p.sn; omega, by rw [List.length_set]; omega, by rw [List.length_set]; exact h4, (W2.flag true).congr (fun k => ?_) (fun k => ?_), ?_⟩
  · rcases fin6 k with rfl | rfl | rfl | rfl | rfl | rfl
    · rfl
    · rfl
    · show X.map Xp.b = (X.set i _).map Xp.b
      rw [List.map_set]
      apply List.ext_getElem?
      intro j
      by_cases e : j = i
      · subst e; rw [List.getElem?_set_self (by simpa using hil), List.getElem?_map, hp]; rfl
      · rw [List.getElem?_set_ne (fun z => e z.symm)]
    · show X.map Xp.c = (X.set i _).map Xp.c
      rw [List.map_set]
      apply List.ext_getElem?
      intro j
      by_cases e : j = i
      · subst e; rw [List.getElem?_set_self (by simpa using hil), List.getElem?_map, hp]; rfl
      · rw [List.getElem?_set_ne (fun z => e z.symm)]
    · rfl
    · rfl
  · rcases fin6 k with rfl | rfl | rfl | rfl | rfl | rfl
    · rfl
    · rfl
    · show (X.map _).set i _ = (X.set i _).map _
      rw [List.map_set]
    · show (X.map _).set i _ = (X.set i _).map _
      rw [List.map_set]
    · rfl
    · rfl
  · refine ⟨hRt.hS, fun j u hu => ?_, hRt.hG⟩
    rcases set_getO hil j u hu with ⟨rfl, rfl⟩ | ⟨_, hu'⟩
    · obtain ⟨q1, q2, q3⟩ := hRt.hX j p hp
      exact ⟨q1, by simp only; omega, q3⟩
    · exact hRt.more.hX j u hu'
/-- a period's step on both sides -/
theorem gr_fin {i : Nat} {p : Gp} {a : Nat} (bel : Below w0.heap.size w0 w) (hM : Mem D w0.heap.size x ws tr bad w) (hR : Rem R w0.heap.size y ws N tr bad w) (hdis : ∀ j, D j → ¬ R j) (hW : Ws w0.heap.size s x y r (rsOf S X G) (fmOf x y S X G) true w) (hp : G[i]? = some p)
    (k1 : BTo D w0.heap.size x p.b (gW ws p.q.e p.ad) (tr ++ gT ws p.q.e a p.q.n p.ad p.go) (bad + gB ws p.q.e a p.q.n p.ad p.go) (grc x p.q.e p.q.f p.q.n (gS ws p.q.e p.ad p.si) (nx true (gG ws a p.q.n p.ad p.si p.go))) 113 w w1) :
    ∃ D1, Mem D1 w0.heap.size x (gW ws p.q.e p.ad) (tr ++ gT ws p.q.e a p.q.n p.ad p.go) (bad + gB ws p.q.e a p.q.n p.ad p.go) w1 ∧ Rem R w0.heap.size y ws N tr bad w1 ∧ (∀ j, D1 j → ¬ R j) ∧ Ws w0.heap.size s x y r (rsOf S X G) (upd (fmOf x y S X G) 4 ((fmOf x y S X G 4).set i (p.b, grc x p.q.e p.q.f p.q.n (gS ws p.q.e p.ad p.si) (nx true (gG ws a p.q.n p.ad p.si p.go))))) true w1 ∧ RGr p.c p.q.c p.ad p.si p.go w1 ∧ Below w0.heap.size w0 w1 := by
  have g2 : (fmOf x y S X G 4)[i]? = some (p.b, grc x p.q.e p.q.f p.q.n p.si (nx p.ad p.go)) := by show (G.map _)[i]? = _; rw [List.getElem?_map, hp]; rfl
  have g3 : (fmOf x y S X G 5)[i]? = some (p.c, rgrc p.q.c p.ad p.si p.go) := by show (G.map _)[i]? = _; rw [List.getElem?_map, hp]; rfl
  obtain ⟨o1, o2⟩ := (hW.fam 4).at_ i _ g2
  obtain ⟨D1, m1, r1, d1⟩ := b1 hM hR hdis o1 (by decide) k1
  have W1 := hW.bto (φ := 4) hM g2 k1
  exact ⟨D1, m1, r1, d1, W1, ((W1.fam 5).at_ i _ g3).1, BTo.bel hM bel o2 k1⟩
theorem gr_fin2 {i : Nat} {p : Gp} {a : Nat} (bel : Below w0.heap.size w0 w1) (hM : Mem D w0.heap.size x (gW ws p.q.e p.ad) (tr ++ gT ws p.q.e a p.q.n p.ad p.go) (bad + gB ws p.q.e a p.q.n p.ad p.go) w1) (hR : Rem R w0.heap.size y ws N tr bad w1) (hdis : ∀ j, D j → ¬ R j) (hW : Ws w0.heap.size s x y r (rsOf S X G) (upd (fmOf x y S X G) 4 ((fmOf x y S X G 4).set i (p.b, grc x p.q.e p.q.f p.q.n (gS ws p.q.e p.ad p.si) (nx true (gG ws a p.q.n p.ad p.si p.go))))) true w1) (hp : G[i]? = some p)
    (k2 : RBTo R w0.heap.size y p.c (gW ws p.q.e p.ad) (N + 1) (tr ++ gT ws p.q.e a p.q.n p.ad p.go) (bad + gB ws p.q.e a p.q.n p.ad p.go) (rgrc p.q.c true (gS ws p.q.e p.ad p.si) (gG ws a p.q.n p.ad p.si p.go)) 131 w1 w2)
    (h1 : ws.length = Ln) (h2 : tr.length ≤ N) (h3 : S.length ≤ N ∧ X.length ≤ N ∧ G.length ≤ N) (h4 : r.L 0 = S.length ∧ r.L 1 = S.length ∧ r.L 2 = X.length ∧ r.L 3 = X.length ∧ r.L 4 = G.length ∧ r.L 5 = G.length) (hRt : Rt Ln S X G N) :
    (∃ U fm, Pr U w0.heap.size x y (gW ws p.q.e p.ad) (N + 1) (tr ++ gT ws p.q.e a p.q.n p.ad p.go) (bad + gB ws p.q.e a p.q.n p.ad p.go) w2 ∧ Ws w0.heap.size s x y r (rsOf S X G) fm true w2) ∧ Wn w0 Ln s x y (N + 1) (w2.setCell ⟨s, 8, none⟩ (.bool true)) := by
  have g3 : (fmOf x y S X G 5)[i]? = some (p.c, rgrc p.q.c p.ad p.si p.go) := by show (G.map _)[i]? = _; rw [List.getElem?_map, hp]; rfl
  have hil := (List.getElem?_eq_some_iff.1 hp).1
  obtain ⟨o1, o2⟩ := (hW.fam 5).at_ i _ g3
  obtain ⟨U, hP⟩ := b2 hM hR hdis o1 (by decide) k2
  have W2 := hW.rbto (φ := 5) hR g3 k2
  refine ⟨⟨U, _, hP, W2⟩, bel_flag (RBTo.bel hR bel o2 k2) hW.ls _ 8, U, _, _, _, S, X, G.set i { p with ad := true, si := gS ws p.q.e p.ad p.si, go := gG ws a p.q.n p.ad p.si p.go }, r, Pr.flagged hP W2 true, by rw [gW_len]; exact h1, by rw [List.length_append]; have := gT_len ws p.q.e a p.q.n p.ad p.go; omega, by rw [List.length_set]; omega, by rw [List.length_set]; exact h4, (W2.flag true).congr (fun k => ?_) (fun k => ?_), ?_⟩
  · rcases fin6 k with rfl | rfl | rfl | rfl | rfl | rfl
    · rfl
    · rfl
    · rfl
    · rfl
    · show G.map Gp.b = (G.set i _).map Gp.b
      rw [List.map_set]
      apply List.ext_getElem?
      intro j
      by_cases e : j = i
      · subst e; rw [List.getElem?_set_self (by simpa using hil), List.getElem?_map, hp]; rfl
      · rw [List.getElem?_set_ne (fun z => e z.symm)]
    · show G.map Gp.c = (G.set i _).map Gp.c
      rw [List.map_set]
      apply List.ext_getElem?
      intro j
      by_cases e : j = i
      · subst e; rw [List.getElem?_set_self (by simpa using hil), List.getElem?_map, hp]; rfl
      · rw [List.getElem?_set_ne (fun z => e z.symm)]
  · rcases fin6 k with rfl | rfl | rfl | rfl | rfl | rfl
    · rfl
    · rfl
    · rfl
    · rfl
    · show (G.map _).set i _ = (G.set i _).map _
      rw [List.map_set]
    · show (G.map _).set i _ = (G.set i _).map _
      rw [List.map_set]
  · refine ⟨hRt.hS, hRt.more.hX, fun j u hu => ?_⟩
    rcases set_getO hil j u hu with ⟨rfl, rfl⟩ | ⟨_, hu'⟩
    · obtain ⟨q1, q2, q3⟩ := hRt.hG j p hp
      exact ⟨gG_le _ _ _ _ _ _ q1, fun z => (by cases z), q3⟩
    · exact hRt.hG j u hu'
end V
end Go.Proofs.Ytbbopkhgmgdlfaa
