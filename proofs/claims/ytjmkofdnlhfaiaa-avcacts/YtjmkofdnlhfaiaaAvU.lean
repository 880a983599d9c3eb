import Derived.Test.YtjmkofdnlhfaiaaAvS
set_option linter.unusedVariables false
set_option linter.unusedSimpArgs false
namespace Go.Proofs.Ytjmkofdnlhfaiaa
open Go.RowKit
namespace C
variable {B c g n v : Nat} {b : Nat → Nat} {s : St} {w w' : World}
/-- Put, as the document says -/
def pta (n v : Nat) (s : St) (tag : Int) (t : Tr) (al : Bool) : St :=
  match fst (has (s.f (spt n t)) t) v with
  | some j => match s.f (spt n t) j with
    | none => s
    | some d => ⟨fup2 s.f (spt n t) j (some ⟨d.t, tag, al, d.mr⟩), s.h, s.hi, s.mi, s.ev⟩
  | none => match fst (fre (s.f (spt n t))) v with
    | some j => ⟨fup2 s.f (spt n t) j (some ⟨t, tag, al, false⟩), s.h, s.hi, s.mi, s.ev⟩
    | none => ⟨fup2 (fup s.f (spt n t) (trn v (s.f (spt n t)) (s.h (spt n t)) v).1) (spt n t) (trn v (s.f (spt n t)) (s.h (spt n t)) v).2 (some ⟨t, tag, al, false⟩), fup s.h (spt n t) (nx v (trn v (s.f (spt n t)) (s.h (spt n t)) v).2), s.hi, s.mi, s.ev + 1⟩
theorem pta_same {tag : Int} {t : Tr} {al : Bool} {j : Nat} {d : De} (h : fst (has (s.f (spt n t)) t) v = some j) (hd : s.f (spt n t) j = some d) : pta n v s tag t al = ⟨fup2 s.f (spt n t) j (some ⟨d.t, tag, al, d.mr⟩), s.h, s.hi, s.mi, s.ev⟩ := by
  unfold pta; rw [h]; simp only [hd]
theorem pta_room {tag : Int} {t : Tr} {al : Bool} {j : Nat} (h : fst (has (s.f (spt n t)) t) v = none) (hr : fst (fre (s.f (spt n t))) v = some j) : pta n v s tag t al = ⟨fup2 s.f (spt n t) j (some ⟨t, tag, al, false⟩), s.h, s.hi, s.mi, s.ev⟩ := by
  unfold pta; rw [h]; simp only [hr]
theorem pta_turn {tag : Int} {t : Tr} {al : Bool} (h : fst (has (s.f (spt n t)) t) v = none) (hr : fst (fre (s.f (spt n t))) v = none) : pta n v s tag t al = ⟨fup2 (fup s.f (spt n t) (trn v (s.f (spt n t)) (s.h (spt n t)) v).1) (spt n t) (trn v (s.f (spt n t)) (s.h (spt n t)) v).2 (some ⟨t, tag, al, false⟩), fup s.h (spt n t) (nx v (trn v (s.f (spt n t)) (s.h (spt n t)) v).2), s.hi, s.mi, s.ev + 1⟩ := by
  unfold pta; rw [h]; simp only [hr]
theorem trn_lt {v : Nat} : ∀ (m : Nat) (f : Pf) (k : Nat), k < v → (trn v f k m).2 < v := by
  intro m
  induction m with
  | zero => intro f k h; exact h
  | succ m ih =>
    intro f k h
    cases hm : mkd f k with
    | true => rw [trn_yes hm]; exact ih _ _ (nx_lt h)
    | false => rw [trn_no hm]; exact h
/-- a box with a triple in it -/
structure Bx (x : Nat) (t : Tr) (w : World) : Prop where
  hx : w.heap[x]? = some (.cells #[.int .i64 t.s, .int .i64 t.o, .int .i64 t.a] 70 (0, 0))
theorem Bx.kept {x : Nat} {t : Tr} (h : Bx x t w) (hc : Ca B c g n v b s w) (k : Turn (Own c g n b) w w') : Bx x t w' := ⟨(k.block x (lt_of_heap h.hx) (hc.not h.hx (by decide))).trans h.hx⟩
theorem Bx.below {x : Nat} {t : Tr} (h : Bx x t w) (k : Below w.heap.size w w') : Bx x t w' := ⟨(k.block x (lt_of_heap h.hx)).trans h.hx⟩
theorem Bx.x0 {x : Nat} {t : Tr} (h : Bx x t w) : w.cell? ⟨x, 0, none⟩ = some (.int .i64 t.s) := by rw [Lib.cell_of_heap h.hx]; rfl
theorem Bx.x1 {x : Nat} {t : Tr} (h : Bx x t w) : w.cell? ⟨x, 1, none⟩ = some (.int .i64 t.o) := by rw [Lib.cell_of_heap h.hx]; rfl
theorem Bx.x2 {x : Nat} {t : Tr} (h : Bx x t w) : w.cell? ⟨x, 2, none⟩ = some (.int .i64 t.a) := by rw [Lib.cell_of_heap h.hx]; rfl
/-- the last step of a Put: the place is written -/
theorem Ca.last (h : Ca B c g n v b s w) {i j : Nat} (hi : i < n) (hj : j < v) (t : Tr) (tag : Int) (al : Bool) : ∃ w3, w3 = w.setCells (b i) (j * 7) [.bool true, .int .i64 t.s, .int .i64 t.o, .int .i64 t.a, .int .i64 tag, .bool al, .bool false] ∧ w.there (b i) (j * 7) 7 ∧ Ca B c g n v b ⟨fup2 s.f i j (some ⟨t, tag, al, false⟩), s.h, s.hi, s.mi, s.ev⟩ w3 ∧ Turn (Own c g n b) w w3 :=
  ⟨_, rfl, h.there hi hj, h.pall hi hj (some ⟨t, tag, al, false⟩)⟩
set_option maxRecDepth 100000 in
set_option maxHeartbeats 2000000 in
theorem put_any (tag : Int) (t : Tr) (al : Bool) (h : Ca B c g n v b s w) (h1 : s.ev < 4000000000000000000) : Calls Try.prog 18 #[.pointer (some ⟨c, 0, none⟩), .int .i64 tag, .int .i64 t.s, .int .i64 t.o, .int .i64 t.a, .bool al] w fun e w' => e = .returned (.tuple #[]) ∧ Ca B c g n v b (pta n v s tag t al) w' ∧ Turn (Own c g n b) w w' := by
  obtain ⟨w0, hw0⟩ : ∃ w0, w0 = w.alloc (.cells #[.int .i64 t.s, .int .i64 t.o, .int .i64 t.a] 70) := ⟨_, rfl⟩
  have hb0 : Below w.heap.size w w0 := by rw [hw0]; exact (Below.refl _ _).alloc (Nat.le_refl _) _
  obtain ⟨x, hx⟩ : ∃ x, x = w.heap.size := ⟨_, rfl⟩
  have hbx : Bx x t w0 := ⟨by rw [hw0, hx]; exact heap_alloc_new _ _⟩
  have h0 := h.below hb0
  have T0 : Turn (Own c g n b) w w0 := turn_below hb0
  have HS := hide' (setOf_any t h0)
  have hi : spt n t < n := spt_lt h.n1 t
  have HF : Hid (∀ k, Calls Try.prog 30 #[.pointer (some ⟨g, spt n t * 2, none⟩), .agg #[.int .i64 t.s, .int .i64 t.o, .int .i64 t.a]] (w0.drewN k) fun e w' => e = .returned (pat (b (spt n t)) (fst (has (s.f (spt n t)) t) v)) ∧ Ca B c g n v b s w' ∧ Turn (Own c g n b) w w' ∧ Bx x t w') := hide' (fun k => (find_any t hi (h0.drewN k)).mono fun e w' ⟨he, hb⟩ => ⟨he, (h0.drewN k).below hb, (T0.drewN k).trans (turn_below hb), (hbx.below (below_drewN w0 k)).below hb⟩)
  have HX0 : Hid (∀ k, (w0.drewN k).cell? ⟨x, 0, none⟩ = some (.int .i64 t.s) ∧ (w0.drewN k).cell? ⟨x, 1, none⟩ = some (.int .i64 t.o) ∧ (w0.drewN k).cell? ⟨x, 2, none⟩ = some (.int .i64 t.a)) := hide' (fun k => ⟨hbx.x0, hbx.x1, hbx.x2⟩)
  have W1 := hide' (wsucN s.ev (by omega))
  have hv2 := h.v2
  have hhv := h.hh _ hi
  have Hi := hide' (And.intro hi hhv)
  have Hx := hide' hx
  have Hw0 := hide' hw0
  clear h h1 hi hv2 hhv hx hw0 hbx h0 hb0 T0
  obtain ⟨G, hG⟩ : ∃ G, G = pta n v s tag t al := ⟨_, rfl⟩
  rw [← hG]
  have HG := hide' hG
  clear hG
  go_enter Try.func18, Try.ntmps18
  go_wp2_with fail
  rw [← Hx.out, ← Hw0.out]
  clear Hx Hw0
  refine HS.out.mono ?_
  rintro e w1 ⟨rfl, k, hk⟩
  have HF' := HF.out k
  obtain ⟨x0, x1, x2⟩ := HX0.out k
  rw [← hk] at HF' x0 x1 x2
  have HF1 := hide' HF'
  clear HS HF HF' hk HX0
  go_wp2_with fail
  refine HF1.out.mono ?_
  rintro e w2 ⟨rfl, h2, t2, bx2⟩
  have H2 := hide' (And.intro h2 (And.intro t2 bx2))
  clear h2 t2 bx2 HF1 x0 x1 x2
  unfold pat
  cases hf : fst (has (s.f (spt n t)) t) v with
  | some j =>
    obtain ⟨hj, hh, _⟩ := fst_some hf
    obtain ⟨d, hd, _⟩ := has_true hh
    have HR := hide' (HG.out.trans (pta_same hf hd))
    have p4 := H2.out.1.pc Hi.out.1 hj (k := 4) (by omega)
    rw [hd, pv4] at p4
    have f4 := H2.out.1.fb Hi.out.1 (j * 7 + 4)
    have HE := H2.out.1.pset Hi.out.1 hj (k := 4) (by omega) (some ⟨d.t, tag, d.al, d.mr⟩) (.int .i64 tag) (fun q hq => by
        rw [hd]
        have : q = 0 ∨ q = 1 ∨ q = 2 ∨ q = 3 ∨ q = 4 ∨ q = 5 ∨ q = 6 := by omega
        rcases this with rfl | rfl | rfl | rfl | rfl | rfl | rfl <;> rfl)
    have e5 : (⟨fup2 s.f (spt n t) j (some ⟨d.t, tag, d.al, d.mr⟩), s.h, s.hi, s.mi, s.ev⟩ : St).f (spt n t) j = some ⟨d.t, tag, d.al, d.mr⟩ := by
      show fup2 s.f (spt n t) j (some ⟨d.t, tag, d.al, d.mr⟩) (spt n t) j = _
      unfold fup2
      rw [fup_self, fup_self]
    have p5 := HE.1.pc Hi.out.1 hj (k := 5) (by omega)
    rw [e5] at p5
    replace p5 : (w2.setCell ⟨b (spt n t), j * 7 + 4, none⟩ (.int .i64 tag)).cell? ⟨b (spt n t), j * 7 + 5, none⟩ = some (.bool d.al) := p5
    have f5 := HE.1.fb Hi.out.1 (j * 7 + 5)
    have HE2 := HE.1.pset Hi.out.1 hj (k := 5) (by omega) (some ⟨d.t, tag, al, d.mr⟩) (.bool al) (fun q hq => by
        rw [e5]
        have : q = 0 ∨ q = 1 ∨ q = 2 ∨ q = 3 ∨ q = 4 ∨ q = 5 ∨ q = 6 := by omega
        rcases this with rfl | rfl | rfl | rfl | rfl | rfl | rfl <;> rfl)
    have e6 : fup2 (fup2 s.f (spt n t) j (some ⟨d.t, tag, d.al, d.mr⟩)) (spt n t) j (some ⟨d.t, tag, al, d.mr⟩) = fup2 s.f (spt n t) j (some ⟨d.t, tag, al, d.mr⟩) := by
      unfold fup2
      rw [fup_self, fup_fup, fup_fup]
    simp only [e6] at HE2
    have HE3 := hide' HE2
    have HT := hide' (H2.out.2.1.trans HE.2)
    clear hf H2 HE HE2 hd hh hj HG e5 e6
    simp only [Option.map_some]
    generalize b (spt n t) = bb at *
    generalize d.tag = tg at *
    generalize d.al = al0 at *
    go_wp2
    refine bodyPost_ret (results_none rfl _ _ _) rfl ?_
    rw [HR.out]
    exact ⟨rfl, HE3.out.1, HT.out.trans HE3.out.2⟩
  | none =>
    simp only [Option.map_none]
    have HC := hide' (room_any Hi.out.1 H2.out.1)
    go_wp2_with fail
    refine HC.out.mono ?_
    rintro e wa ⟨rfl, hwa⟩
    replace hwa := hwa.symm
    subst hwa
    clear HC
    unfold pat
    cases hr : fst (fre (s.f (spt n t))) v with
    | some j =>
      obtain ⟨hj, _, _⟩ := fst_some hr
      have HR := hide' (HG.out.trans (pta_room hf hr))
      have x0 := H2.out.2.2.x0
      have x1 := H2.out.2.2.x1
      have x2 := H2.out.2.2.x2
      obtain ⟨w3, hw3, Hth, h3, t3⟩ := H2.out.1.last Hi.out.1 hj t tag al
      have HW3 := hide' hw3
      have Hth' := hide' Hth
      have H3 := hide' (And.intro h3 (H2.out.2.1.trans t3))
      clear hf hr H2 hw3 Hth h3 t3 hj HG
      simp only [Option.map_some]
      generalize b (spt n t) = bb at *
      go_wp2_with (with_reducible refine stay_store 76 _ _ rfl ?_)
      unfold Stay
      refine wpList_store_mid rfl 76 _ _ rfl bb (j * 7) #[.bool true, .int .i64 t.s, .int .i64 t.o, .int .i64 t.a, .int .i64 tag, .bool al, .bool false] rfl rfl Hth'.out (by kernel_rfl) (by simp [Value.oneCell']) ?_
      show wpList _ _ _ _ _ (w2.setCells bb (j * 7) [.bool true, .int .i64 t.s, .int .i64 t.o, .int .i64 t.a, .int .i64 tag, .bool al, .bool false])
      rw [← HW3.out]
      go_wp2
      go_end0
      rw [HR.out]
      exact ⟨rfl, H3.out.1, H3.out.2⟩
    | none =>
      have HR := hide' (HG.out.trans (pta_turn hf hr))
      have HC := hide' (turn_any Hi.out.1 H2.out.1)
      have Hk := hide' (trn_lt v (s.f (spt n t)) _ Hi.out.2)
      clear hf hr HG
      simp only [Option.map_none]
      generalize trn v (s.f (spt n t)) (s.h (spt n t)) v = R at *
      go_wp2_with fail
      refine HC.out.mono ?_
      rintro e w3 ⟨rfl, h3, t3⟩
      have c3 := h3.c3
      have f3 := h3.fc 3
      have bx3 := H2.out.2.2.kept H2.out.1 t3
      have h4 := h3.cset ⟨(sf s (spt n t) R.1 (nx v R.2)).f, (sf s (spt n t) R.1 (nx v R.2)).h, s.hi, s.mi, s.ev + 1⟩ rfl rfl 3 (.int .i64 ((s.ev + 1 : Nat) : Int)) rfl
      have bx4 := bx3.kept h3 h4.2
      replace c3 : w3.cell? ⟨c, 3, none⟩ = some (.int .i64 (s.ev : Nat)) := c3
      have x0 := bx3.x0
      have x1 := bx3.x1
      have x2 := bx3.x2
      have ne : x ≠ c := fun e => h3.not bx3.hx (by decide) (.inl e)
      obtain ⟨w4, hw4⟩ : ∃ w4, w4 = w3.setCell ⟨c, 3, none⟩ (.int .i64 ((s.ev + 1 : Nat) : Int)) := ⟨_, rfl⟩
      rw [← hw4] at h4
      obtain ⟨w5, hw5, Hth, h5, t5⟩ := h4.1.last Hi.out.1 Hk.out t tag al
      have HW4 := hide' hw4
      have HW5 := hide' hw5
      have Hth' := hide' Hth
      have H5 := hide' (And.intro h5 (((H2.out.2.1.trans t3).trans h4.2).trans t5))
      clear H2 HC h3 t3 h4 bx3 bx4 hw4 hw5 h5 t5 Hth
      generalize hbb : b (spt n t) = bb at *
      clear hbb
      go_wp2_with (with_reducible refine stay_store 76 _ _ rfl ?_)
      unfold Stay
      rw [W1.out, ← HW4.out]
      refine wpList_store_mid rfl 76 _ _ rfl bb (R.2 * 7) #[.bool true, .int .i64 t.s, .int .i64 t.o, .int .i64 t.a, .int .i64 tag, .bool al, .bool false] rfl rfl Hth'.out (by kernel_rfl) (by simp [Value.oneCell']) ?_
      show wpList _ _ _ _ _ (w4.setCells bb (R.2 * 7) [.bool true, .int .i64 t.s, .int .i64 t.o, .int .i64 t.a, .int .i64 tag, .bool al, .bool false])
      rw [← HW5.out]
      go_wp2
      go_end0
      rw [HR.out]
      exact ⟨rfl, H5.out.1, H5.out.2⟩
end C
end Go.Proofs.Ytjmkofdnlhfaiaa
