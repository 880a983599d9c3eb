import Derived.Test.YtaoglenfbbaliaaRgP
import Derived.Test.YtaoglenfbbaliaaFiA
import Derived.Test.YtaoglenfbbaliaaAv
import Derived.Test.YtaoglenfbbaliaaApW
import Derived.Test.YtaoglenfbbaliaaTuP
import Derived.Test.YtaoglenfbbaliaaTwn
set_option linter.unusedVariables false
set_option linter.unusedSimpArgs false
namespace Go.Proofs.Ytaoglenfbbaliaa
open Go.RowKit
attribute [local go_sem] Oper.semAt_some
namespace X
open C F A
/-- the blocks of a row of lists -/
def MB (vs : List Rw) (oo : Option Addr) (j : Nat) : Prop := At oo j ∨ ∃ (i : Nat) (r : Rw), vs[i]? = some r ∧ At r.ao j
theorem Mo.lt {B : Nat} {zs : List Int} {vs : List Rw} {oo : Option Addr} {oc : Nat} {w : World} (h : Mo B zs vs oo oc w) {j : Nat} (hj : MB vs oo j) : B ≤ j ∧ j < w.heap.size := by
  rcases hj with hj | ⟨i, r, hr, hj⟩
  · obtain ⟨h1, _, cs, q, h2⟩ := row_kind h.row hj
    exact ⟨h1, lt_of_heap h2⟩
  · obtain ⟨l, _, _, g⟩ := h.ls i r hr
    exact g.at hj
theorem Mo.kept {B : Nat} {zs : List Int} {vs : List Rw} {oo : Option Addr} {oc : Nat} {w w' : World} {S : Nat → Prop} (h : Mo B zs vs oo oc w) (t : Turn S w w') (hn : ∀ j, MB vs oo j → ¬ S j) : Mo B zs vs oo oc w' :=
  ⟨t.row h.row (fun j hj => hn j (.inl (own_at hj))), fun i r hr => by
    obtain ⟨l, h1, h2, h3⟩ := h.ls i r hr
    exact ⟨l, h1, h2, h3.kept t (fun j hj => hn j (.inr ⟨i, r, hr, hj⟩))⟩⟩
/-- what the law holds ahead of the ranges -/
structure Ms (w : World) (zs : List Int) (vs : List Rw) (oo : Option Addr) (oc b5 g tc cb : Nat) (ca : Option Addr) (cc : Nat) (X : World) : Prop where
  mo : Mo w.heap.size zs vs oo oc X
  bel : Below w.heap.size w X
  h5 : X.heap[b5]? = some (.cells #[.slice oo vs.length oc] 31 (0, 0))
  tw : ∃ ys : List Int, zs.length ≤ ys.length ∧ X.ownsRow w.heap.size 3 1 (.slice (some ⟨g, 0, none⟩) ys.length tc) ys.length (ivs ys)
  bx : Bx cb ca cc zs X
  n1 : ∀ j, MB vs oo j → j ≠ g
  n2 : b5 ≠ g
  n3 : ∀ j, BM cb ca zs j → j ≠ g
  n4 : ∀ j, BM cb ca zs j → ¬ MB vs oo j ∧ j ≠ b5
  n5 : w.heap.size ≤ g
theorem Ms.below {w : World} {zs : List Int} {vs : List Rw} {oo : Option Addr} {oc b5 g tc cb : Nat} {ca : Option Addr} {cc : Nat} {X X' : World} (h : Ms w zs vs oo oc b5 g tc cb ca cc X) (b : Below X.heap.size X X') : Ms w zs vs oo oc b5 g tc cb ca cc X' := by
  obtain ⟨ys, h1, h2⟩ := h.tw
  exact ⟨h.mo.below b, h.bel.trans (b.mono h.bel.size), (b.block b5 (lt_of_heap h.h5)).trans h.h5, ⟨ys, h1, (turn_below (S := fun _ => False) b).row h2 (fun _ _ q => q)⟩, h.bx.same b.size (fun j hj => b.block j (h.bx.lt hj)), h.n1, h.n2, h.n3, h.n4, h.n5⟩
theorem Ms.put {w : World} {zs : List Int} {vs : List Rw} {oo : Option Addr} {oc b5 g tc cb : Nat} {ca : Option Addr} {cc : Nat} {X : World} (h : Ms w zs vs oo oc b5 g tc cb ca cc X) {k : Nat} (hk : k < zs.length) : ∃ v, X.cell? ⟨g, k, none⟩ = some v ∧ X.frozen? ⟨g, k, none⟩ = false ∧ Ms w zs vs oo oc b5 g tc cb ca cc (X.setCell ⟨g, k, none⟩ (.int .i64 1)) := by
  obtain ⟨ys, h1, h2⟩ := h.tw
  obtain ⟨jl, jf, _, _⟩ := row_int h2 (k := k) (by omega)
  have t : Turn (fun j => j = g) X (X.setCell ⟨g, k, none⟩ (.int .i64 1)) := (Turn.refl (fun j => j = g) X).setCell (p := ⟨g, k, none⟩) (fun _ => rfl) _
  refine ⟨_, jl, jf, h.mo.kept t h.n1, h.bel.trans (t.below (fun j hj => by rw [hj]; exact h.n5) h.bel.size), (t.block b5 (lt_of_heap h.h5) h.n2).trans h.h5, ⟨ys.set k 1, by rw [List.length_set]; exact h1, by rw [List.length_set]; exact row_put h2 1⟩, h.bx.same t.size (fun j hj => t.block j (h.bx.lt hj) (h.n3 j hj)), h.n1, h.n2, h.n3, h.n4, h.n5⟩
theorem Ms.turn {w : World} {zs : List Int} {vs : List Rw} {oo : Option Addr} {oc b5 g tc cb : Nat} {ca : Option Addr} {cc : Nat} {X X' : World} {S : Nat → Prop} (h : Ms w zs vs oo oc b5 g tc cb ca cc X) (t : Turn S X X') (m1 : ∀ j, MB vs oo j → ¬ S j) (m2 : ¬ S b5) (m3 : ¬ S g) (m4 : ∀ j, BM cb ca zs j → ¬ S j) (m5 : ∀ j, S j → w.heap.size ≤ j) : Ms w zs vs oo oc b5 g tc cb ca cc X' := by
  obtain ⟨ys, h1, h2⟩ := h.tw
  exact ⟨h.mo.kept t m1, h.bel.trans (t.below m5 h.bel.size), (t.block b5 (lt_of_heap h.h5) m2).trans h.h5, ⟨ys, h1, t.row h2 (fun j hj q => by
    have : g = j := by simpa [Value.ownBlock] using hj
    rw [← this] at q
    exact m3 q)⟩, h.bx.same t.size (fun j hj => t.block j (h.bx.lt hj) (m4 j hj)), h.n1, h.n2, h.n3, h.n4, h.n5⟩
theorem Ms.gl {w : World} {zs : List Int} {vs : List Rw} {oo : Option Addr} {oc b5 g tc cb : Nat} {ca : Option Addr} {cc : Nat} {X : World} (h : Ms w zs vs oo oc b5 g tc cb ca cc X) : g < X.heap.size := by
  obtain ⟨ys, h1, h2⟩ := h.tw
  rcases h2.2 with ⟨hv, _⟩ | ⟨g', cap, cur, hv, _, hg, _⟩
  · cases hv
  · simp only [Value.slice.injEq, Option.some.injEq] at hv
    obtain ⟨q, _, _⟩ := hv
    cases q
    exact lt_of_heap hg
/-- what the law holds behind the first range -/
structure Md (w : World) (zs : List Int) (vs : List Rw) (oo : Option Addr) (oc b5 g tc cb : Nat) (ca : Option Addr) (cc : Nat) (V : World) (b10 : Nat) (gs : List Rw) (go : Option Addr) (gc : Nat) (X : World) : Prop where
  ms : Ms w zs vs oo oc b5 g tc cb ca cc X
  gi : Gi V b10 zs vs.length gs go gc (fun _ => False) X
  df : X.heap[V.heap.size]? = some (.deferred (some []))
  msV : Ms w zs vs oo oc b5 g tc cb ca cc V
theorem lsd_mono {B B' : Nat} {zs : List Int} {us : List Rw} {w : World} (h : Lsd B zs us w) (hB : B' ≤ B) : Lsd B' zs us w := fun i r hr => by
  obtain ⟨l, h1, h2, h3⟩ := h i r hr
  exact ⟨l, h1, h2, h3.mono hB⟩
theorem row_mono {B B' e n cap : Nat} {ao : Option Addr} {xs : List Value} {w : World} (h : w.ownsRow B e 1 (.slice ao n cap) n xs) (hB : B' ≤ B) : w.ownsRow B' e 1 (.slice ao n cap) n xs := by
  refine ⟨h.1, ?_⟩
  rcases h.2 with h2 | ⟨g, cap, cur, hv, hb, rest⟩
  · exact .inl h2
  · exact .inr ⟨g, cap, cur, hv, by omega, rest⟩
theorem fi_mk {w : World} {zs : List Int} {vs : List Rw} {oo : Option Addr} {oc b5 g tc cb : Nat} {ca : Option Addr} {cc : Nat} {V : World} {b10 : Nat} {gs : List Rw} {go : Option Addr} {gc : Nat} {X V2 X2 X3 : World} {b12 b13 N : Nat} {gs2 : List Rw} {go2 : Option Addr} {gc2 : Nat}
    (md : Md w zs vs oo oc b5 g tc cb ca cc V b10 gs go gc X) (h12l : X.heap.size ≤ b12 ∧ b12 < V2.heap.size) (h13l : X.heap.size ≤ b13 ∧ b13 < V2.heap.size ∧ b12 ≠ b13) (bV : Below X.heap.size X V2) (g2 : Gi V2 b13 zs N gs2 go2 gc2 (fun _ => False) X2) (t3 : Turn (fun j => j = b12) X2 X3) (h12 : X3.heap[b12]? = some (.cells #[.int .i64 (N : Int)] 3 (0, 0))) (hN : N ≤ vs.length) (hv : vs.length ≤ 40) (hd2 : X2.heap[V2.heap.size]? = some (.deferred (some []))) :
    Fi w zs vs gs gs2 oo go2 oc gc2 b5 b12 b13 N 0 0 go gc oo oc X3 ∧ X3.heap[V.heap.size]? = some (.deferred (some [])) ∧ X3.heap[V2.heap.size]? = some (.deferred (some [])) := by
  have z1 := md.gi.t.size
  have z2 := bV.size
  have z3 := g2.t.size
  have z4 := t3.size
  have z0 := md.ms.bel.size
  have z00 := md.msV.bel.size
  have bX2 : Below X.heap.size X X2 := bV.trans (g2.t.below (fun j e => by rw [e]; exact h13l.1) z2)
  have bX3 : Below X.heap.size X X3 := bX2.trans (t3.below (fun j e => by rw [e]; exact h12l.1) bX2.size)
  have ms3 := md.ms.below bX3
  have hgoL : ∀ j, At go j → V.heap.size ≤ j ∧ j < X.heap.size := fun j hj => ⟨(row_kind md.gi.row hj).1, row_lt md.gi.row hj⟩
  have hgo2L : ∀ j, At go2 j → V2.heap.size ≤ j ∧ j < X2.heap.size := fun j hj => ⟨(row_kind g2.row hj).1, row_lt g2.row hj⟩
  have hooL : ∀ j, At oo j → j < V.heap.size := fun j hj => (md.msV.mo.lt (.inl hj)).2
  have r2 : X3.ownsRow V2.heap.size 23 1 (.slice go2 gs2.length gc2) gs2.length (gs2.map Rw.v) := t3.row g2.row (fun j hj e => by have := (hgo2L j (own_at hj)).1; omega)
  have r1 : X3.ownsRow V.heap.size 23 1 (.slice go gs.length gc) gs.length (gs.map Rw.v) := (turn_below (S := fun _ => False) bX3).row md.gi.row (fun _ _ q => q)
  have hb5l := lt_of_heap md.msV.h5
  refine ⟨⟨ms3.bel, ms3.h5, h12, (t3.block b13 (lt_of_heap g2.hb) (fun e => h13l.2.2 e.symm)).trans g2.hb, ?_, ?_, ?_, ?_, ?_, ?_, ms3.mo.ls, ?_, ?_, md.gi.kl, g2.kl, ⟨hN, hv⟩, ⟨Nat.zero_le _, Nat.zero_le _⟩, ?_, ?_, ?_, ?_⟩, (bX3.block _ (lt_of_heap md.df)).trans md.df, (t3.block _ (lt_of_heap hd2) (by omega)).trans hd2⟩
  · rw [Nat.add_zero, List.take_zero, List.append_nil, ← md.gi.kl]; exact row_mono r1 z00
  · rw [Nat.add_zero, List.take_zero, List.append_nil]; exact ms3.mo.row
  · exact Cs.of (us := []) (by rw [List.append_nil]) (by rw [List.append_nil]; exact ms3.mo.row)
  · exact Cs.of (us := []) (by rw [List.append_nil]) (by rw [List.append_nil]; exact r2)
  · exact lsd_mono (fun i r hr => by
      obtain ⟨l, q1, q2, q3⟩ := md.gi.ls i r hr
      exact ⟨l, q1, q2, q3.below bX3⟩) z00
  · exact lsd_mono (B := V2.heap.size) (fun i r hr => by
      obtain ⟨l, q1, q2, q3⟩ := g2.ls i r hr
      exact ⟨l, q1, q2, q3.kept t3 (fun j hj e => by have := (q3.at hj).1; omega)⟩) (by omega)
  · intro i j r s hr hs hij b hb1 hb2
    have k1 : ∀ {i : Nat} {r : Rw}, gs[i]? = some r → At r.ao b → b < X.heap.size := fun hr hb => (md.gi.gr hr hb).2.1
    have k2 : ∀ {i : Nat} {r : Rw}, gs2[i]? = some r → At r.ao b → V2.heap.size ≤ b := fun hr hb => (g2.gr hr hb).1
    rcases app_at hr with ⟨h1, h2⟩ | ⟨h1, h2⟩ <;> rcases app_at hs with ⟨h3, h4⟩ | ⟨h3, h4⟩
    · exact md.gi.dj i j r s h2 h4 hij b hb1 hb2
    · have := k1 h2 hb1; have := k2 h4 hb2; omega
    · have := k2 h2 hb1; have := k1 h4 hb2; omega
    · exact g2.dj _ _ r s h2 h4 (by omega) b hb1 hb2
  · intro r hr s hs b hb1 hb2
    obtain ⟨i, hi⟩ := List.getElem?_of_mem hr
    have e1 := (md.msV.mo.lt (.inr ⟨i, r, hi, hb1⟩)).2
    obtain ⟨j, hj⟩ := List.getElem?_of_mem hs
    rcases app_at hj with ⟨_, h2⟩ | ⟨_, h2⟩
    · have := (md.gi.gr h2 hb2).1; omega
    · have := (g2.gr h2 hb2).1; omega
  · intro j hj
    have e1 := hgoL j hj
    exact ⟨fun q => by have := hooL j q; omega, fun q => by have := hgo2L j q; omega, fun q => by have := hooL j q; omega⟩
  · intro j hj q
    have := hooL j hj
    have := hgo2L j q
    omega
  · intro j hj; have := hooL j hj; omega
  · intro j hj; have := hgo2L j hj; omega
set_option maxRecDepth 100000 in
set_option maxHeartbeats 8000000 in
theorem mixes_walk (a : Option Addr) (c : Nat) (zs : List Int) (left : Int) (w : World) (hI : Ints w a zs) (hn : a = none → c = 0) (hl : zs.length ≤ 17592186043904) (hm : mxb zs = true) : Calls Try.prog 8 #[.slice a zs.length c, .int .i64 left] w fun e w' => e = .returned (.bool true) ∧ Below w.heap.size w w' := by
  refine (callsIn_wide (n := 1)).1 ?_
  refine callsIn_of_wp_marks Try.func8 rfl trivial ?_ rfl
  refine wpIn_wide.2 ?_
  simp only [Try.ntmps8, List.size_toArray, List.length_cons, List.length_nil, Nat.reduceAdd, Nat.reduceSub, Array.replicate_succ, Array.replicate_zero, List.push_toArray, List.append_toArray, List.nil_append, List.cons_append]
  have HI := hide' (fun w' (b : Below w.heap.size w w') => hI.below b)
  have HL := hide' (And.intro hl hn)
  have HM := hide' (And.intro hm (mxb_of hm))
  have CM := hide' (rmixes_any a c zs w hI (by omega))
  clear hI hn hl hm
  go_wp2_with fail
  refine CM.out.mono ?_
  rintro e w1 ⟨vs, oo, oc, b, rfl, hb1, hMo, hv40, hx⟩
  have HW : Hid (Want zs vs.length b) := hide' (by
    rcases hx with ⟨q, _⟩ | ⟨_, ⟨rfl, hf⟩ | ⟨rfl, hf⟩⟩
    · rw [HM.out.1] at q; cases q
    · exact .inl ⟨rfl, hf⟩
    · refine .inr ⟨rfl, hf, ?_⟩
      obtain ⟨r, hr⟩ : ∃ r, vs[39]? = some r := ⟨_, List.getElem?_eq_getElem (by omega)⟩
      obtain ⟨l, h1, _⟩ := hMo.ls 39 r hr
      exact ⟨l, h1⟩)
  obtain ⟨wa, hwa⟩ : ∃ wa, wa = w1.alloc (.cells #[.slice oo vs.length oc] 31) := ⟨_, rfl⟩
  have hba : Below w1.heap.size w1 wa := by rw [hwa]; exact (Below.refl _ _).alloc (Nat.le_refl _) _
  obtain ⟨b5, hb5⟩ : ∃ b5, b5 = w1.heap.size := ⟨_, rfl⟩
  have hx5 : wa.heap[b5]? = some (.cells #[.slice oo vs.length oc] 31 (0, 0)) := by rw [hwa, hb5]; exact heap_alloc_new _ _
  have KA : Hid (Mo w.heap.size zs vs oo oc wa ∧ Below w.heap.size w wa ∧ wa.heap[b5]? = some (.cells #[.slice oo vs.length oc] 31 (0, 0)) ∧ vs.length ≤ 40) := hide' ⟨hMo.below hba, hb1.trans (hba.mono hb1.size), hx5, hv40⟩
  have CT := hide' (twin_any a c zs wa (HI.out _ KA.out.2.1) HL.out.2 HL.out.1)
  have Hwa := hide' hwa
  have Hb5 := hide' hb5
  clear CM hb1 hMo hv40 hx hba hx5 hwa hb5
  go_wp2_with fail
  rw [← Hb5.out, ← Hwa.out]
  refine CT.out.mono ?_
  rintro e w2 ⟨g, tc, rfl, hT, hb2⟩
  have KT := hide' (And.intro hT hb2)
  clear CT hT hb2
  have CX := hide' (mixes_any (some ⟨g, 0, none⟩) tc zs w2 KT.out.1.ints HM.out.1)
  go_wp2_with fail
  refine CX.out.mono ?_
  rintro e w3 ⟨cb, ca, cc, rfl, hbx, hb3, hM3⟩
  have KX := hide' (And.intro hbx (And.intro hb3 hM3))
  have CK := hide' (kept_any a c zs w3 (KT.out.1.kept (turn_below (S := fun _ => False) hb3) (fun q => q)) (HI.out _ ((KA.out.2.1.trans (KT.out.2.mono KA.out.2.1.size)).trans (hb3.mono (Nat.le_trans KA.out.2.1.size KT.out.2.size)))) HL.out.1)
  have heq := eq_func (.func 53) #[] #[.pointer (some ⟨cb, 0, none⟩)]
  clear CX hbx hb3 hM3
  go_wp2_with fail
  refine CK.out.mono ?_
  rintro e w4 ⟨rfl, m4, hw4⟩
  have b4 : Below w3.heap.size w3 w4 := by rw [hw4]; exact ⟨rfl, rfl, rfl, Nat.le_refl _, fun _ _ => rfl⟩
  have KM : Hid (Ms w zs vs oo oc b5 g tc cb ca cc w4) := hide' (by
    have e1 := KA.out.2.1.size
    have e2 := KT.out.2.size
    have bA := KT.out.2.trans (KX.out.2.1.mono e2)
    have hMA : ∀ j, MB vs oo j → j < wa.heap.size := fun j hj => (KA.out.1.lt hj).2
    have hgb := KT.out.1.blk
    have h5l := lt_of_heap KA.out.2.2.1
    refine Ms.below (X := w3) ⟨KA.out.1.below bA, KA.out.2.1.trans (bA.mono e1), (bA.block b5 h5l).trans KA.out.2.2.1, ⟨F.mk zs 24, by rw [mk_len]; omega, ?_⟩, KX.out.1, fun j hj e => ?_, fun e => ?_, fun j hj e => ?_, fun j hj => ⟨fun q => ?_, fun e => ?_⟩, Nat.le_trans e1 hgb.1⟩ b4
    · have := (KT.out.1.below KX.out.2.1).row
      exact (Gr.mono ⟨this⟩ e1).row
    · have := hMA j hj; omega
    · omega
    · have := KX.out.2.2 j hj; omega
    · have := KX.out.2.2 j hj; have := hMA j q; omega
    · have := KX.out.2.2 j hj; omega)
  have hv40 := hide' KA.out.2.2.2
  clear hw4 b4 CK KA KT KX heq
  go_wp2_with fail
  go_loopw [9] (fun i wx => ∃ k : Nat, i = .int .i64 (k : Int) ∧ k ≤ zs.length ∧ Ms w zs vs oo oc b5 g tc cb ca cc wx) (fun i _ => zs.length - (intOf i).toNat)
  case atStart => exact ⟨0, rfl, Nat.zero_le _, KM.out⟩
  case round =>
    obtain ⟨k, rfl, hk, hMs⟩ := hrel
    by_cases hlt : k < zs.length
    · have hlt' : (k : Int) < (zs.length : Int) := by omega
      have e1 := hide' (wsucN k (by have := HL.out.1; omega))
      have Hend := hide' (msr' hlt _ rfl)
      have Hk := hide' hlt
      obtain ⟨v0, jl, jf, hM2⟩ := hMs.put hlt
      have K2 := hide' hM2
      clear hMs hM2 hk hlt
      go_wp2
      exact ⟨⟨k + 1, by first | rfl | (rw [e1.out]), Hk.out, K2.out⟩, by first | exact Hend.out | (rw [e1.out]; exact Hend.out)⟩
    · obtain rfl : k = zs.length := by omega
      obtain ⟨V, hV⟩ : ∃ V, V = wr.alloc (.cells #[.slice none 0 0] 31) := ⟨_, rfl⟩
      obtain ⟨b10, hb10⟩ : ∃ b, b = wr.heap.size := ⟨_, rfl⟩
      have bV : Below wr.heap.size wr V := by rw [hV]; exact (Below.refl _ _).alloc (Nat.le_refl _) _
      have HV : Hid (V.heap[b10]? = some (.cells #[.slice none 0 0] 31 (0, 0)) ∧ Ms w zs vs oo oc b5 g tc cb ca cc V ∧ ¬ BM cb ca zs b10 ∧ ¬ MB vs oo b10 ∧ b10 ≠ b5 ∧ w.heap.size ≤ b10) := hide' ⟨by rw [hV, hb10]; exact heap_alloc_new _ _, hMs.below bV, fun q => by have := hMs.bx.lt q; omega, fun q => by have := (hMs.mo.lt q).2; omega, fun e => by have := lt_of_heap hMs.h5; omega, by have := hMs.bel.size; omega⟩
      have hg10 : Hid (g ≠ b10) := hide' (by have := hMs.gl; omega)
      have SQ := hide' (mixes_seq HV.out.2.1.bx HM.out.2.1 HM.out.2.2)
      have HVV := hide' hV
      have HBB := hide' hb10
      clear hMs hk hlt bV hV hb10 KM
      go_wp2_with fail
      rw [← HBB.out, ← HVV.out]
      clear HVV HBB
      have hMb : Hid (∀ j, BM cb ca zs j → j < V.heap.size) := hide' (fun j q => HV.out.2.1.bx.lt q)
      refine (wpIn_wide (n := 1)).1 ?_
      refine range_g rfl (Nat.le_refl _) (gf := 53) (lb := #[.pointer (some ⟨cb, 0, none⟩)]) rfl trivial Try.call53 SQ.out (Nat.le_refl _) (fun j q => ⟨hMb.out j q, rfl⟩) (fun x => rfl)
        (fun M k X => (∃ gs go gc, Gi V b10 zs k gs go gc M X) ∧ (k ≤ vs.length ∧ k < 40 ∨ k = 0)) (fun c k X => c = .exit 2 ∧ (∃ gs go gc, Gi V b10 zs k gs go gc (fun _ => False) X) ∧ k = vs.length ∧ vs.length = 40)
        (fun M k x a' X => (∃ gs go gc, Gi V b10 zs k gs go gc M X) ∧ (k ≤ vs.length ∧ k < 40 ∨ k = 0) ∧ IsO zs (V.heap.size + 2) M k x X ∧ (∀ j, M j → j < X.heap.size) ∧ a' = { tmps := #[Value.slice a zs.length c, Value.int IntKind.i64 left, undef, undef, Value.bool false, Value.pointer (some { block := b5, off := 0 }), Value.bool b, Value.slice (some { block := g, off := 0 }) zs.length tc, Value.func (Fn.func 53) #[] #[Value.pointer (some { block := cb, off := 0 })], Value.int IntKind.i64 ↑zs.length, Value.pointer (some { block := b10, off := 0 }), Value.slice x.1 (sm zs) x.2, undef, undef, undef, undef, undef, undef, Value.tuple #[Value.slice oo vs.length oc, Value.bool b], Value.slice a zs.length c, Value.tuple #[Value.slice oo vs.length oc, Value.bool b], Value.slice oo vs.length oc, Value.bool b, Value.slice a zs.length c, Value.slice (some { block := g, off := 0 }) zs.length tc, Value.slice (some { block := g, off := 0 }) zs.length tc, Value.func (Fn.func 53) #[] #[Value.pointer (some { block := cb, off := 0 })], Value.func (Fn.func 53) #[] #[Value.pointer (some { block := cb, off := 0 })], Value.bool false, Value.bool false, Value.slice (some { block := g, off := 0 }) zs.length tc, Value.slice a zs.length c, Value.bool true, Value.bool false, Value.bool false, Value.int IntKind.i64 ↑zs.length, Value.slice (some { block := g, off := 0 }) zs.length tc, Value.int IntKind.i64 ↑zs.length, Value.bool false, u39, u40, u41, u42, u43, Value.func (Fn.func 53) #[] #[Value.pointer (some { block := cb, off := 0 })], Value.slice x.1 (sm zs) x.2, undef, undef, undef, undef, undef, undef, undef, undef, undef, undef, undef, undef, undef, undef, undef, undef, undef, undef, undef, undef, undef, undef, undef, undef, undef, undef, undef, undef, undef, undef, undef, undef, undef, undef, undef, undef, undef, undef, undef, undef, undef, undef, undef, undef, undef, undef, undef, undef, undef, undef, undef, undef, undef, undef, undef, undef, undef, undef, undef, undef, undef, undef, undef, undef, undef, undef, undef, undef, undef, undef, undef, undef, undef, undef], defers := [] })
        ?start ?stab ?stabx ?staba ?assign ?body ?done ?stop
      case start => exact ⟨⟨[], none, 0, Gi.start HV.out.1 HV.out.2.2.1⟩, .inr rfl⟩
      case stab => exact fun M M' k X1 X2 ⟨⟨gs, go, gc, h⟩, hk⟩ t hm => ⟨⟨gs, go, gc, h.qm t hm⟩, hk⟩
      case stabx => exact fun c k X1 X2 ⟨hc, ⟨gs, go, gc, h⟩, hk⟩ t => ⟨hc, ⟨gs, go, gc, h.qm (QM.of t) (fun j q => .inl q)⟩, hk⟩
      case staba =>
        rintro M k x a' X1 X2 ⟨⟨gs, go, gc, h⟩, hk, ⟨l, h1, h2, h3⟩, hm, ha⟩ t
        exact ⟨⟨gs, go, gc, h.qm (QM.of t) (fun j q => .inl q)⟩, hk, ⟨l, h1, row_qt h2 t, h3⟩, fun j q => Nat.lt_of_lt_of_le (hm j q) (Turn.size t), ha⟩
      case assign =>
        intro m l' M k x X1 K hx h hm hK
        have HKK := hide' hK
        have Hh := hide' (And.intro h (And.intro hx hm))
        clear hK h hm hx
        unfold encL
        gi_wp2
        exact HKK.out _ _ (Turn.refl _ X1) ⟨Hh.out.1.1, Hh.out.1.2, Hh.out.2.1, fun j q => (Hh.out.2.2 j q).1, rfl⟩
      case body =>
        rintro m l' M k ⟨ro, rc⟩ a' X1 ⟨⟨gs, go, gc, h⟩, hk, ⟨l, h1, h2, h3⟩, hm, rfl⟩
        have hll := chn_len h1
        have hk40 : k < 40 := by omega
        have hkl := h.kl
        have e10 : X1.cell? ⟨b10, 0, none⟩ = some (.slice go k gc) := by rw [Lib.cell_of_heap h.hb, hkl]; rfl
        have hrow : X1.ownsRow V.heap.size 23 1 (.slice go k gc) k (gs.map Rw.v) := by have := h.row; rw [hkl] at this; exact this
        have h2' : X1.ownsRow V.heap.size 3 1 (.slice ro l.length rc) l.length (ivs l) := by rw [hll]; exact (Gr.mono (B := V.heap.size + 2) (B' := V.heap.size) (l := l) ⟨by rw [hll]; exact h2⟩ (by omega)).row |> fun q => by rw [hll] at q; exact q
        have HR := hide' hrow
        have HH := hide' (And.intro h (And.intro h1 (And.intro h2' (And.intro h3 (And.intro hm (And.intro hk hll))))))
        have HB3 : Hid (V.heap.size ≤ X1.heap.size) := hide' h.t.size
        have Hk40 := hide' hk40
        obtain ⟨i0, hi, hz0, hz1, hz2⟩ := info_parts info23
        simp only at *
        clear h h1 h2 h2' h3 hm hk hrow hll hkl hk40
        gi_wp2_with (with_reducible refine stay_app _ _ 31 rfl ?_)
        unfold Stay
        refine appendIn _ rfl _ _ 31 rfl V.heap.size 23 i0 _ 1 24 Try.underlying31 hi hz0 hz1 hz2 rfl (by decide) (.slice go k gc) k (gs.map Rw.v) rfl (HR.out.alloc _) ⟨X1.heap.size, 0, none⟩ 1 1 [.slice ro (sm zs) rc] rfl rfl (one_new _ _ _) (by simp [Value.oneCell']) (by decide) (by have := Hk40.out; unfold maxLen; omega) (by have := Hk40.out; omega) (by have := HB3.out; simp; omega) ?_
        intro g' cap' X3 hrow3 hgrow3 hat3
        obtain ⟨h, h1, h2', h3, hm, hk, hll⟩ := HH.out
        have hkl := h.kl
        have P3 := h.add h1 h2' h3 (gg := g') (cc := cap') (X1 := X3) (by rw [hkl, hll]; exact hrow3) (by rw [hkl, hll]; exact hgrow3) (by rw [hkl]; rcases hat3 with q | q; exact .inl q; exact .inr (by rw [q]; simp)) hm
        rw [hkl] at P3
        have PP := hide' P3
        have f5 : X3.cell? ⟨b10, 0, none⟩ = some (.slice go k gc) := by rw [Lib.cell_of_heap P3.2.2.2]; rfl
        have f6 : X3.frozen? ⟨b10, 0, none⟩ = false := Lib.frozen_of_heap P3.2.2.2 0
        have HX5 : (X3.setCell ⟨b10, 0, none⟩ (.slice (some ⟨g', 0, none⟩) (k + 1) cap')).cell? ⟨b5, 0, none⟩ = some (.slice oo vs.length oc) := by
          have q := (P3.2.1.t.block b5 (lt_of_heap HV.out.2.1.h5) (fun e => HV.out.2.2.2.2.1 e.symm)).trans HV.out.2.1.h5
          rw [Lib.cell_of_heap q]; rfl
        have HX10 : (X3.setCell ⟨b10, 0, none⟩ (.slice (some ⟨g', 0, none⟩) (k + 1) cap')).cell? ⟨b10, 0, none⟩ = some (.slice (some ⟨g', 0, none⟩) (k + 1) cap') := by
          have q := P3.2.1.hb
          rw [List.length_append, hkl] at q
          rw [Lib.cell_of_heap q]; rfl
        have HC1 := hide' (And.intro h1 (And.intro hk hv40.out))
        clear P3 hrow3 hgrow3 hat3 h h1 h2' h3 hm hk hll hkl HH HR
        by_cases hx1 : ((k + 1 : Nat) : Int) > (vs.length : Int)
        · have hxx : ((k : Int) + 1) > (vs.length : Int) := hx1
          have HL2 := hide' (got_left HW.out HC1.out.1 (by have := HC1.out.2.1; omega) Hk40.out HC1.out.2.2 (.inl (by omega)))
          clear hx1
          gi_wp2
          exact ⟨PP.out.1, rfl, ⟨_, _, _, PP.out.2.1.sub (fun j q => q.elim)⟩, HL2.out.1, HL2.out.2⟩
        · have hxx : ¬ (((k : Int) + 1) > (vs.length : Int)) := hx1
          by_cases hx2 : k + 1 = 40
          · have hx2' : (((k : Int) + 1) == 40) = true := by simp; omega
            have HL2 := hide' (got_left HW.out HC1.out.1 (by have := HC1.out.2.1; omega) Hk40.out HC1.out.2.2 (.inr hx2))
            clear hx2 hx1
            gi_wp2
            exact ⟨PP.out.1, rfl, ⟨_, _, _, PP.out.2.1.sub (fun j q => q.elim)⟩, HL2.out.1, HL2.out.2⟩
          · have hx2' : (((k : Int) + 1) == 40) = false := by simp; omega
            have HZ := hide' (show k + 1 ≤ vs.length ∧ k + 1 < 40 by have := Hk40.out; omega)
            clear hx2 hx1
            gi_wp2
            exact ⟨PP.out.1, ⟨⟨_, _, _, PP.out.2.1⟩, .inl HZ.out⟩, PP.out.2.2.1⟩
      case done =>
        intro M k X hfin ⟨⟨gs, go, gc, hG0⟩, hk⟩ hD
        have hkW := got_end HW.out hfin hk
        have hG := hG0.sub (M' := fun _ => False) (fun j q => q.elim)
        rw [hkW] at hG
        clear hG0 hfin hk hkW
        have MD : Hid (Md w zs vs oo oc b5 g tc cb ca cc V b10 gs go gc X) := hide' ⟨HV.out.2.1.turn hG.t (fun j hj e => HV.out.2.2.2.1 (by rw [← e]; exact hj)) (fun e => HV.out.2.2.2.2.1 e.symm) (fun e => hg10.out e) (fun j hj e => HV.out.2.2.1 (by rw [← e]; exact hj)) (fun j e => by rw [e]; exact HV.out.2.2.2.2.2), hG, hD, HV.out.2.1⟩
        have CWh := hide' (which_any left 41 (by omega) (by omega) X)
        clear hG hD
        go_wp2_with fail
        refine CWh.out.mono ?_
        rintro e w5 ⟨n, rfl, hn41, hw5⟩
        obtain rfl := hw5.symm
        have Hn41 := hide' hn41
        clear hw5 CWh hn41
        obtain ⟨V2, hV2⟩ : ∃ V2, V2 = (X.alloc (.cells #[.int .i64 (n : Int)] 3)).alloc (.cells #[.slice none 0 0] 31) := ⟨_, rfl⟩
        obtain ⟨b12, hb12⟩ : ∃ b, b = X.heap.size := ⟨_, rfl⟩
        obtain ⟨b13, hb13⟩ : ∃ b, b = X.heap.size + 1 := ⟨_, rfl⟩
        have HV2 := hide' hV2
        have HB12 := hide' hb12
        have HB13 := hide' hb13
        go_wp2_with fail
        rw [← HB13.out, ← HB12.out, ← HV2.out]
        have hb2V : Below X.heap.size X V2 := by rw [hV2]; exact ((Below.refl _ _).alloc (Nat.le_refl _) _).alloc (by simp) _
        have HV2x : Hid (V2.heap[b13]? = some (.cells #[.slice none 0 0] 31 (0, 0)) ∧ V2.heap[b12]? = some (.cells #[.int .i64 (n : Int)] 3 (0, 0)) ∧ Ms w zs vs oo oc b5 g tc cb ca cc V2 ∧ Below X.heap.size X V2 ∧ ¬ BM cb ca zs b13 ∧ b12 ≠ b13) := hide' (by
          have q0 : (X.alloc (.cells #[.int .i64 (n : Int)] 3)).heap.size = X.heap.size + 1 := by simp
          refine ⟨?_, ?_, MD.out.ms.below hb2V, hb2V, fun q => by have := MD.out.ms.bx.lt q; omega, by omega⟩
          · rw [hV2, hb13, ← q0]; exact heap_alloc_new _ _
          · rw [hV2, hb12]; exact (Below.heap_alloc _ _ _ (by simp)).trans (heap_alloc_new _ _))
        have SQ2 := hide' (mixes_seq HV2x.out.2.2.1.bx HM.out.2.1 HM.out.2.2)
        have hMb2 : Hid (∀ j, BM cb ca zs j → j < V2.heap.size) := hide' (fun j q => HV2x.out.2.2.1.bx.lt q)
        have HBl : Hid ((X.heap.size ≤ b12 ∧ b12 < V2.heap.size) ∧ (X.heap.size ≤ b13 ∧ b13 < V2.heap.size ∧ b12 ≠ b13)) := hide' ⟨⟨by omega, lt_of_heap HV2x.out.2.1⟩, by omega, lt_of_heap HV2x.out.1, by omega⟩
        clear hb2V hV2 hb12 hb13 HV2 HB12 HB13
        refine (wpIn_wide (n := 1)).1 ?_
        refine range_g rfl (Nat.le_refl _) (gf := 53) (lb := #[.pointer (some ⟨cb, 0, none⟩)]) rfl trivial Try.call53 SQ2.out (Nat.le_refl _) (fun j q => ⟨hMb2.out j q, rfl⟩) (fun x => rfl)
          (fun M k X => (∃ gs go gc, Gi V2 b13 zs k gs go gc M X) ∧ k ≤ n) (fun c k X => c = .exit 4 ∧ (∃ gs go gc, Gi V2 b13 zs n gs go gc (fun _ => False) X) ∧ n ≤ vs.length)
          (fun M k x a' X => (∃ gs go gc, Gi V2 b13 zs k gs go gc M X) ∧ k ≤ n ∧ IsO zs (V2.heap.size + 2) M k x X ∧ (∀ j, M j → j < X.heap.size) ∧ a' = { tmps := #[Value.slice a zs.length c, Value.int IntKind.i64 left, undef, undef, Value.bool false, Value.pointer (some { block := b5, off := 0 }), Value.bool b, Value.slice (some { block := g, off := 0 }) zs.length tc, Value.func (Fn.func 53) #[] #[Value.pointer (some { block := cb, off := 0 })], Value.int IntKind.i64 ↑zs.length, Value.pointer (some { block := b10, off := 0 }), undef, Value.pointer (some { block := b12, off := 0 }), Value.pointer (some { block := b13, off := 0 }), Value.slice x.1 (sm zs) x.2, undef, undef, undef, Value.tuple #[Value.slice oo vs.length oc, Value.bool b], Value.slice a zs.length c, Value.tuple #[Value.slice oo vs.length oc, Value.bool b], Value.slice oo vs.length oc, Value.bool b, Value.slice a zs.length c, Value.slice (some { block := g, off := 0 }) zs.length tc, Value.slice (some { block := g, off := 0 }) zs.length tc, Value.func (Fn.func 53) #[] #[Value.pointer (some { block := cb, off := 0 })], Value.func (Fn.func 53) #[] #[Value.pointer (some { block := cb, off := 0 })], Value.bool false, Value.bool false, Value.slice (some { block := g, off := 0 }) zs.length tc, Value.slice a zs.length c, Value.bool true, Value.bool false, Value.bool false, Value.int IntKind.i64 ↑zs.length, Value.slice (some { block := g, off := 0 }) zs.length tc, Value.int IntKind.i64 ↑zs.length, Value.bool false, u39, u40, u41, u42, u43, Value.func (Fn.func 53) #[] #[Value.pointer (some { block := cb, off := 0 })], undef, undef, undef, undef, undef, undef, undef, undef, undef, undef, undef, undef, undef, undef, undef, Value.int IntKind.i64 left, Value.int IntKind.i64 ↑n, Value.func (Fn.func 53) #[] #[Value.pointer (some { block := cb, off := 0 })], Value.slice x.1 (sm zs) x.2, undef, undef, undef, undef, undef, undef, undef, undef, undef, undef, undef, undef, undef, undef, undef, undef, undef, undef, undef, undef, undef, undef, undef, undef, undef, undef, undef, undef, undef, undef, undef, undef, undef, undef, undef, undef, undef, undef, undef, undef, undef, undef, undef, undef, undef, undef, undef, undef, undef, undef, undef, undef, undef, undef, undef, undef], defers := [] })
          ?start2 ?stab2 ?stabx2 ?staba2 ?assign2 ?body2 ?done2 ?stop2
        case start2 => exact ⟨⟨[], none, 0, Gi.start HV2x.out.1 HV2x.out.2.2.2.2.1⟩, Nat.zero_le _⟩
        case stab2 => exact fun M M' k X1 X2 ⟨⟨gs, go, gc, h⟩, hk⟩ t hm => ⟨⟨gs, go, gc, h.qm t hm⟩, hk⟩
        case stabx2 => exact fun c k X1 X2 ⟨hc, ⟨gs, go, gc, h⟩, hk⟩ t => ⟨hc, ⟨gs, go, gc, h.qm (QM.of t) (fun j q => .inl q)⟩, hk⟩
        case staba2 =>
          rintro M k x a' X1 X2 ⟨⟨gs, go, gc, h⟩, hk, ⟨l, h1, h2, h3⟩, hm, ha⟩ t
          exact ⟨⟨gs, go, gc, h.qm (QM.of t) (fun j q => .inl q)⟩, hk, ⟨l, h1, row_qt h2 t, h3⟩, fun j q => Nat.lt_of_lt_of_le (hm j q) (Turn.size t), ha⟩
        case assign2 =>
          intro m l' M k x X1 K hx h hm hK
          have HKK := hide' hK
          have Hh := hide' (And.intro h (And.intro hx hm))
          clear hK h hm hx
          unfold encL
          gi_wp2
          exact HKK.out _ _ (Turn.refl _ X1) ⟨Hh.out.1.1, Hh.out.1.2, Hh.out.2.1, fun j q => (Hh.out.2.2 j q).1, rfl⟩
        case body2 =>
          rintro m l' M k ⟨ro, rc⟩ a' X1 ⟨⟨gs, go, gc, h⟩, hk, ⟨l, h1, h2, h3⟩, hm, rfl⟩
          have hll := chn_len h1
          have hkl := h.kl
          have e13 : X1.cell? ⟨b13, 0, none⟩ = some (.slice go k gc) := by rw [Lib.cell_of_heap h.hb, hkl]; rfl
          have e12 : X1.cell? ⟨b12, 0, none⟩ = some (.int .i64 (n : Int)) := by
            have q := (h.t.block b12 (lt_of_heap HV2x.out.2.1) HV2x.out.2.2.2.2.2).trans HV2x.out.2.1
            rw [Lib.cell_of_heap q]; rfl
          have HNW := hide' (fun (e : k = n) => again_left (n := n) (l := l) HW.out (by rw [← e]; exact h1) (by have := Hn41.out; omega))
          by_cases hkn : k = n
          · have hke : ((k : Int) == (n : Int)) = true := by simp; omega
            have HG := hide' (h.sub (M' := fun _ => False) (fun j q => q.elim))
            have HNW2 := hide' (HNW.out hkn)
            have HKn := hide' hkn
            clear h h1 h2 h3 hm hk hll hkl hkn HNW
            gi_wp2
            exact ⟨⟨Nat.le_refl _, fun j o _ hj _ => hj⟩, rfl, ⟨gs, go, gc, by rw [← HKn.out]; exact HG.out⟩, HNW2.out⟩
          · have hke : ((k : Int) == (n : Int)) = false := by simp; omega
            have hrow : X1.ownsRow V2.heap.size 23 1 (.slice go k gc) k (gs.map Rw.v) := by have := h.row; rw [hkl] at this; exact this
            have h2' : X1.ownsRow V2.heap.size 3 1 (.slice ro l.length rc) l.length (ivs l) := by rw [hll]; exact (Gr.mono (B := V2.heap.size + 2) (B' := V2.heap.size) (l := l) ⟨by rw [hll]; exact h2⟩ (by omega)).row |> fun q => by rw [hll] at q; exact q
            have HR := hide' hrow
            have HH := hide' (And.intro h (And.intro h1 (And.intro h2' (And.intro h3 (And.intro hm (And.intro (show k + 1 ≤ n by omega) hll))))))
            have HB3 : Hid (V2.heap.size ≤ X1.heap.size) := hide' h.t.size
            have Hk40 := hide' (show k < 41 by have := Hn41.out; omega)
            obtain ⟨i0, hi, hz0, hz1, hz2⟩ := info_parts info23
            simp only at *
            clear h h1 h2 h2' h3 hm hk hrow hll hkl hkn HNW
            gi_wp2_with (with_reducible refine stay_app _ _ 31 rfl ?_)
            unfold Stay
            refine appendIn _ rfl _ _ 31 rfl V2.heap.size 23 i0 _ 1 24 Try.underlying31 hi hz0 hz1 hz2 rfl (by decide) (.slice go k gc) k (gs.map Rw.v) rfl (HR.out.alloc _) ⟨X1.heap.size, 0, none⟩ 1 1 [.slice ro (sm zs) rc] rfl rfl (one_new _ _ _) (by simp [Value.oneCell']) (by decide) (by have := Hk40.out; unfold maxLen; omega) (by have := Hk40.out; omega) (by have := HB3.out; simp; omega) ?_
            intro g' cap' X3 hrow3 hgrow3 hat3
            obtain ⟨h, h1, h2', h3, hm, hk, hll⟩ := HH.out
            have hkl := h.kl
            have P3 := h.add h1 h2' h3 (gg := g') (cc := cap') (X1 := X3) (by rw [hkl, hll]; exact hrow3) (by rw [hkl, hll]; exact hgrow3) (by rw [hkl]; rcases hat3 with q | q; exact .inl q; exact .inr (by rw [q]; simp)) hm
            rw [hkl] at P3
            have PP := hide' (And.intro P3 hk)
            have f5 : X3.cell? ⟨b13, 0, none⟩ = some (.slice go k gc) := by rw [Lib.cell_of_heap P3.2.2.2]; rfl
            have f6 : X3.frozen? ⟨b13, 0, none⟩ = false := Lib.frozen_of_heap P3.2.2.2 0
            clear P3 hrow3 hgrow3 hat3 h h1 h2' h3 hm hk hll hkl HH HR
            gi_wp2
            exact ⟨PP.out.1.1, ⟨⟨_, _, _, PP.out.1.2.1⟩, PP.out.2⟩, PP.out.1.2.2.1⟩
        case done2 =>
          intro M k X2 hfin ⟨⟨gs2, go2, gc2, hG0⟩, hk⟩ hD2
          have hkN := again_end HW.out hfin hk (by have := Hn41.out; omega)
          have hG2 := hG0.sub (M' := fun _ => False) (fun j q => q.elim)
          rw [hkN] at hG2
          clear hG0 hfin hk hkN
          have hbX2 : Below X.heap.size X X2 := HV2x.out.2.2.2.1.trans (hG2.t.below (fun j e => by rw [e]; exact HBl.out.2.1) HV2x.out.2.2.2.1.size)
          have hbk12 : X2.heap[b12]? = some (.cells #[.int .i64 (n : Int)] 3 (0, 0)) := (hG2.t.block b12 (lt_of_heap HV2x.out.2.1) HV2x.out.2.2.2.2.2).trans HV2x.out.2.1
          have e12 : X2.cell? ⟨b12, 0, none⟩ = some (.int .i64 (n : Int)) := by rw [Lib.cell_of_heap hbk12]; rfl
          have f12 : X2.frozen? ⟨b12, 0, none⟩ = false := Lib.frozen_of_heap hbk12 0
          have e10 : X2.cell? ⟨b10, 0, none⟩ = some (.slice go vs.length gc) := by
            have q := (hbX2.block b10 (lt_of_heap MD.out.gi.hb)).trans MD.out.gi.hb
            rw [Lib.cell_of_heap q, MD.out.gi.kl]; rfl
          have e5 : X2.cell? ⟨b5, 0, none⟩ = some (.slice oo vs.length oc) := by
            have q := (hbX2.block b5 (lt_of_heap MD.out.ms.h5)).trans MD.out.ms.h5
            rw [Lib.cell_of_heap q]; rfl
          have e13 : X2.cell? ⟨b13, 0, none⟩ = some (.slice go2 (min n vs.length) gc2) := by rw [Lib.cell_of_heap hG2.hb, hG2.kl]; rfl
          have Hb : Hid (b = true ∨ b = false ∧ vs.length = 40) := hide' (by
            rcases HW.out with ⟨q, _⟩ | ⟨q, q2, _⟩
            · exact .inl q
            · exact .inr ⟨q, q2⟩)
          obtain ⟨W, hWW⟩ : ∃ W, W = vs.length := ⟨_, rfl⟩
          have HWW := hide' hWW
          rw [← hWW] at e10 e5 e13
          try rw [← hWW]
          have HD2 := hide' hD2
          have HVV2 : Hid (V.heap.size ≠ V2.heap.size ∧ w.heap.size ≤ V.heap.size ∧ w.heap.size ≤ V2.heap.size) := hide' (by have q1 := lt_of_heap MD.out.df; have q2 := HV2x.out.2.2.2.1.size; have q3 := MD.out.msV.bel.size; omega)
          by_cases hnW : (n : Int) > (W : Int)
          · have hmin : min n vs.length = vs.length := by omega
            rw [hmin] at hG2
            rw [hWW] at e13
            rw [hmin, ← hWW] at e13
            have t3 : Turn (fun j => j = b12) X2 (X2.setCell ⟨b12, 0, none⟩ (.int .i64 (vs.length : Int))) := (Turn.refl (fun j => j = b12) X2).setCell (p := ⟨b12, 0, none⟩) (fun _ => rfl) _
            have F0 := fi_mk MD.out HBl.out.1 HBl.out.2 HV2x.out.2.2.2.1 hG2 t3 (set_block hbk12) (Nat.le_refl _) hv40.out hD2
            have F1 : Hid (Fi w zs vs gs gs2 oo go2 oc gc2 b5 b12 b13 W 0 0 go gc oo oc (X2.setCell ⟨b12, 0, none⟩ (.int .i64 (W : Int))) ∧ (X2.setCell ⟨b12, 0, none⟩ (.int .i64 (W : Int))).heap[V.heap.size]? = some (.deferred (some [])) ∧ (X2.setCell ⟨b12, 0, none⟩ (.int .i64 (W : Int))).heap[V2.heap.size]? = some (.deferred (some []))) := hide' (by rw [hWW]; exact F0)
            have g13 : (X2.setCell ⟨b12, 0, none⟩ (.int .i64 (W : Int))).cell? ⟨b13, 0, none⟩ = some (.slice go2 W gc2) := by rw [Lib.cell_of_heap F1.out.1.h13, F1.out.1.n2]; rfl
            have g12 : (X2.setCell ⟨b12, 0, none⟩ (.int .i64 (W : Int))).cell? ⟨b12, 0, none⟩ = some (.int .i64 (W : Int)) := by rw [Lib.cell_of_heap F1.out.1.h12]; rfl
            have g5 : (X2.setCell ⟨b12, 0, none⟩ (.int .i64 (W : Int))).cell? ⟨b5, 0, none⟩ = some (.slice oo W oc) := by rw [Lib.cell_of_heap F1.out.1.h5, ← hWW]; rfl
            have g10 : (X2.setCell ⟨b12, 0, none⟩ (.int .i64 (W : Int))).cell? ⟨b10, 0, none⟩ = some (.slice go W gc) := by
              have hne : b10 ≠ b12 := by have := lt_of_heap MD.out.gi.hb; have := HBl.out.1.1; omega
              have q := (t3.block b10 (Nat.lt_of_lt_of_le (lt_of_heap MD.out.gi.hb) hbX2.size) hne).trans ((hbX2.block b10 (lt_of_heap MD.out.gi.hb)).trans MD.out.gi.hb)
              rw [hWW, Lib.cell_of_heap q, MD.out.gi.kl]; rfl
            obtain ⟨NN, hNN⟩ : ∃ NN, NN = W := ⟨_, rfl⟩
            have F2 : Hid (Fi w zs vs gs gs2 oo go2 oc gc2 b5 b12 b13 NN 0 0 go gc oo oc (X2.setCell ⟨b12, 0, none⟩ (.int .i64 (W : Int))) ∧ (X2.setCell ⟨b12, 0, none⟩ (.int .i64 (W : Int))).heap[V.heap.size]? = some (.deferred (some [])) ∧ (X2.setCell ⟨b12, 0, none⟩ (.int .i64 (W : Int))).heap[V2.heap.size]? = some (.deferred (some []))) := hide' (by rw [hNN]; exact F1.out)
            clear hG2 hD2 hbX2 hbk12 t3 F0 F1 hmin hWW hNN MD HD2 HV2x SQ2 hMb2 HV SQ hMb
            rcases Hb.out with rfl | ⟨rfl, h40⟩
            · clear Hb
              go_wp2_with fail
              go_loopw [15, 16, 17] (fun v15 v16 v17 wx => ∃ (i : Nat) (lo : Option Addr) (lc : Nat) (mo : Option Addr) (mc : Nat), v15 = .slice lo (W + i) lc ∧ v16 = .slice mo (W + i) mc ∧ v17 = .int .i64 (i : Int) ∧ i ≤ NN ∧ Fi w zs vs gs gs2 oo go2 oc gc2 b5 b12 b13 NN i i lo lc mo mc wx ∧ wx.heap[V.heap.size]? = some (.deferred (some [])) ∧ wx.heap[V2.heap.size]? = some (.deferred (some []))) (fun _ _ v17 _ => NN - (intOf v17).toNat)
              case atStart => exact ⟨0, go, gc, oo, oc, rfl, rfl, rfl, Nat.zero_le _, F2.out.1, F2.out.2.1, F2.out.2.2⟩
              case round =>
                obtain ⟨i, lo, lc, mo, mc, rfl, rfl, rfl, hi, hF, hd1, hd2⟩ := hrel
                clear F2
                have k12 : wr.cell? ⟨b12, 0, none⟩ = some (.int .i64 (NN : Int)) := by rw [Lib.cell_of_heap hF.h12]; rfl
                by_cases hlt : i < NN
                · have hlt' : (i : Int) < (NN : Int) := by omega
                  have ei := hide' (wsucN i (by have := hF.n3; omega))
                  have Hend := hide' (msr' hlt _ rfl)
                  have Hi := hide' hlt
                  obtain ⟨r, hr⟩ : ∃ r, gs2[i]? = some r := ⟨_, List.getElem?_eq_getElem (by rw [hF.n2]; exact hlt)⟩
                  obtain ⟨r5, hr5⟩ : ∃ r, vs[i]? = some r := ⟨_, List.getElem?_eq_getElem (by have := hF.n3; omega)⟩
                  have k13 : wr.cell? ⟨b13, 0, none⟩ = some (.slice go2 NN gc2) := by rw [Lib.cell_of_heap hF.h13, hF.n2]; rfl
                  have hltW : (i : Int) < (W : Int) := by have := hF.n3; have := HWW.out; omega
                  obtain ⟨ab, hab, hac⟩ : ∃ ab, go2 = some ⟨ab, 0, none⟩ ∧ wr.cell? ⟨ab, i, none⟩ = some (.slice r.ao r.len r.cap) := by
                    rcases hF.ca with q | ⟨ab, h1, _, _, h4⟩
                    · rw [q] at hr; simp at hr
                    · exact ⟨ab, h1, h4 i r hr⟩
                  obtain ⟨ob, hob⟩ : ∃ ob, oo = some ⟨ob, 0, none⟩ := by
                    rcases hF.cw with q | ⟨ob, h1, _⟩
                    · rw [q] at hr5; simp at hr5
                    · exact ⟨ob, h1⟩
                  have HF := hide' (And.intro hF (And.intro hd1 hd2))
                  have Hr := hide' (And.intro hr hr5)
                  have HL1 : Hid (((gs ++ gs2.take i).map Rw.v).length = W + i ∧ ((vs ++ vs.take i).map Rw.v).length = W + i ∧ W + i < 1000) := hide' (by
                    have := hF.n1; have := hF.n2; have := hF.n3; have := HWW.out
                    rw [List.length_map, List.length_map, List.length_append, List.length_append, List.length_take, List.length_take]
                    omega)
                  have HWi := hide' (show vs.length + i = W + i by have := HWW.out; omega)
                  clear hF hd1 hd2 hi hlt hr hr5
                  subst hab
                  subst hob
                  go_wp2_with (at_builtin; refine stay_l _ _ _ rfl ?_)
                  unfold Stay
                  refine wpList_slp wr rfl _ _ rfl (n := W + i) HL1.out.1 (by rw [← HWi.out]; exact HF.out.1.lrow) (hide' HL1.out.2.2) HF.out.1.bel.size (.slice r.ao r.len r.cap) rfl _ rfl rfl ?_
                  intro g3 c3 w3 r3 t3 p3
                  have F3a := HF.out.1.more (r := r) Hr.out.1 (by rw [HWi.out]; exact r3) t3 p3
                  have F3b : w3.heap[V.heap.size]? = some (.deferred (some [])) := (t3.block _ (lt_of_heap HF.out.2.1) (fun q => by obtain ⟨_, _, cs, q', hh⟩ := row_kind HF.out.1.lrow q; rw [HF.out.2.1] at hh; cases hh)).trans HF.out.2.1
                  have F3c : w3.heap[V2.heap.size]? = some (.deferred (some [])) := (t3.block _ (lt_of_heap HF.out.2.2) (fun q => by obtain ⟨_, _, cs, q', hh⟩ := row_kind HF.out.1.lrow q; rw [HF.out.2.2] at hh; cases hh)).trans HF.out.2.2
                  have F3 := hide' (And.intro F3a (And.intro F3b F3c))
                  have j5 : w3.cell? ⟨b5, 0, none⟩ = some (.slice (some ⟨ob, 0, none⟩) W oc) := by
                    rw [Lib.cell_of_heap F3.out.1.h5, ← HWW.out]
                    try rfl
                  have jc : w3.cell? ⟨ob, i, none⟩ = some (.slice r5.ao r5.len r5.cap) := by
                    rcases F3.out.1.cw with q | ⟨ob', h1, _, _, h4⟩
                    · have := Hr.out.2
                      rw [q] at this
                      simp at this
                    · cases h1
                      exact h4 i r5 Hr.out.2
                  clear r3 t3 p3 F3a F3b F3c hac k13
                  go_wp2_with (at_builtin; refine stay_l _ _ _ rfl ?_)
                  unfold Stay
                  refine wpList_slp w3 rfl _ _ rfl (n := W + i) HL1.out.2.1 (by rw [← HWi.out]; exact F3.out.1.mrow) (hide' HL1.out.2.2) F3.out.1.bel.size (.slice r5.ao r5.len r5.cap) rfl _ rfl rfl ?_
                  intro g6 c6 w6 r6 t6 p6
                  have F6a := F3.out.1.must (r := r5) Hr.out.2 Hi.out (by rw [HWi.out]; exact r6) t6 p6
                  have F6b : w6.heap[V.heap.size]? = some (.deferred (some [])) := (t6.block _ (lt_of_heap F3.out.2.1) (fun q => by obtain ⟨_, _, cs, q', hh⟩ := row_kind F3.out.1.mrow q; rw [F3.out.2.1] at hh; cases hh)).trans F3.out.2.1
                  have F6c : w6.heap[V2.heap.size]? = some (.deferred (some [])) := (t6.block _ (lt_of_heap F3.out.2.2) (fun q => by obtain ⟨_, _, cs, q', hh⟩ := row_kind F3.out.1.mrow q; rw [F3.out.2.2] at hh; cases hh)).trans F3.out.2.2
                  have F6 := hide' (And.intro F6a (And.intro F6b F6c))
                  clear r6 t6 p6 F6a F6b F6c F3 HF j5 jc
                  go_wp2
                  exact ⟨⟨i + 1, _, _, _, _, rfl, rfl, by first | rfl | (rw [ei.out]), Hi.out, F6.out.1, F6.out.2.1, F6.out.2.2⟩, by first | exact Hend.out | (rw [ei.out]; exact Hend.out)⟩
                · obtain rfl : i = NN := by omega
                  have CA := hide' (hF.apart HM.out.2.2)
                  rw [← HWW.out] at CA
                  have HD := hide' (And.intro hd1 hd2)
                  clear hF hd1 hd2 hi hlt
                  go_wp2_with fail
                  refine CA.out.mono ?_
                  rintro e w7 ⟨rfl, b7, k7⟩
                  have D1 := k7 _ _ rfl HD.out.1
                  have D2 := k7 _ _ rfl HD.out.2
                  have HD7 := hide' (And.intro D1 (And.intro D2 b7))
                  clear D1 D2 b7 k7 HD CA
                  go_wp2
                  refine ⟨by simp, .inl ⟨_, _, rfl, run_takeDeferred HD7.out.2.1, ?_⟩⟩
                  have hq1 : (w7.putObj V2.heap.size (.deferred none)).heap[V.heap.size]? = some (.deferred (some [])) := (World.putObj_heap_other HVV2.out.1).trans HD7.out.1
                  refine ⟨by simp, .inl ⟨_, _, rfl, run_takeDeferred hq1, ?_⟩⟩
                  have t8 : Turn (fun j => j = V2.heap.size) w7 (w7.putObj V2.heap.size (.deferred none)) := ⟨rfl, rfl, rfl, by simp, fun k _ hk => World.putObj_heap_other hk⟩
                  have t9 : Turn (fun j => j = V.heap.size) (w7.putObj V2.heap.size (.deferred none)) ((w7.putObj V2.heap.size (.deferred none)).putObj V.heap.size (.deferred none)) := ⟨rfl, rfl, rfl, by simp, fun k _ hk => World.putObj_heap_other hk⟩
                  have b8 := HD7.out.2.2.trans (t8.below (fun j e => by rw [e]; exact HVV2.out.2.2) HD7.out.2.2.size)
                  have b9 := b8.trans (t9.below (fun j e => by rw [e]; exact HVV2.out.2.1) b8.size)
                  refine ⟨.bool true, ?_, rfl, b9⟩
                  simp [results, Try.f8, go_sem]
            · have h40' : ((W : Int) != 40) = false := by rw [HWW.out, h40]; rfl
              clear Hb h40
              go_wp2_with fail
              go_loopw [15, 16, 17] (fun v15 v16 v17 wx => ∃ (i : Nat) (lo : Option Addr) (lc : Nat) (mo : Option Addr) (mc : Nat), v15 = .slice lo (W + i) lc ∧ v16 = .slice mo (W + i) mc ∧ v17 = .int .i64 (i : Int) ∧ i ≤ NN ∧ Fi w zs vs gs gs2 oo go2 oc gc2 b5 b12 b13 NN i i lo lc mo mc wx ∧ wx.heap[V.heap.size]? = some (.deferred (some [])) ∧ wx.heap[V2.heap.size]? = some (.deferred (some []))) (fun _ _ v17 _ => NN - (intOf v17).toNat)
              case atStart => exact ⟨0, go, gc, oo, oc, rfl, rfl, rfl, Nat.zero_le _, F2.out.1, F2.out.2.1, F2.out.2.2⟩
              case round =>
                obtain ⟨i, lo, lc, mo, mc, rfl, rfl, rfl, hi, hF, hd1, hd2⟩ := hrel
                clear F2
                have k12 : wr.cell? ⟨b12, 0, none⟩ = some (.int .i64 (NN : Int)) := by rw [Lib.cell_of_heap hF.h12]; rfl
                by_cases hlt : i < NN
                · have hlt' : (i : Int) < (NN : Int) := by omega
                  have ei := hide' (wsucN i (by have := hF.n3; omega))
                  have Hend := hide' (msr' hlt _ rfl)
                  have Hi := hide' hlt
                  obtain ⟨r, hr⟩ : ∃ r, gs2[i]? = some r := ⟨_, List.getElem?_eq_getElem (by rw [hF.n2]; exact hlt)⟩
                  obtain ⟨r5, hr5⟩ : ∃ r, vs[i]? = some r := ⟨_, List.getElem?_eq_getElem (by have := hF.n3; omega)⟩
                  have k13 : wr.cell? ⟨b13, 0, none⟩ = some (.slice go2 NN gc2) := by rw [Lib.cell_of_heap hF.h13, hF.n2]; rfl
                  have hltW : (i : Int) < (W : Int) := by have := hF.n3; have := HWW.out; omega
                  obtain ⟨ab, hab, hac⟩ : ∃ ab, go2 = some ⟨ab, 0, none⟩ ∧ wr.cell? ⟨ab, i, none⟩ = some (.slice r.ao r.len r.cap) := by
                    rcases hF.ca with q | ⟨ab, h1, _, _, h4⟩
                    · rw [q] at hr; simp at hr
                    · exact ⟨ab, h1, h4 i r hr⟩
                  obtain ⟨ob, hob⟩ : ∃ ob, oo = some ⟨ob, 0, none⟩ := by
                    rcases hF.cw with q | ⟨ob, h1, _⟩
                    · rw [q] at hr5; simp at hr5
                    · exact ⟨ob, h1⟩
                  have HF := hide' (And.intro hF (And.intro hd1 hd2))
                  have Hr := hide' (And.intro hr hr5)
                  have HL1 : Hid (((gs ++ gs2.take i).map Rw.v).length = W + i ∧ ((vs ++ vs.take i).map Rw.v).length = W + i ∧ W + i < 1000) := hide' (by
                    have := hF.n1; have := hF.n2; have := hF.n3; have := HWW.out
                    rw [List.length_map, List.length_map, List.length_append, List.length_append, List.length_take, List.length_take]
                    omega)
                  have HWi := hide' (show vs.length + i = W + i by have := HWW.out; omega)
                  clear hF hd1 hd2 hi hlt hr hr5
                  subst hab
                  subst hob
                  go_wp2_with (at_builtin; refine stay_l _ _ _ rfl ?_)
                  unfold Stay
                  refine wpList_slp wr rfl _ _ rfl (n := W + i) HL1.out.1 (by rw [← HWi.out]; exact HF.out.1.lrow) (hide' HL1.out.2.2) HF.out.1.bel.size (.slice r.ao r.len r.cap) rfl _ rfl rfl ?_
                  intro g3 c3 w3 r3 t3 p3
                  have F3a := HF.out.1.more (r := r) Hr.out.1 (by rw [HWi.out]; exact r3) t3 p3
                  have F3b : w3.heap[V.heap.size]? = some (.deferred (some [])) := (t3.block _ (lt_of_heap HF.out.2.1) (fun q => by obtain ⟨_, _, cs, q', hh⟩ := row_kind HF.out.1.lrow q; rw [HF.out.2.1] at hh; cases hh)).trans HF.out.2.1
                  have F3c : w3.heap[V2.heap.size]? = some (.deferred (some [])) := (t3.block _ (lt_of_heap HF.out.2.2) (fun q => by obtain ⟨_, _, cs, q', hh⟩ := row_kind HF.out.1.lrow q; rw [HF.out.2.2] at hh; cases hh)).trans HF.out.2.2
                  have F3 := hide' (And.intro F3a (And.intro F3b F3c))
                  have j5 : w3.cell? ⟨b5, 0, none⟩ = some (.slice (some ⟨ob, 0, none⟩) W oc) := by
                    rw [Lib.cell_of_heap F3.out.1.h5, ← HWW.out]
                    try rfl
                  have jc : w3.cell? ⟨ob, i, none⟩ = some (.slice r5.ao r5.len r5.cap) := by
                    rcases F3.out.1.cw with q | ⟨ob', h1, _, _, h4⟩
                    · have := Hr.out.2
                      rw [q] at this
                      simp at this
                    · cases h1
                      exact h4 i r5 Hr.out.2
                  clear r3 t3 p3 F3a F3b F3c hac k13
                  go_wp2_with (at_builtin; refine stay_l _ _ _ rfl ?_)
                  unfold Stay
                  refine wpList_slp w3 rfl _ _ rfl (n := W + i) HL1.out.2.1 (by rw [← HWi.out]; exact F3.out.1.mrow) (hide' HL1.out.2.2) F3.out.1.bel.size (.slice r5.ao r5.len r5.cap) rfl _ rfl rfl ?_
                  intro g6 c6 w6 r6 t6 p6
                  have F6a := F3.out.1.must (r := r5) Hr.out.2 Hi.out (by rw [HWi.out]; exact r6) t6 p6
                  have F6b : w6.heap[V.heap.size]? = some (.deferred (some [])) := (t6.block _ (lt_of_heap F3.out.2.1) (fun q => by obtain ⟨_, _, cs, q', hh⟩ := row_kind F3.out.1.mrow q; rw [F3.out.2.1] at hh; cases hh)).trans F3.out.2.1
                  have F6c : w6.heap[V2.heap.size]? = some (.deferred (some [])) := (t6.block _ (lt_of_heap F3.out.2.2) (fun q => by obtain ⟨_, _, cs, q', hh⟩ := row_kind F3.out.1.mrow q; rw [F3.out.2.2] at hh; cases hh)).trans F3.out.2.2
                  have F6 := hide' (And.intro F6a (And.intro F6b F6c))
                  clear r6 t6 p6 F6a F6b F6c F3 HF j5 jc
                  go_wp2
                  exact ⟨⟨i + 1, _, _, _, _, rfl, rfl, by first | rfl | (rw [ei.out]), Hi.out, F6.out.1, F6.out.2.1, F6.out.2.2⟩, by first | exact Hend.out | (rw [ei.out]; exact Hend.out)⟩
                · obtain rfl : i = NN := by omega
                  have CA := hide' (hF.apart HM.out.2.2)
                  rw [← HWW.out] at CA
                  have HD := hide' (And.intro hd1 hd2)
                  clear hF hd1 hd2 hi hlt
                  go_wp2_with fail
                  refine CA.out.mono ?_
                  rintro e w7 ⟨rfl, b7, k7⟩
                  have D1 := k7 _ _ rfl HD.out.1
                  have D2 := k7 _ _ rfl HD.out.2
                  have HD7 := hide' (And.intro D1 (And.intro D2 b7))
                  clear D1 D2 b7 k7 HD CA
                  go_wp2
                  refine ⟨by simp, .inl ⟨_, _, rfl, run_takeDeferred HD7.out.2.1, ?_⟩⟩
                  have hq1 : (w7.putObj V2.heap.size (.deferred none)).heap[V.heap.size]? = some (.deferred (some [])) := (World.putObj_heap_other HVV2.out.1).trans HD7.out.1
                  refine ⟨by simp, .inl ⟨_, _, rfl, run_takeDeferred hq1, ?_⟩⟩
                  have t8 : Turn (fun j => j = V2.heap.size) w7 (w7.putObj V2.heap.size (.deferred none)) := ⟨rfl, rfl, rfl, by simp, fun k _ hk => World.putObj_heap_other hk⟩
                  have t9 : Turn (fun j => j = V.heap.size) (w7.putObj V2.heap.size (.deferred none)) ((w7.putObj V2.heap.size (.deferred none)).putObj V.heap.size (.deferred none)) := ⟨rfl, rfl, rfl, by simp, fun k _ hk => World.putObj_heap_other hk⟩
                  have b8 := HD7.out.2.2.trans (t8.below (fun j e => by rw [e]; exact HVV2.out.2.2) HD7.out.2.2.size)
                  have b9 := b8.trans (t9.below (fun j e => by rw [e]; exact HVV2.out.2.1) b8.size)
                  refine ⟨.bool true, ?_, rfl, b9⟩
                  simp [results, Try.f8, go_sem]
          · have hmin : min n vs.length = n := by omega
            rw [hmin] at hG2
            rw [hWW] at e13
            rw [hmin] at e13
            have F0 := fi_mk MD.out HBl.out.1 HBl.out.2 HV2x.out.2.2.2.1 hG2 (Turn.refl _ X2) hbk12 (by omega) hv40.out hD2
            obtain ⟨NN, hNN⟩ : ∃ NN, NN = n := ⟨_, rfl⟩
            have F2 : Hid (Fi w zs vs gs gs2 oo go2 oc gc2 b5 b12 b13 NN 0 0 go gc oo oc X2 ∧ X2.heap[V.heap.size]? = some (.deferred (some [])) ∧ X2.heap[V2.heap.size]? = some (.deferred (some []))) := hide' (by rw [hNN]; exact F0)
            clear hG2 hD2 hbX2 hbk12 F0 hmin hWW hNN MD HD2 HV2x SQ2 hMb2 HV SQ hMb
            rcases Hb.out with rfl | ⟨rfl, h40⟩
            · clear Hb
              go_wp2_with fail
              go_loopw [15, 16, 17] (fun v15 v16 v17 wx => ∃ (i : Nat) (lo : Option Addr) (lc : Nat) (mo : Option Addr) (mc : Nat), v15 = .slice lo (W + i) lc ∧ v16 = .slice mo (W + i) mc ∧ v17 = .int .i64 (i : Int) ∧ i ≤ NN ∧ Fi w zs vs gs gs2 oo go2 oc gc2 b5 b12 b13 NN i i lo lc mo mc wx ∧ wx.heap[V.heap.size]? = some (.deferred (some [])) ∧ wx.heap[V2.heap.size]? = some (.deferred (some []))) (fun _ _ v17 _ => NN - (intOf v17).toNat)
              case atStart => exact ⟨0, go, gc, oo, oc, rfl, rfl, rfl, Nat.zero_le _, F2.out.1, F2.out.2.1, F2.out.2.2⟩
              case round =>
                obtain ⟨i, lo, lc, mo, mc, rfl, rfl, rfl, hi, hF, hd1, hd2⟩ := hrel
                clear F2
                have k12 : wr.cell? ⟨b12, 0, none⟩ = some (.int .i64 (NN : Int)) := by rw [Lib.cell_of_heap hF.h12]; rfl
                by_cases hlt : i < NN
                · have hlt' : (i : Int) < (NN : Int) := by omega
                  have ei := hide' (wsucN i (by have := hF.n3; omega))
                  have Hend := hide' (msr' hlt _ rfl)
                  have Hi := hide' hlt
                  obtain ⟨r, hr⟩ : ∃ r, gs2[i]? = some r := ⟨_, List.getElem?_eq_getElem (by rw [hF.n2]; exact hlt)⟩
                  obtain ⟨r5, hr5⟩ : ∃ r, vs[i]? = some r := ⟨_, List.getElem?_eq_getElem (by have := hF.n3; omega)⟩
                  have k13 : wr.cell? ⟨b13, 0, none⟩ = some (.slice go2 NN gc2) := by rw [Lib.cell_of_heap hF.h13, hF.n2]; rfl
                  have hltW : (i : Int) < (W : Int) := by have := hF.n3; have := HWW.out; omega
                  obtain ⟨ab, hab, hac⟩ : ∃ ab, go2 = some ⟨ab, 0, none⟩ ∧ wr.cell? ⟨ab, i, none⟩ = some (.slice r.ao r.len r.cap) := by
                    rcases hF.ca with q | ⟨ab, h1, _, _, h4⟩
                    · rw [q] at hr; simp at hr
                    · exact ⟨ab, h1, h4 i r hr⟩
                  obtain ⟨ob, hob⟩ : ∃ ob, oo = some ⟨ob, 0, none⟩ := by
                    rcases hF.cw with q | ⟨ob, h1, _⟩
                    · rw [q] at hr5; simp at hr5
                    · exact ⟨ob, h1⟩
                  have HF := hide' (And.intro hF (And.intro hd1 hd2))
                  have Hr := hide' (And.intro hr hr5)
                  have HL1 : Hid (((gs ++ gs2.take i).map Rw.v).length = W + i ∧ ((vs ++ vs.take i).map Rw.v).length = W + i ∧ W + i < 1000) := hide' (by
                    have := hF.n1; have := hF.n2; have := hF.n3; have := HWW.out
                    rw [List.length_map, List.length_map, List.length_append, List.length_append, List.length_take, List.length_take]
                    omega)
                  have HWi := hide' (show vs.length + i = W + i by have := HWW.out; omega)
                  clear hF hd1 hd2 hi hlt hr hr5
                  subst hab
                  subst hob
                  go_wp2_with (at_builtin; refine stay_l _ _ _ rfl ?_)
                  unfold Stay
                  refine wpList_slp wr rfl _ _ rfl (n := W + i) HL1.out.1 (by rw [← HWi.out]; exact HF.out.1.lrow) (hide' HL1.out.2.2) HF.out.1.bel.size (.slice r.ao r.len r.cap) rfl _ rfl rfl ?_
                  intro g3 c3 w3 r3 t3 p3
                  have F3a := HF.out.1.more (r := r) Hr.out.1 (by rw [HWi.out]; exact r3) t3 p3
                  have F3b : w3.heap[V.heap.size]? = some (.deferred (some [])) := (t3.block _ (lt_of_heap HF.out.2.1) (fun q => by obtain ⟨_, _, cs, q', hh⟩ := row_kind HF.out.1.lrow q; rw [HF.out.2.1] at hh; cases hh)).trans HF.out.2.1
                  have F3c : w3.heap[V2.heap.size]? = some (.deferred (some [])) := (t3.block _ (lt_of_heap HF.out.2.2) (fun q => by obtain ⟨_, _, cs, q', hh⟩ := row_kind HF.out.1.lrow q; rw [HF.out.2.2] at hh; cases hh)).trans HF.out.2.2
                  have F3 := hide' (And.intro F3a (And.intro F3b F3c))
                  have j5 : w3.cell? ⟨b5, 0, none⟩ = some (.slice (some ⟨ob, 0, none⟩) W oc) := by
                    rw [Lib.cell_of_heap F3.out.1.h5, ← HWW.out]
                    try rfl
                  have jc : w3.cell? ⟨ob, i, none⟩ = some (.slice r5.ao r5.len r5.cap) := by
                    rcases F3.out.1.cw with q | ⟨ob', h1, _, _, h4⟩
                    · have := Hr.out.2
                      rw [q] at this
                      simp at this
                    · cases h1
                      exact h4 i r5 Hr.out.2
                  clear r3 t3 p3 F3a F3b F3c hac k13
                  go_wp2_with (at_builtin; refine stay_l _ _ _ rfl ?_)
                  unfold Stay
                  refine wpList_slp w3 rfl _ _ rfl (n := W + i) HL1.out.2.1 (by rw [← HWi.out]; exact F3.out.1.mrow) (hide' HL1.out.2.2) F3.out.1.bel.size (.slice r5.ao r5.len r5.cap) rfl _ rfl rfl ?_
                  intro g6 c6 w6 r6 t6 p6
                  have F6a := F3.out.1.must (r := r5) Hr.out.2 Hi.out (by rw [HWi.out]; exact r6) t6 p6
                  have F6b : w6.heap[V.heap.size]? = some (.deferred (some [])) := (t6.block _ (lt_of_heap F3.out.2.1) (fun q => by obtain ⟨_, _, cs, q', hh⟩ := row_kind F3.out.1.mrow q; rw [F3.out.2.1] at hh; cases hh)).trans F3.out.2.1
                  have F6c : w6.heap[V2.heap.size]? = some (.deferred (some [])) := (t6.block _ (lt_of_heap F3.out.2.2) (fun q => by obtain ⟨_, _, cs, q', hh⟩ := row_kind F3.out.1.mrow q; rw [F3.out.2.2] at hh; cases hh)).trans F3.out.2.2
                  have F6 := hide' (And.intro F6a (And.intro F6b F6c))
                  clear r6 t6 p6 F6a F6b F6c F3 HF j5 jc
                  go_wp2
                  exact ⟨⟨i + 1, _, _, _, _, rfl, rfl, by first | rfl | (rw [ei.out]), Hi.out, F6.out.1, F6.out.2.1, F6.out.2.2⟩, by first | exact Hend.out | (rw [ei.out]; exact Hend.out)⟩
                · obtain rfl : i = NN := by omega
                  have CA := hide' (hF.apart HM.out.2.2)
                  rw [← HWW.out] at CA
                  have HD := hide' (And.intro hd1 hd2)
                  clear hF hd1 hd2 hi hlt
                  go_wp2_with fail
                  refine CA.out.mono ?_
                  rintro e w7 ⟨rfl, b7, k7⟩
                  have D1 := k7 _ _ rfl HD.out.1
                  have D2 := k7 _ _ rfl HD.out.2
                  have HD7 := hide' (And.intro D1 (And.intro D2 b7))
                  clear D1 D2 b7 k7 HD CA
                  go_wp2
                  refine ⟨by simp, .inl ⟨_, _, rfl, run_takeDeferred HD7.out.2.1, ?_⟩⟩
                  have hq1 : (w7.putObj V2.heap.size (.deferred none)).heap[V.heap.size]? = some (.deferred (some [])) := (World.putObj_heap_other HVV2.out.1).trans HD7.out.1
                  refine ⟨by simp, .inl ⟨_, _, rfl, run_takeDeferred hq1, ?_⟩⟩
                  have t8 : Turn (fun j => j = V2.heap.size) w7 (w7.putObj V2.heap.size (.deferred none)) := ⟨rfl, rfl, rfl, by simp, fun k _ hk => World.putObj_heap_other hk⟩
                  have t9 : Turn (fun j => j = V.heap.size) (w7.putObj V2.heap.size (.deferred none)) ((w7.putObj V2.heap.size (.deferred none)).putObj V.heap.size (.deferred none)) := ⟨rfl, rfl, rfl, by simp, fun k _ hk => World.putObj_heap_other hk⟩
                  have b8 := HD7.out.2.2.trans (t8.below (fun j e => by rw [e]; exact HVV2.out.2.2) HD7.out.2.2.size)
                  have b9 := b8.trans (t9.below (fun j e => by rw [e]; exact HVV2.out.2.1) b8.size)
                  refine ⟨.bool true, ?_, rfl, b9⟩
                  simp [results, Try.f8, go_sem]
            · have h40' : ((W : Int) != 40) = false := by rw [HWW.out, h40]; rfl
              clear Hb h40
              go_wp2_with fail
              go_loopw [15, 16, 17] (fun v15 v16 v17 wx => ∃ (i : Nat) (lo : Option Addr) (lc : Nat) (mo : Option Addr) (mc : Nat), v15 = .slice lo (W + i) lc ∧ v16 = .slice mo (W + i) mc ∧ v17 = .int .i64 (i : Int) ∧ i ≤ NN ∧ Fi w zs vs gs gs2 oo go2 oc gc2 b5 b12 b13 NN i i lo lc mo mc wx ∧ wx.heap[V.heap.size]? = some (.deferred (some [])) ∧ wx.heap[V2.heap.size]? = some (.deferred (some []))) (fun _ _ v17 _ => NN - (intOf v17).toNat)
              case atStart => exact ⟨0, go, gc, oo, oc, rfl, rfl, rfl, Nat.zero_le _, F2.out.1, F2.out.2.1, F2.out.2.2⟩
              case round =>
                obtain ⟨i, lo, lc, mo, mc, rfl, rfl, rfl, hi, hF, hd1, hd2⟩ := hrel
                clear F2
                have k12 : wr.cell? ⟨b12, 0, none⟩ = some (.int .i64 (NN : Int)) := by rw [Lib.cell_of_heap hF.h12]; rfl
                by_cases hlt : i < NN
                · have hlt' : (i : Int) < (NN : Int) := by omega
                  have ei := hide' (wsucN i (by have := hF.n3; omega))
                  have Hend := hide' (msr' hlt _ rfl)
                  have Hi := hide' hlt
                  obtain ⟨r, hr⟩ : ∃ r, gs2[i]? = some r := ⟨_, List.getElem?_eq_getElem (by rw [hF.n2]; exact hlt)⟩
                  obtain ⟨r5, hr5⟩ : ∃ r, vs[i]? = some r := ⟨_, List.getElem?_eq_getElem (by have := hF.n3; omega)⟩
                  have k13 : wr.cell? ⟨b13, 0, none⟩ = some (.slice go2 NN gc2) := by rw [Lib.cell_of_heap hF.h13, hF.n2]; rfl
                  have hltW : (i : Int) < (W : Int) := by have := hF.n3; have := HWW.out; omega
                  obtain ⟨ab, hab, hac⟩ : ∃ ab, go2 = some ⟨ab, 0, none⟩ ∧ wr.cell? ⟨ab, i, none⟩ = some (.slice r.ao r.len r.cap) := by
                    rcases hF.ca with q | ⟨ab, h1, _, _, h4⟩
                    · rw [q] at hr; simp at hr
                    · exact ⟨ab, h1, h4 i r hr⟩
                  obtain ⟨ob, hob⟩ : ∃ ob, oo = some ⟨ob, 0, none⟩ := by
                    rcases hF.cw with q | ⟨ob, h1, _⟩
                    · rw [q] at hr5; simp at hr5
                    · exact ⟨ob, h1⟩
                  have HF := hide' (And.intro hF (And.intro hd1 hd2))
                  have Hr := hide' (And.intro hr hr5)
                  have HL1 : Hid (((gs ++ gs2.take i).map Rw.v).length = W + i ∧ ((vs ++ vs.take i).map Rw.v).length = W + i ∧ W + i < 1000) := hide' (by
                    have := hF.n1; have := hF.n2; have := hF.n3; have := HWW.out
                    rw [List.length_map, List.length_map, List.length_append, List.length_append, List.length_take, List.length_take]
                    omega)
                  have HWi := hide' (show vs.length + i = W + i by have := HWW.out; omega)
                  clear hF hd1 hd2 hi hlt hr hr5
                  subst hab
                  subst hob
                  go_wp2_with (at_builtin; refine stay_l _ _ _ rfl ?_)
                  unfold Stay
                  refine wpList_slp wr rfl _ _ rfl (n := W + i) HL1.out.1 (by rw [← HWi.out]; exact HF.out.1.lrow) (hide' HL1.out.2.2) HF.out.1.bel.size (.slice r.ao r.len r.cap) rfl _ rfl rfl ?_
                  intro g3 c3 w3 r3 t3 p3
                  have F3a := HF.out.1.more (r := r) Hr.out.1 (by rw [HWi.out]; exact r3) t3 p3
                  have F3b : w3.heap[V.heap.size]? = some (.deferred (some [])) := (t3.block _ (lt_of_heap HF.out.2.1) (fun q => by obtain ⟨_, _, cs, q', hh⟩ := row_kind HF.out.1.lrow q; rw [HF.out.2.1] at hh; cases hh)).trans HF.out.2.1
                  have F3c : w3.heap[V2.heap.size]? = some (.deferred (some [])) := (t3.block _ (lt_of_heap HF.out.2.2) (fun q => by obtain ⟨_, _, cs, q', hh⟩ := row_kind HF.out.1.lrow q; rw [HF.out.2.2] at hh; cases hh)).trans HF.out.2.2
                  have F3 := hide' (And.intro F3a (And.intro F3b F3c))
                  have j5 : w3.cell? ⟨b5, 0, none⟩ = some (.slice (some ⟨ob, 0, none⟩) W oc) := by
                    rw [Lib.cell_of_heap F3.out.1.h5, ← HWW.out]
                    try rfl
                  have jc : w3.cell? ⟨ob, i, none⟩ = some (.slice r5.ao r5.len r5.cap) := by
                    rcases F3.out.1.cw with q | ⟨ob', h1, _, _, h4⟩
                    · have := Hr.out.2
                      rw [q] at this
                      simp at this
                    · cases h1
                      exact h4 i r5 Hr.out.2
                  clear r3 t3 p3 F3a F3b F3c hac k13
                  go_wp2_with (at_builtin; refine stay_l _ _ _ rfl ?_)
                  unfold Stay
                  refine wpList_slp w3 rfl _ _ rfl (n := W + i) HL1.out.2.1 (by rw [← HWi.out]; exact F3.out.1.mrow) (hide' HL1.out.2.2) F3.out.1.bel.size (.slice r5.ao r5.len r5.cap) rfl _ rfl rfl ?_
                  intro g6 c6 w6 r6 t6 p6
                  have F6a := F3.out.1.must (r := r5) Hr.out.2 Hi.out (by rw [HWi.out]; exact r6) t6 p6
                  have F6b : w6.heap[V.heap.size]? = some (.deferred (some [])) := (t6.block _ (lt_of_heap F3.out.2.1) (fun q => by obtain ⟨_, _, cs, q', hh⟩ := row_kind F3.out.1.mrow q; rw [F3.out.2.1] at hh; cases hh)).trans F3.out.2.1
                  have F6c : w6.heap[V2.heap.size]? = some (.deferred (some [])) := (t6.block _ (lt_of_heap F3.out.2.2) (fun q => by obtain ⟨_, _, cs, q', hh⟩ := row_kind F3.out.1.mrow q; rw [F3.out.2.2] at hh; cases hh)).trans F3.out.2.2
                  have F6 := hide' (And.intro F6a (And.intro F6b F6c))
                  clear r6 t6 p6 F6a F6b F6c F3 HF j5 jc
                  go_wp2
                  exact ⟨⟨i + 1, _, _, _, _, rfl, rfl, by first | rfl | (rw [ei.out]), Hi.out, F6.out.1, F6.out.2.1, F6.out.2.2⟩, by first | exact Hend.out | (rw [ei.out]; exact Hend.out)⟩
                · obtain rfl : i = NN := by omega
                  have CA := hide' (hF.apart HM.out.2.2)
                  rw [← HWW.out] at CA
                  have HD := hide' (And.intro hd1 hd2)
                  clear hF hd1 hd2 hi hlt
                  go_wp2_with fail
                  refine CA.out.mono ?_
                  rintro e w7 ⟨rfl, b7, k7⟩
                  have D1 := k7 _ _ rfl HD.out.1
                  have D2 := k7 _ _ rfl HD.out.2
                  have HD7 := hide' (And.intro D1 (And.intro D2 b7))
                  clear D1 D2 b7 k7 HD CA
                  go_wp2
                  refine ⟨by simp, .inl ⟨_, _, rfl, run_takeDeferred HD7.out.2.1, ?_⟩⟩
                  have hq1 : (w7.putObj V2.heap.size (.deferred none)).heap[V.heap.size]? = some (.deferred (some [])) := (World.putObj_heap_other HVV2.out.1).trans HD7.out.1
                  refine ⟨by simp, .inl ⟨_, _, rfl, run_takeDeferred hq1, ?_⟩⟩
                  have t8 : Turn (fun j => j = V2.heap.size) w7 (w7.putObj V2.heap.size (.deferred none)) := ⟨rfl, rfl, rfl, by simp, fun k _ hk => World.putObj_heap_other hk⟩
                  have t9 : Turn (fun j => j = V.heap.size) (w7.putObj V2.heap.size (.deferred none)) ((w7.putObj V2.heap.size (.deferred none)).putObj V.heap.size (.deferred none)) := ⟨rfl, rfl, rfl, by simp, fun k _ hk => World.putObj_heap_other hk⟩
                  have b8 := HD7.out.2.2.trans (t8.below (fun j e => by rw [e]; exact HVV2.out.2.2) HD7.out.2.2.size)
                  have b9 := b8.trans (t9.below (fun j e => by rw [e]; exact HVV2.out.2.1) b8.size)
                  refine ⟨.bool true, ?_, rfl, b9⟩
                  simp [results, Try.f8, go_sem]
        case stop2 =>
          rintro c k X2 ⟨rfl, ⟨gs2, go2, gc2, hG0⟩, hnW⟩ hD2
          have hG2 : Gi V2 b13 zs (min n vs.length) gs2 go2 gc2 (fun _ => False) X2 := by rw [Nat.min_eq_left hnW]; exact hG0
          clear hG0 hnW
          refine wpIn_wide.2 ?_
          have hbX2 : Below X.heap.size X X2 := HV2x.out.2.2.2.1.trans (hG2.t.below (fun j e => by rw [e]; exact HBl.out.2.1) HV2x.out.2.2.2.1.size)
          have hbk12 : X2.heap[b12]? = some (.cells #[.int .i64 (n : Int)] 3 (0, 0)) := (hG2.t.block b12 (lt_of_heap HV2x.out.2.1) HV2x.out.2.2.2.2.2).trans HV2x.out.2.1
          have e12 : X2.cell? ⟨b12, 0, none⟩ = some (.int .i64 (n : Int)) := by rw [Lib.cell_of_heap hbk12]; rfl
          have f12 : X2.frozen? ⟨b12, 0, none⟩ = false := Lib.frozen_of_heap hbk12 0
          have e10 : X2.cell? ⟨b10, 0, none⟩ = some (.slice go vs.length gc) := by
            have q := (hbX2.block b10 (lt_of_heap MD.out.gi.hb)).trans MD.out.gi.hb
            rw [Lib.cell_of_heap q, MD.out.gi.kl]; rfl
          have e5 : X2.cell? ⟨b5, 0, none⟩ = some (.slice oo vs.length oc) := by
            have q := (hbX2.block b5 (lt_of_heap MD.out.ms.h5)).trans MD.out.ms.h5
            rw [Lib.cell_of_heap q]; rfl
          have e13 : X2.cell? ⟨b13, 0, none⟩ = some (.slice go2 (min n vs.length) gc2) := by rw [Lib.cell_of_heap hG2.hb, hG2.kl]; rfl
          have Hb : Hid (b = true ∨ b = false ∧ vs.length = 40) := hide' (by
            rcases HW.out with ⟨q, _⟩ | ⟨q, q2, _⟩
            · exact .inl q
            · exact .inr ⟨q, q2⟩)
          obtain ⟨W, hWW⟩ : ∃ W, W = vs.length := ⟨_, rfl⟩
          have HWW := hide' hWW
          rw [← hWW] at e10 e5 e13
          try rw [← hWW]
          have HD2 := hide' hD2
          have HVV2 : Hid (V.heap.size ≠ V2.heap.size ∧ w.heap.size ≤ V.heap.size ∧ w.heap.size ≤ V2.heap.size) := hide' (by have q1 := lt_of_heap MD.out.df; have q2 := HV2x.out.2.2.2.1.size; have q3 := MD.out.msV.bel.size; omega)
          by_cases hnW : (n : Int) > (W : Int)
          · have hmin : min n vs.length = vs.length := by omega
            rw [hmin] at hG2
            rw [hWW] at e13
            rw [hmin, ← hWW] at e13
            have t3 : Turn (fun j => j = b12) X2 (X2.setCell ⟨b12, 0, none⟩ (.int .i64 (vs.length : Int))) := (Turn.refl (fun j => j = b12) X2).setCell (p := ⟨b12, 0, none⟩) (fun _ => rfl) _
            have F0 := fi_mk MD.out HBl.out.1 HBl.out.2 HV2x.out.2.2.2.1 hG2 t3 (set_block hbk12) (Nat.le_refl _) hv40.out hD2
            have F1 : Hid (Fi w zs vs gs gs2 oo go2 oc gc2 b5 b12 b13 W 0 0 go gc oo oc (X2.setCell ⟨b12, 0, none⟩ (.int .i64 (W : Int))) ∧ (X2.setCell ⟨b12, 0, none⟩ (.int .i64 (W : Int))).heap[V.heap.size]? = some (.deferred (some [])) ∧ (X2.setCell ⟨b12, 0, none⟩ (.int .i64 (W : Int))).heap[V2.heap.size]? = some (.deferred (some []))) := hide' (by rw [hWW]; exact F0)
            have g13 : (X2.setCell ⟨b12, 0, none⟩ (.int .i64 (W : Int))).cell? ⟨b13, 0, none⟩ = some (.slice go2 W gc2) := by rw [Lib.cell_of_heap F1.out.1.h13, F1.out.1.n2]; rfl
            have g12 : (X2.setCell ⟨b12, 0, none⟩ (.int .i64 (W : Int))).cell? ⟨b12, 0, none⟩ = some (.int .i64 (W : Int)) := by rw [Lib.cell_of_heap F1.out.1.h12]; rfl
            have g5 : (X2.setCell ⟨b12, 0, none⟩ (.int .i64 (W : Int))).cell? ⟨b5, 0, none⟩ = some (.slice oo W oc) := by rw [Lib.cell_of_heap F1.out.1.h5, ← hWW]; rfl
            have g10 : (X2.setCell ⟨b12, 0, none⟩ (.int .i64 (W : Int))).cell? ⟨b10, 0, none⟩ = some (.slice go W gc) := by
              have hne : b10 ≠ b12 := by have := lt_of_heap MD.out.gi.hb; have := HBl.out.1.1; omega
              have q := (t3.block b10 (Nat.lt_of_lt_of_le (lt_of_heap MD.out.gi.hb) hbX2.size) hne).trans ((hbX2.block b10 (lt_of_heap MD.out.gi.hb)).trans MD.out.gi.hb)
              rw [hWW, Lib.cell_of_heap q, MD.out.gi.kl]; rfl
            obtain ⟨NN, hNN⟩ : ∃ NN, NN = W := ⟨_, rfl⟩
            have F2 : Hid (Fi w zs vs gs gs2 oo go2 oc gc2 b5 b12 b13 NN 0 0 go gc oo oc (X2.setCell ⟨b12, 0, none⟩ (.int .i64 (W : Int))) ∧ (X2.setCell ⟨b12, 0, none⟩ (.int .i64 (W : Int))).heap[V.heap.size]? = some (.deferred (some [])) ∧ (X2.setCell ⟨b12, 0, none⟩ (.int .i64 (W : Int))).heap[V2.heap.size]? = some (.deferred (some []))) := hide' (by rw [hNN]; exact F1.out)
            clear hG2 hD2 hbX2 hbk12 t3 F0 F1 hmin hWW hNN MD HD2 HV2x SQ2 hMb2 HV SQ hMb
            rcases Hb.out with rfl | ⟨rfl, h40⟩
            · clear Hb
              go_wp2_with fail
              go_loopw [15, 16, 17] (fun v15 v16 v17 wx => ∃ (i : Nat) (lo : Option Addr) (lc : Nat) (mo : Option Addr) (mc : Nat), v15 = .slice lo (W + i) lc ∧ v16 = .slice mo (W + i) mc ∧ v17 = .int .i64 (i : Int) ∧ i ≤ NN ∧ Fi w zs vs gs gs2 oo go2 oc gc2 b5 b12 b13 NN i i lo lc mo mc wx ∧ wx.heap[V.heap.size]? = some (.deferred (some [])) ∧ wx.heap[V2.heap.size]? = some (.deferred (some []))) (fun _ _ v17 _ => NN - (intOf v17).toNat)
              case atStart => exact ⟨0, go, gc, oo, oc, rfl, rfl, rfl, Nat.zero_le _, F2.out.1, F2.out.2.1, F2.out.2.2⟩
              case round =>
                obtain ⟨i, lo, lc, mo, mc, rfl, rfl, rfl, hi, hF, hd1, hd2⟩ := hrel
                clear F2
                have k12 : wr.cell? ⟨b12, 0, none⟩ = some (.int .i64 (NN : Int)) := by rw [Lib.cell_of_heap hF.h12]; rfl
                by_cases hlt : i < NN
                · have hlt' : (i : Int) < (NN : Int) := by omega
                  have ei := hide' (wsucN i (by have := hF.n3; omega))
                  have Hend := hide' (msr' hlt _ rfl)
                  have Hi := hide' hlt
                  obtain ⟨r, hr⟩ : ∃ r, gs2[i]? = some r := ⟨_, List.getElem?_eq_getElem (by rw [hF.n2]; exact hlt)⟩
                  obtain ⟨r5, hr5⟩ : ∃ r, vs[i]? = some r := ⟨_, List.getElem?_eq_getElem (by have := hF.n3; omega)⟩
                  have k13 : wr.cell? ⟨b13, 0, none⟩ = some (.slice go2 NN gc2) := by rw [Lib.cell_of_heap hF.h13, hF.n2]; rfl
                  have hltW : (i : Int) < (W : Int) := by have := hF.n3; have := HWW.out; omega
                  obtain ⟨ab, hab, hac⟩ : ∃ ab, go2 = some ⟨ab, 0, none⟩ ∧ wr.cell? ⟨ab, i, none⟩ = some (.slice r.ao r.len r.cap) := by
                    rcases hF.ca with q | ⟨ab, h1, _, _, h4⟩
                    · rw [q] at hr; simp at hr
                    · exact ⟨ab, h1, h4 i r hr⟩
                  obtain ⟨ob, hob⟩ : ∃ ob, oo = some ⟨ob, 0, none⟩ := by
                    rcases hF.cw with q | ⟨ob, h1, _⟩
                    · rw [q] at hr5; simp at hr5
                    · exact ⟨ob, h1⟩
                  have HF := hide' (And.intro hF (And.intro hd1 hd2))
                  have Hr := hide' (And.intro hr hr5)
                  have HL1 : Hid (((gs ++ gs2.take i).map Rw.v).length = W + i ∧ ((vs ++ vs.take i).map Rw.v).length = W + i ∧ W + i < 1000) := hide' (by
                    have := hF.n1; have := hF.n2; have := hF.n3; have := HWW.out
                    rw [List.length_map, List.length_map, List.length_append, List.length_append, List.length_take, List.length_take]
                    omega)
                  have HWi := hide' (show vs.length + i = W + i by have := HWW.out; omega)
                  clear hF hd1 hd2 hi hlt hr hr5
                  subst hab
                  subst hob
                  go_wp2_with (at_builtin; refine stay_l _ _ _ rfl ?_)
                  unfold Stay
                  refine wpList_slp wr rfl _ _ rfl (n := W + i) HL1.out.1 (by rw [← HWi.out]; exact HF.out.1.lrow) (hide' HL1.out.2.2) HF.out.1.bel.size (.slice r.ao r.len r.cap) rfl _ rfl rfl ?_
                  intro g3 c3 w3 r3 t3 p3
                  have F3a := HF.out.1.more (r := r) Hr.out.1 (by rw [HWi.out]; exact r3) t3 p3
                  have F3b : w3.heap[V.heap.size]? = some (.deferred (some [])) := (t3.block _ (lt_of_heap HF.out.2.1) (fun q => by obtain ⟨_, _, cs, q', hh⟩ := row_kind HF.out.1.lrow q; rw [HF.out.2.1] at hh; cases hh)).trans HF.out.2.1
                  have F3c : w3.heap[V2.heap.size]? = some (.deferred (some [])) := (t3.block _ (lt_of_heap HF.out.2.2) (fun q => by obtain ⟨_, _, cs, q', hh⟩ := row_kind HF.out.1.lrow q; rw [HF.out.2.2] at hh; cases hh)).trans HF.out.2.2
                  have F3 := hide' (And.intro F3a (And.intro F3b F3c))
                  have j5 : w3.cell? ⟨b5, 0, none⟩ = some (.slice (some ⟨ob, 0, none⟩) W oc) := by
                    rw [Lib.cell_of_heap F3.out.1.h5, ← HWW.out]
                    try rfl
                  have jc : w3.cell? ⟨ob, i, none⟩ = some (.slice r5.ao r5.len r5.cap) := by
                    rcases F3.out.1.cw with q | ⟨ob', h1, _, _, h4⟩
                    · have := Hr.out.2
                      rw [q] at this
                      simp at this
                    · cases h1
                      exact h4 i r5 Hr.out.2
                  clear r3 t3 p3 F3a F3b F3c hac k13
                  go_wp2_with (at_builtin; refine stay_l _ _ _ rfl ?_)
                  unfold Stay
                  refine wpList_slp w3 rfl _ _ rfl (n := W + i) HL1.out.2.1 (by rw [← HWi.out]; exact F3.out.1.mrow) (hide' HL1.out.2.2) F3.out.1.bel.size (.slice r5.ao r5.len r5.cap) rfl _ rfl rfl ?_
                  intro g6 c6 w6 r6 t6 p6
                  have F6a := F3.out.1.must (r := r5) Hr.out.2 Hi.out (by rw [HWi.out]; exact r6) t6 p6
                  have F6b : w6.heap[V.heap.size]? = some (.deferred (some [])) := (t6.block _ (lt_of_heap F3.out.2.1) (fun q => by obtain ⟨_, _, cs, q', hh⟩ := row_kind F3.out.1.mrow q; rw [F3.out.2.1] at hh; cases hh)).trans F3.out.2.1
                  have F6c : w6.heap[V2.heap.size]? = some (.deferred (some [])) := (t6.block _ (lt_of_heap F3.out.2.2) (fun q => by obtain ⟨_, _, cs, q', hh⟩ := row_kind F3.out.1.mrow q; rw [F3.out.2.2] at hh; cases hh)).trans F3.out.2.2
                  have F6 := hide' (And.intro F6a (And.intro F6b F6c))
                  clear r6 t6 p6 F6a F6b F6c F3 HF j5 jc
                  go_wp2
                  exact ⟨⟨i + 1, _, _, _, _, rfl, rfl, by first | rfl | (rw [ei.out]), Hi.out, F6.out.1, F6.out.2.1, F6.out.2.2⟩, by first | exact Hend.out | (rw [ei.out]; exact Hend.out)⟩
                · obtain rfl : i = NN := by omega
                  have CA := hide' (hF.apart HM.out.2.2)
                  rw [← HWW.out] at CA
                  have HD := hide' (And.intro hd1 hd2)
                  clear hF hd1 hd2 hi hlt
                  go_wp2_with fail
                  refine CA.out.mono ?_
                  rintro e w7 ⟨rfl, b7, k7⟩
                  have D1 := k7 _ _ rfl HD.out.1
                  have D2 := k7 _ _ rfl HD.out.2
                  have HD7 := hide' (And.intro D1 (And.intro D2 b7))
                  clear D1 D2 b7 k7 HD CA
                  go_wp2
                  refine ⟨by simp, .inl ⟨_, _, rfl, run_takeDeferred HD7.out.2.1, ?_⟩⟩
                  have hq1 : (w7.putObj V2.heap.size (.deferred none)).heap[V.heap.size]? = some (.deferred (some [])) := (World.putObj_heap_other HVV2.out.1).trans HD7.out.1
                  refine ⟨by simp, .inl ⟨_, _, rfl, run_takeDeferred hq1, ?_⟩⟩
                  have t8 : Turn (fun j => j = V2.heap.size) w7 (w7.putObj V2.heap.size (.deferred none)) := ⟨rfl, rfl, rfl, by simp, fun k _ hk => World.putObj_heap_other hk⟩
                  have t9 : Turn (fun j => j = V.heap.size) (w7.putObj V2.heap.size (.deferred none)) ((w7.putObj V2.heap.size (.deferred none)).putObj V.heap.size (.deferred none)) := ⟨rfl, rfl, rfl, by simp, fun k _ hk => World.putObj_heap_other hk⟩
                  have b8 := HD7.out.2.2.trans (t8.below (fun j e => by rw [e]; exact HVV2.out.2.2) HD7.out.2.2.size)
                  have b9 := b8.trans (t9.below (fun j e => by rw [e]; exact HVV2.out.2.1) b8.size)
                  refine ⟨.bool true, ?_, rfl, b9⟩
                  simp [results, Try.f8, go_sem]
            · have h40' : ((W : Int) != 40) = false := by rw [HWW.out, h40]; rfl
              clear Hb h40
              go_wp2_with fail
              go_loopw [15, 16, 17] (fun v15 v16 v17 wx => ∃ (i : Nat) (lo : Option Addr) (lc : Nat) (mo : Option Addr) (mc : Nat), v15 = .slice lo (W + i) lc ∧ v16 = .slice mo (W + i) mc ∧ v17 = .int .i64 (i : Int) ∧ i ≤ NN ∧ Fi w zs vs gs gs2 oo go2 oc gc2 b5 b12 b13 NN i i lo lc mo mc wx ∧ wx.heap[V.heap.size]? = some (.deferred (some [])) ∧ wx.heap[V2.heap.size]? = some (.deferred (some []))) (fun _ _ v17 _ => NN - (intOf v17).toNat)
              case atStart => exact ⟨0, go, gc, oo, oc, rfl, rfl, rfl, Nat.zero_le _, F2.out.1, F2.out.2.1, F2.out.2.2⟩
              case round =>
                obtain ⟨i, lo, lc, mo, mc, rfl, rfl, rfl, hi, hF, hd1, hd2⟩ := hrel
                clear F2
                have k12 : wr.cell? ⟨b12, 0, none⟩ = some (.int .i64 (NN : Int)) := by rw [Lib.cell_of_heap hF.h12]; rfl
                by_cases hlt : i < NN
                · have hlt' : (i : Int) < (NN : Int) := by omega
                  have ei := hide' (wsucN i (by have := hF.n3; omega))
                  have Hend := hide' (msr' hlt _ rfl)
                  have Hi := hide' hlt
                  obtain ⟨r, hr⟩ : ∃ r, gs2[i]? = some r := ⟨_, List.getElem?_eq_getElem (by rw [hF.n2]; exact hlt)⟩
                  obtain ⟨r5, hr5⟩ : ∃ r, vs[i]? = some r := ⟨_, List.getElem?_eq_getElem (by have := hF.n3; omega)⟩
                  have k13 : wr.cell? ⟨b13, 0, none⟩ = some (.slice go2 NN gc2) := by rw [Lib.cell_of_heap hF.h13, hF.n2]; rfl
                  have hltW : (i : Int) < (W : Int) := by have := hF.n3; have := HWW.out; omega
                  obtain ⟨ab, hab, hac⟩ : ∃ ab, go2 = some ⟨ab, 0, none⟩ ∧ wr.cell? ⟨ab, i, none⟩ = some (.slice r.ao r.len r.cap) := by
                    rcases hF.ca with q | ⟨ab, h1, _, _, h4⟩
                    · rw [q] at hr; simp at hr
                    · exact ⟨ab, h1, h4 i r hr⟩
                  obtain ⟨ob, hob⟩ : ∃ ob, oo = some ⟨ob, 0, none⟩ := by
                    rcases hF.cw with q | ⟨ob, h1, _⟩
                    · rw [q] at hr5; simp at hr5
                    · exact ⟨ob, h1⟩
                  have HF := hide' (And.intro hF (And.intro hd1 hd2))
                  have Hr := hide' (And.intro hr hr5)
                  have HL1 : Hid (((gs ++ gs2.take i).map Rw.v).length = W + i ∧ ((vs ++ vs.take i).map Rw.v).length = W + i ∧ W + i < 1000) := hide' (by
                    have := hF.n1; have := hF.n2; have := hF.n3; have := HWW.out
                    rw [List.length_map, List.length_map, List.length_append, List.length_append, List.length_take, List.length_take]
                    omega)
                  have HWi := hide' (show vs.length + i = W + i by have := HWW.out; omega)
                  clear hF hd1 hd2 hi hlt hr hr5
                  subst hab
                  subst hob
                  go_wp2_with (at_builtin; refine stay_l _ _ _ rfl ?_)
                  unfold Stay
                  refine wpList_slp wr rfl _ _ rfl (n := W + i) HL1.out.1 (by rw [← HWi.out]; exact HF.out.1.lrow) (hide' HL1.out.2.2) HF.out.1.bel.size (.slice r.ao r.len r.cap) rfl _ rfl rfl ?_
                  intro g3 c3 w3 r3 t3 p3
                  have F3a := HF.out.1.more (r := r) Hr.out.1 (by rw [HWi.out]; exact r3) t3 p3
                  have F3b : w3.heap[V.heap.size]? = some (.deferred (some [])) := (t3.block _ (lt_of_heap HF.out.2.1) (fun q => by obtain ⟨_, _, cs, q', hh⟩ := row_kind HF.out.1.lrow q; rw [HF.out.2.1] at hh; cases hh)).trans HF.out.2.1
                  have F3c : w3.heap[V2.heap.size]? = some (.deferred (some [])) := (t3.block _ (lt_of_heap HF.out.2.2) (fun q => by obtain ⟨_, _, cs, q', hh⟩ := row_kind HF.out.1.lrow q; rw [HF.out.2.2] at hh; cases hh)).trans HF.out.2.2
                  have F3 := hide' (And.intro F3a (And.intro F3b F3c))
                  have j5 : w3.cell? ⟨b5, 0, none⟩ = some (.slice (some ⟨ob, 0, none⟩) W oc) := by
                    rw [Lib.cell_of_heap F3.out.1.h5, ← HWW.out]
                    try rfl
                  have jc : w3.cell? ⟨ob, i, none⟩ = some (.slice r5.ao r5.len r5.cap) := by
                    rcases F3.out.1.cw with q | ⟨ob', h1, _, _, h4⟩
                    · have := Hr.out.2
                      rw [q] at this
                      simp at this
                    · cases h1
                      exact h4 i r5 Hr.out.2
                  clear r3 t3 p3 F3a F3b F3c hac k13
                  go_wp2_with (at_builtin; refine stay_l _ _ _ rfl ?_)
                  unfold Stay
                  refine wpList_slp w3 rfl _ _ rfl (n := W + i) HL1.out.2.1 (by rw [← HWi.out]; exact F3.out.1.mrow) (hide' HL1.out.2.2) F3.out.1.bel.size (.slice r5.ao r5.len r5.cap) rfl _ rfl rfl ?_
                  intro g6 c6 w6 r6 t6 p6
                  have F6a := F3.out.1.must (r := r5) Hr.out.2 Hi.out (by rw [HWi.out]; exact r6) t6 p6
                  have F6b : w6.heap[V.heap.size]? = some (.deferred (some [])) := (t6.block _ (lt_of_heap F3.out.2.1) (fun q => by obtain ⟨_, _, cs, q', hh⟩ := row_kind F3.out.1.mrow q; rw [F3.out.2.1] at hh; cases hh)).trans F3.out.2.1
                  have F6c : w6.heap[V2.heap.size]? = some (.deferred (some [])) := (t6.block _ (lt_of_heap F3.out.2.2) (fun q => by obtain ⟨_, _, cs, q', hh⟩ := row_kind F3.out.1.mrow q; rw [F3.out.2.2] at hh; cases hh)).trans F3.out.2.2
                  have F6 := hide' (And.intro F6a (And.intro F6b F6c))
                  clear r6 t6 p6 F6a F6b F6c F3 HF j5 jc
                  go_wp2
                  exact ⟨⟨i + 1, _, _, _, _, rfl, rfl, by first | rfl | (rw [ei.out]), Hi.out, F6.out.1, F6.out.2.1, F6.out.2.2⟩, by first | exact Hend.out | (rw [ei.out]; exact Hend.out)⟩
                · obtain rfl : i = NN := by omega
                  have CA := hide' (hF.apart HM.out.2.2)
                  rw [← HWW.out] at CA
                  have HD := hide' (And.intro hd1 hd2)
                  clear hF hd1 hd2 hi hlt
                  go_wp2_with fail
                  refine CA.out.mono ?_
                  rintro e w7 ⟨rfl, b7, k7⟩
                  have D1 := k7 _ _ rfl HD.out.1
                  have D2 := k7 _ _ rfl HD.out.2
                  have HD7 := hide' (And.intro D1 (And.intro D2 b7))
                  clear D1 D2 b7 k7 HD CA
                  go_wp2
                  refine ⟨by simp, .inl ⟨_, _, rfl, run_takeDeferred HD7.out.2.1, ?_⟩⟩
                  have hq1 : (w7.putObj V2.heap.size (.deferred none)).heap[V.heap.size]? = some (.deferred (some [])) := (World.putObj_heap_other HVV2.out.1).trans HD7.out.1
                  refine ⟨by simp, .inl ⟨_, _, rfl, run_takeDeferred hq1, ?_⟩⟩
                  have t8 : Turn (fun j => j = V2.heap.size) w7 (w7.putObj V2.heap.size (.deferred none)) := ⟨rfl, rfl, rfl, by simp, fun k _ hk => World.putObj_heap_other hk⟩
                  have t9 : Turn (fun j => j = V.heap.size) (w7.putObj V2.heap.size (.deferred none)) ((w7.putObj V2.heap.size (.deferred none)).putObj V.heap.size (.deferred none)) := ⟨rfl, rfl, rfl, by simp, fun k _ hk => World.putObj_heap_other hk⟩
                  have b8 := HD7.out.2.2.trans (t8.below (fun j e => by rw [e]; exact HVV2.out.2.2) HD7.out.2.2.size)
                  have b9 := b8.trans (t9.below (fun j e => by rw [e]; exact HVV2.out.2.1) b8.size)
                  refine ⟨.bool true, ?_, rfl, b9⟩
                  simp [results, Try.f8, go_sem]
          · have hmin : min n vs.length = n := by omega
            rw [hmin] at hG2
            rw [hWW] at e13
            rw [hmin] at e13
            have F0 := fi_mk MD.out HBl.out.1 HBl.out.2 HV2x.out.2.2.2.1 hG2 (Turn.refl _ X2) hbk12 (by omega) hv40.out hD2
            obtain ⟨NN, hNN⟩ : ∃ NN, NN = n := ⟨_, rfl⟩
            have F2 : Hid (Fi w zs vs gs gs2 oo go2 oc gc2 b5 b12 b13 NN 0 0 go gc oo oc X2 ∧ X2.heap[V.heap.size]? = some (.deferred (some [])) ∧ X2.heap[V2.heap.size]? = some (.deferred (some []))) := hide' (by rw [hNN]; exact F0)
            clear hG2 hD2 hbX2 hbk12 F0 hmin hWW hNN MD HD2 HV2x SQ2 hMb2 HV SQ hMb
            rcases Hb.out with rfl | ⟨rfl, h40⟩
            · clear Hb
              go_wp2_with fail
              go_loopw [15, 16, 17] (fun v15 v16 v17 wx => ∃ (i : Nat) (lo : Option Addr) (lc : Nat) (mo : Option Addr) (mc : Nat), v15 = .slice lo (W + i) lc ∧ v16 = .slice mo (W + i) mc ∧ v17 = .int .i64 (i : Int) ∧ i ≤ NN ∧ Fi w zs vs gs gs2 oo go2 oc gc2 b5 b12 b13 NN i i lo lc mo mc wx ∧ wx.heap[V.heap.size]? = some (.deferred (some [])) ∧ wx.heap[V2.heap.size]? = some (.deferred (some []))) (fun _ _ v17 _ => NN - (intOf v17).toNat)
              case atStart => exact ⟨0, go, gc, oo, oc, rfl, rfl, rfl, Nat.zero_le _, F2.out.1, F2.out.2.1, F2.out.2.2⟩
              case round =>
                obtain ⟨i, lo, lc, mo, mc, rfl, rfl, rfl, hi, hF, hd1, hd2⟩ := hrel
                clear F2
                have k12 : wr.cell? ⟨b12, 0, none⟩ = some (.int .i64 (NN : Int)) := by rw [Lib.cell_of_heap hF.h12]; rfl
                by_cases hlt : i < NN
                · have hlt' : (i : Int) < (NN : Int) := by omega
                  have ei := hide' (wsucN i (by have := hF.n3; omega))
                  have Hend := hide' (msr' hlt _ rfl)
                  have Hi := hide' hlt
                  obtain ⟨r, hr⟩ : ∃ r, gs2[i]? = some r := ⟨_, List.getElem?_eq_getElem (by rw [hF.n2]; exact hlt)⟩
                  obtain ⟨r5, hr5⟩ : ∃ r, vs[i]? = some r := ⟨_, List.getElem?_eq_getElem (by have := hF.n3; omega)⟩
                  have k13 : wr.cell? ⟨b13, 0, none⟩ = some (.slice go2 NN gc2) := by rw [Lib.cell_of_heap hF.h13, hF.n2]; rfl
                  have hltW : (i : Int) < (W : Int) := by have := hF.n3; have := HWW.out; omega
                  obtain ⟨ab, hab, hac⟩ : ∃ ab, go2 = some ⟨ab, 0, none⟩ ∧ wr.cell? ⟨ab, i, none⟩ = some (.slice r.ao r.len r.cap) := by
                    rcases hF.ca with q | ⟨ab, h1, _, _, h4⟩
                    · rw [q] at hr; simp at hr
                    · exact ⟨ab, h1, h4 i r hr⟩
                  obtain ⟨ob, hob⟩ : ∃ ob, oo = some ⟨ob, 0, none⟩ := by
                    rcases hF.cw with q | ⟨ob, h1, _⟩
                    · rw [q] at hr5; simp at hr5
                    · exact ⟨ob, h1⟩
                  have HF := hide' (And.intro hF (And.intro hd1 hd2))
                  have Hr := hide' (And.intro hr hr5)
                  have HL1 : Hid (((gs ++ gs2.take i).map Rw.v).length = W + i ∧ ((vs ++ vs.take i).map Rw.v).length = W + i ∧ W + i < 1000) := hide' (by
                    have := hF.n1; have := hF.n2; have := hF.n3; have := HWW.out
                    rw [List.length_map, List.length_map, List.length_append, List.length_append, List.length_take, List.length_take]
                    omega)
                  have HWi := hide' (show vs.length + i = W + i by have := HWW.out; omega)
                  clear hF hd1 hd2 hi hlt hr hr5
                  subst hab
                  subst hob
                  go_wp2_with (at_builtin; refine stay_l _ _ _ rfl ?_)
                  unfold Stay
                  refine wpList_slp wr rfl _ _ rfl (n := W + i) HL1.out.1 (by rw [← HWi.out]; exact HF.out.1.lrow) (hide' HL1.out.2.2) HF.out.1.bel.size (.slice r.ao r.len r.cap) rfl _ rfl rfl ?_
                  intro g3 c3 w3 r3 t3 p3
                  have F3a := HF.out.1.more (r := r) Hr.out.1 (by rw [HWi.out]; exact r3) t3 p3
                  have F3b : w3.heap[V.heap.size]? = some (.deferred (some [])) := (t3.block _ (lt_of_heap HF.out.2.1) (fun q => by obtain ⟨_, _, cs, q', hh⟩ := row_kind HF.out.1.lrow q; rw [HF.out.2.1] at hh; cases hh)).trans HF.out.2.1
                  have F3c : w3.heap[V2.heap.size]? = some (.deferred (some [])) := (t3.block _ (lt_of_heap HF.out.2.2) (fun q => by obtain ⟨_, _, cs, q', hh⟩ := row_kind HF.out.1.lrow q; rw [HF.out.2.2] at hh; cases hh)).trans HF.out.2.2
                  have F3 := hide' (And.intro F3a (And.intro F3b F3c))
                  have j5 : w3.cell? ⟨b5, 0, none⟩ = some (.slice (some ⟨ob, 0, none⟩) W oc) := by
                    rw [Lib.cell_of_heap F3.out.1.h5, ← HWW.out]
                    try rfl
                  have jc : w3.cell? ⟨ob, i, none⟩ = some (.slice r5.ao r5.len r5.cap) := by
                    rcases F3.out.1.cw with q | ⟨ob', h1, _, _, h4⟩
                    · have := Hr.out.2
                      rw [q] at this
                      simp at this
                    · cases h1
                      exact h4 i r5 Hr.out.2
                  clear r3 t3 p3 F3a F3b F3c hac k13
                  go_wp2_with (at_builtin; refine stay_l _ _ _ rfl ?_)
                  unfold Stay
                  refine wpList_slp w3 rfl _ _ rfl (n := W + i) HL1.out.2.1 (by rw [← HWi.out]; exact F3.out.1.mrow) (hide' HL1.out.2.2) F3.out.1.bel.size (.slice r5.ao r5.len r5.cap) rfl _ rfl rfl ?_
                  intro g6 c6 w6 r6 t6 p6
                  have F6a := F3.out.1.must (r := r5) Hr.out.2 Hi.out (by rw [HWi.out]; exact r6) t6 p6
                  have F6b : w6.heap[V.heap.size]? = some (.deferred (some [])) := (t6.block _ (lt_of_heap F3.out.2.1) (fun q => by obtain ⟨_, _, cs, q', hh⟩ := row_kind F3.out.1.mrow q; rw [F3.out.2.1] at hh; cases hh)).trans F3.out.2.1
                  have F6c : w6.heap[V2.heap.size]? = some (.deferred (some [])) := (t6.block _ (lt_of_heap F3.out.2.2) (fun q => by obtain ⟨_, _, cs, q', hh⟩ := row_kind F3.out.1.mrow q; rw [F3.out.2.2] at hh; cases hh)).trans F3.out.2.2
                  have F6 := hide' (And.intro F6a (And.intro F6b F6c))
                  clear r6 t6 p6 F6a F6b F6c F3 HF j5 jc
                  go_wp2
                  exact ⟨⟨i + 1, _, _, _, _, rfl, rfl, by first | rfl | (rw [ei.out]), Hi.out, F6.out.1, F6.out.2.1, F6.out.2.2⟩, by first | exact Hend.out | (rw [ei.out]; exact Hend.out)⟩
                · obtain rfl : i = NN := by omega
                  have CA := hide' (hF.apart HM.out.2.2)
                  rw [← HWW.out] at CA
                  have HD := hide' (And.intro hd1 hd2)
                  clear hF hd1 hd2 hi hlt
                  go_wp2_with fail
                  refine CA.out.mono ?_
                  rintro e w7 ⟨rfl, b7, k7⟩
                  have D1 := k7 _ _ rfl HD.out.1
                  have D2 := k7 _ _ rfl HD.out.2
                  have HD7 := hide' (And.intro D1 (And.intro D2 b7))
                  clear D1 D2 b7 k7 HD CA
                  go_wp2
                  refine ⟨by simp, .inl ⟨_, _, rfl, run_takeDeferred HD7.out.2.1, ?_⟩⟩
                  have hq1 : (w7.putObj V2.heap.size (.deferred none)).heap[V.heap.size]? = some (.deferred (some [])) := (World.putObj_heap_other HVV2.out.1).trans HD7.out.1
                  refine ⟨by simp, .inl ⟨_, _, rfl, run_takeDeferred hq1, ?_⟩⟩
                  have t8 : Turn (fun j => j = V2.heap.size) w7 (w7.putObj V2.heap.size (.deferred none)) := ⟨rfl, rfl, rfl, by simp, fun k _ hk => World.putObj_heap_other hk⟩
                  have t9 : Turn (fun j => j = V.heap.size) (w7.putObj V2.heap.size (.deferred none)) ((w7.putObj V2.heap.size (.deferred none)).putObj V.heap.size (.deferred none)) := ⟨rfl, rfl, rfl, by simp, fun k _ hk => World.putObj_heap_other hk⟩
                  have b8 := HD7.out.2.2.trans (t8.below (fun j e => by rw [e]; exact HVV2.out.2.2) HD7.out.2.2.size)
                  have b9 := b8.trans (t9.below (fun j e => by rw [e]; exact HVV2.out.2.1) b8.size)
                  refine ⟨.bool true, ?_, rfl, b9⟩
                  simp [results, Try.f8, go_sem]
            · have h40' : ((W : Int) != 40) = false := by rw [HWW.out, h40]; rfl
              clear Hb h40
              go_wp2_with fail
              go_loopw [15, 16, 17] (fun v15 v16 v17 wx => ∃ (i : Nat) (lo : Option Addr) (lc : Nat) (mo : Option Addr) (mc : Nat), v15 = .slice lo (W + i) lc ∧ v16 = .slice mo (W + i) mc ∧ v17 = .int .i64 (i : Int) ∧ i ≤ NN ∧ Fi w zs vs gs gs2 oo go2 oc gc2 b5 b12 b13 NN i i lo lc mo mc wx ∧ wx.heap[V.heap.size]? = some (.deferred (some [])) ∧ wx.heap[V2.heap.size]? = some (.deferred (some []))) (fun _ _ v17 _ => NN - (intOf v17).toNat)
              case atStart => exact ⟨0, go, gc, oo, oc, rfl, rfl, rfl, Nat.zero_le _, F2.out.1, F2.out.2.1, F2.out.2.2⟩
              case round =>
                obtain ⟨i, lo, lc, mo, mc, rfl, rfl, rfl, hi, hF, hd1, hd2⟩ := hrel
                clear F2
                have k12 : wr.cell? ⟨b12, 0, none⟩ = some (.int .i64 (NN : Int)) := by rw [Lib.cell_of_heap hF.h12]; rfl
                by_cases hlt : i < NN
                · have hlt' : (i : Int) < (NN : Int) := by omega
                  have ei := hide' (wsucN i (by have := hF.n3; omega))
                  have Hend := hide' (msr' hlt _ rfl)
                  have Hi := hide' hlt
                  obtain ⟨r, hr⟩ : ∃ r, gs2[i]? = some r := ⟨_, List.getElem?_eq_getElem (by rw [hF.n2]; exact hlt)⟩
                  obtain ⟨r5, hr5⟩ : ∃ r, vs[i]? = some r := ⟨_, List.getElem?_eq_getElem (by have := hF.n3; omega)⟩
                  have k13 : wr.cell? ⟨b13, 0, none⟩ = some (.slice go2 NN gc2) := by rw [Lib.cell_of_heap hF.h13, hF.n2]; rfl
                  have hltW : (i : Int) < (W : Int) := by have := hF.n3; have := HWW.out; omega
                  obtain ⟨ab, hab, hac⟩ : ∃ ab, go2 = some ⟨ab, 0, none⟩ ∧ wr.cell? ⟨ab, i, none⟩ = some (.slice r.ao r.len r.cap) := by
                    rcases hF.ca with q | ⟨ab, h1, _, _, h4⟩
                    · rw [q] at hr; simp at hr
                    · exact ⟨ab, h1, h4 i r hr⟩
                  obtain ⟨ob, hob⟩ : ∃ ob, oo = some ⟨ob, 0, none⟩ := by
                    rcases hF.cw with q | ⟨ob, h1, _⟩
                    · rw [q] at hr5; simp at hr5
                    · exact ⟨ob, h1⟩
                  have HF := hide' (And.intro hF (And.intro hd1 hd2))
                  have Hr := hide' (And.intro hr hr5)
                  have HL1 : Hid (((gs ++ gs2.take i).map Rw.v).length = W + i ∧ ((vs ++ vs.take i).map Rw.v).length = W + i ∧ W + i < 1000) := hide' (by
                    have := hF.n1; have := hF.n2; have := hF.n3; have := HWW.out
                    rw [List.length_map, List.length_map, List.length_append, List.length_append, List.length_take, List.length_take]
                    omega)
                  have HWi := hide' (show vs.length + i = W + i by have := HWW.out; omega)
                  clear hF hd1 hd2 hi hlt hr hr5
                  subst hab
                  subst hob
                  go_wp2_with (at_builtin; refine stay_l _ _ _ rfl ?_)
                  unfold Stay
                  refine wpList_slp wr rfl _ _ rfl (n := W + i) HL1.out.1 (by rw [← HWi.out]; exact HF.out.1.lrow) (hide' HL1.out.2.2) HF.out.1.bel.size (.slice r.ao r.len r.cap) rfl _ rfl rfl ?_
                  intro g3 c3 w3 r3 t3 p3
                  have F3a := HF.out.1.more (r := r) Hr.out.1 (by rw [HWi.out]; exact r3) t3 p3
                  have F3b : w3.heap[V.heap.size]? = some (.deferred (some [])) := (t3.block _ (lt_of_heap HF.out.2.1) (fun q => by obtain ⟨_, _, cs, q', hh⟩ := row_kind HF.out.1.lrow q; rw [HF.out.2.1] at hh; cases hh)).trans HF.out.2.1
                  have F3c : w3.heap[V2.heap.size]? = some (.deferred (some [])) := (t3.block _ (lt_of_heap HF.out.2.2) (fun q => by obtain ⟨_, _, cs, q', hh⟩ := row_kind HF.out.1.lrow q; rw [HF.out.2.2] at hh; cases hh)).trans HF.out.2.2
                  have F3 := hide' (And.intro F3a (And.intro F3b F3c))
                  have j5 : w3.cell? ⟨b5, 0, none⟩ = some (.slice (some ⟨ob, 0, none⟩) W oc) := by
                    rw [Lib.cell_of_heap F3.out.1.h5, ← HWW.out]
                    try rfl
                  have jc : w3.cell? ⟨ob, i, none⟩ = some (.slice r5.ao r5.len r5.cap) := by
                    rcases F3.out.1.cw with q | ⟨ob', h1, _, _, h4⟩
                    · have := Hr.out.2
                      rw [q] at this
                      simp at this
                    · cases h1
                      exact h4 i r5 Hr.out.2
                  clear r3 t3 p3 F3a F3b F3c hac k13
                  go_wp2_with (at_builtin; refine stay_l _ _ _ rfl ?_)
                  unfold Stay
                  refine wpList_slp w3 rfl _ _ rfl (n := W + i) HL1.out.2.1 (by rw [← HWi.out]; exact F3.out.1.mrow) (hide' HL1.out.2.2) F3.out.1.bel.size (.slice r5.ao r5.len r5.cap) rfl _ rfl rfl ?_
                  intro g6 c6 w6 r6 t6 p6
                  have F6a := F3.out.1.must (r := r5) Hr.out.2 Hi.out (by rw [HWi.out]; exact r6) t6 p6
                  have F6b : w6.heap[V.heap.size]? = some (.deferred (some [])) := (t6.block _ (lt_of_heap F3.out.2.1) (fun q => by obtain ⟨_, _, cs, q', hh⟩ := row_kind F3.out.1.mrow q; rw [F3.out.2.1] at hh; cases hh)).trans F3.out.2.1
                  have F6c : w6.heap[V2.heap.size]? = some (.deferred (some [])) := (t6.block _ (lt_of_heap F3.out.2.2) (fun q => by obtain ⟨_, _, cs, q', hh⟩ := row_kind F3.out.1.mrow q; rw [F3.out.2.2] at hh; cases hh)).trans F3.out.2.2
                  have F6 := hide' (And.intro F6a (And.intro F6b F6c))
                  clear r6 t6 p6 F6a F6b F6c F3 HF j5 jc
                  go_wp2
                  exact ⟨⟨i + 1, _, _, _, _, rfl, rfl, by first | rfl | (rw [ei.out]), Hi.out, F6.out.1, F6.out.2.1, F6.out.2.2⟩, by first | exact Hend.out | (rw [ei.out]; exact Hend.out)⟩
                · obtain rfl : i = NN := by omega
                  have CA := hide' (hF.apart HM.out.2.2)
                  rw [← HWW.out] at CA
                  have HD := hide' (And.intro hd1 hd2)
                  clear hF hd1 hd2 hi hlt
                  go_wp2_with fail
                  refine CA.out.mono ?_
                  rintro e w7 ⟨rfl, b7, k7⟩
                  have D1 := k7 _ _ rfl HD.out.1
                  have D2 := k7 _ _ rfl HD.out.2
                  have HD7 := hide' (And.intro D1 (And.intro D2 b7))
                  clear D1 D2 b7 k7 HD CA
                  go_wp2
                  refine ⟨by simp, .inl ⟨_, _, rfl, run_takeDeferred HD7.out.2.1, ?_⟩⟩
                  have hq1 : (w7.putObj V2.heap.size (.deferred none)).heap[V.heap.size]? = some (.deferred (some [])) := (World.putObj_heap_other HVV2.out.1).trans HD7.out.1
                  refine ⟨by simp, .inl ⟨_, _, rfl, run_takeDeferred hq1, ?_⟩⟩
                  have t8 : Turn (fun j => j = V2.heap.size) w7 (w7.putObj V2.heap.size (.deferred none)) := ⟨rfl, rfl, rfl, by simp, fun k _ hk => World.putObj_heap_other hk⟩
                  have t9 : Turn (fun j => j = V.heap.size) (w7.putObj V2.heap.size (.deferred none)) ((w7.putObj V2.heap.size (.deferred none)).putObj V.heap.size (.deferred none)) := ⟨rfl, rfl, rfl, by simp, fun k _ hk => World.putObj_heap_other hk⟩
                  have b8 := HD7.out.2.2.trans (t8.below (fun j e => by rw [e]; exact HVV2.out.2.2) HD7.out.2.2.size)
                  have b9 := b8.trans (t9.below (fun j e => by rw [e]; exact HVV2.out.2.1) b8.size)
                  refine ⟨.bool true, ?_, rfl, b9⟩
                  simp [results, Try.f8, go_sem]
      case stop =>
        rintro c k X ⟨rfl, ⟨gs, go, gc, hG⟩, hkW, h40⟩ hD
        rw [hkW] at hG
        clear hkW h40
        refine wpIn_wide.2 ?_
        have MD : Hid (Md w zs vs oo oc b5 g tc cb ca cc V b10 gs go gc X) := hide' ⟨HV.out.2.1.turn hG.t (fun j hj e => HV.out.2.2.2.1 (by rw [← e]; exact hj)) (fun e => HV.out.2.2.2.2.1 e.symm) (fun e => hg10.out e) (fun j hj e => HV.out.2.2.1 (by rw [← e]; exact hj)) (fun j e => by rw [e]; exact HV.out.2.2.2.2.2), hG, hD, HV.out.2.1⟩
        have CWh := hide' (which_any left 41 (by omega) (by omega) X)
        clear hG hD
        go_wp2_with fail
        refine CWh.out.mono ?_
        rintro e w5 ⟨n, rfl, hn41, hw5⟩
        obtain rfl := hw5.symm
        have Hn41 := hide' hn41
        clear hw5 CWh hn41
        obtain ⟨V2, hV2⟩ : ∃ V2, V2 = (X.alloc (.cells #[.int .i64 (n : Int)] 3)).alloc (.cells #[.slice none 0 0] 31) := ⟨_, rfl⟩
        obtain ⟨b12, hb12⟩ : ∃ b, b = X.heap.size := ⟨_, rfl⟩
        obtain ⟨b13, hb13⟩ : ∃ b, b = X.heap.size + 1 := ⟨_, rfl⟩
        have HV2 := hide' hV2
        have HB12 := hide' hb12
        have HB13 := hide' hb13
        go_wp2_with fail
        rw [← HB13.out, ← HB12.out, ← HV2.out]
        have hb2V : Below X.heap.size X V2 := by rw [hV2]; exact ((Below.refl _ _).alloc (Nat.le_refl _) _).alloc (by simp) _
        have HV2x : Hid (V2.heap[b13]? = some (.cells #[.slice none 0 0] 31 (0, 0)) ∧ V2.heap[b12]? = some (.cells #[.int .i64 (n : Int)] 3 (0, 0)) ∧ Ms w zs vs oo oc b5 g tc cb ca cc V2 ∧ Below X.heap.size X V2 ∧ ¬ BM cb ca zs b13 ∧ b12 ≠ b13) := hide' (by
          have q0 : (X.alloc (.cells #[.int .i64 (n : Int)] 3)).heap.size = X.heap.size + 1 := by simp
          refine ⟨?_, ?_, MD.out.ms.below hb2V, hb2V, fun q => by have := MD.out.ms.bx.lt q; omega, by omega⟩
          · rw [hV2, hb13, ← q0]; exact heap_alloc_new _ _
          · rw [hV2, hb12]; exact (Below.heap_alloc _ _ _ (by simp)).trans (heap_alloc_new _ _))
        have SQ2 := hide' (mixes_seq HV2x.out.2.2.1.bx HM.out.2.1 HM.out.2.2)
        have hMb2 : Hid (∀ j, BM cb ca zs j → j < V2.heap.size) := hide' (fun j q => HV2x.out.2.2.1.bx.lt q)
        have HBl : Hid ((X.heap.size ≤ b12 ∧ b12 < V2.heap.size) ∧ (X.heap.size ≤ b13 ∧ b13 < V2.heap.size ∧ b12 ≠ b13)) := hide' ⟨⟨by omega, lt_of_heap HV2x.out.2.1⟩, by omega, lt_of_heap HV2x.out.1, by omega⟩
        clear hb2V hV2 hb12 hb13 HV2 HB12 HB13
        refine (wpIn_wide (n := 1)).1 ?_
        refine range_g rfl (Nat.le_refl _) (gf := 53) (lb := #[.pointer (some ⟨cb, 0, none⟩)]) rfl trivial Try.call53 SQ2.out (Nat.le_refl _) (fun j q => ⟨hMb2.out j q, rfl⟩) (fun x => rfl)
          (fun M k X => (∃ gs go gc, Gi V2 b13 zs k gs go gc M X) ∧ k ≤ n) (fun c k X => c = .exit 4 ∧ (∃ gs go gc, Gi V2 b13 zs n gs go gc (fun _ => False) X) ∧ n ≤ vs.length)
          (fun M k x a' X => (∃ gs go gc, Gi V2 b13 zs k gs go gc M X) ∧ k ≤ n ∧ IsO zs (V2.heap.size + 2) M k x X ∧ (∀ j, M j → j < X.heap.size) ∧ a' = { tmps := #[Value.slice a zs.length c, Value.int IntKind.i64 left, undef, undef, Value.bool false, Value.pointer (some { block := b5, off := 0 }), Value.bool b, Value.slice (some { block := g, off := 0 }) zs.length tc, Value.func (Fn.func 53) #[] #[Value.pointer (some { block := cb, off := 0 })], Value.int IntKind.i64 ↑zs.length, Value.pointer (some { block := b10, off := 0 }), undef, Value.pointer (some { block := b12, off := 0 }), Value.pointer (some { block := b13, off := 0 }), Value.slice x.1 (sm zs) x.2, undef, undef, undef, Value.tuple #[Value.slice oo vs.length oc, Value.bool b], Value.slice a zs.length c, Value.tuple #[Value.slice oo vs.length oc, Value.bool b], Value.slice oo vs.length oc, Value.bool b, Value.slice a zs.length c, Value.slice (some { block := g, off := 0 }) zs.length tc, Value.slice (some { block := g, off := 0 }) zs.length tc, Value.func (Fn.func 53) #[] #[Value.pointer (some { block := cb, off := 0 })], Value.func (Fn.func 53) #[] #[Value.pointer (some { block := cb, off := 0 })], Value.bool false, Value.bool false, Value.slice (some { block := g, off := 0 }) zs.length tc, Value.slice a zs.length c, Value.bool true, Value.bool false, Value.bool false, Value.int IntKind.i64 ↑zs.length, Value.slice (some { block := g, off := 0 }) zs.length tc, Value.int IntKind.i64 ↑zs.length, Value.bool false, u39, u40, u41, u42, u43, Value.func (Fn.func 53) #[] #[Value.pointer (some { block := cb, off := 0 })], undef, undef, undef, undef, undef, undef, undef, undef, undef, undef, undef, undef, undef, undef, undef, Value.int IntKind.i64 left, Value.int IntKind.i64 ↑n, Value.func (Fn.func 53) #[] #[Value.pointer (some { block := cb, off := 0 })], Value.slice x.1 (sm zs) x.2, undef, undef, undef, undef, undef, undef, undef, undef, undef, undef, undef, undef, undef, undef, undef, undef, undef, undef, undef, undef, undef, undef, undef, undef, undef, undef, undef, undef, undef, undef, undef, undef, undef, undef, undef, undef, undef, undef, undef, undef, undef, undef, undef, undef, undef, undef, undef, undef, undef, undef, undef, undef, undef, undef, undef, undef], defers := [] })
          ?start2 ?stab2 ?stabx2 ?staba2 ?assign2 ?body2 ?done2 ?stop2
        case start2 => exact ⟨⟨[], none, 0, Gi.start HV2x.out.1 HV2x.out.2.2.2.2.1⟩, Nat.zero_le _⟩
        case stab2 => exact fun M M' k X1 X2 ⟨⟨gs, go, gc, h⟩, hk⟩ t hm => ⟨⟨gs, go, gc, h.qm t hm⟩, hk⟩
        case stabx2 => exact fun c k X1 X2 ⟨hc, ⟨gs, go, gc, h⟩, hk⟩ t => ⟨hc, ⟨gs, go, gc, h.qm (QM.of t) (fun j q => .inl q)⟩, hk⟩
        case staba2 =>
          rintro M k x a' X1 X2 ⟨⟨gs, go, gc, h⟩, hk, ⟨l, h1, h2, h3⟩, hm, ha⟩ t
          exact ⟨⟨gs, go, gc, h.qm (QM.of t) (fun j q => .inl q)⟩, hk, ⟨l, h1, row_qt h2 t, h3⟩, fun j q => Nat.lt_of_lt_of_le (hm j q) (Turn.size t), ha⟩
        case assign2 =>
          intro m l' M k x X1 K hx h hm hK
          have HKK := hide' hK
          have Hh := hide' (And.intro h (And.intro hx hm))
          clear hK h hm hx
          unfold encL
          gi_wp2
          exact HKK.out _ _ (Turn.refl _ X1) ⟨Hh.out.1.1, Hh.out.1.2, Hh.out.2.1, fun j q => (Hh.out.2.2 j q).1, rfl⟩
        case body2 =>
          rintro m l' M k ⟨ro, rc⟩ a' X1 ⟨⟨gs, go, gc, h⟩, hk, ⟨l, h1, h2, h3⟩, hm, rfl⟩
          have hll := chn_len h1
          have hkl := h.kl
          have e13 : X1.cell? ⟨b13, 0, none⟩ = some (.slice go k gc) := by rw [Lib.cell_of_heap h.hb, hkl]; rfl
          have e12 : X1.cell? ⟨b12, 0, none⟩ = some (.int .i64 (n : Int)) := by
            have q := (h.t.block b12 (lt_of_heap HV2x.out.2.1) HV2x.out.2.2.2.2.2).trans HV2x.out.2.1
            rw [Lib.cell_of_heap q]; rfl
          have HNW := hide' (fun (e : k = n) => again_left (n := n) (l := l) HW.out (by rw [← e]; exact h1) (by have := Hn41.out; omega))
          by_cases hkn : k = n
          · have hke : ((k : Int) == (n : Int)) = true := by simp; omega
            have HG := hide' (h.sub (M' := fun _ => False) (fun j q => q.elim))
            have HNW2 := hide' (HNW.out hkn)
            have HKn := hide' hkn
            clear h h1 h2 h3 hm hk hll hkl hkn HNW
            gi_wp2
            exact ⟨⟨Nat.le_refl _, fun j o _ hj _ => hj⟩, rfl, ⟨gs, go, gc, by rw [← HKn.out]; exact HG.out⟩, HNW2.out⟩
          · have hke : ((k : Int) == (n : Int)) = false := by simp; omega
            have hrow : X1.ownsRow V2.heap.size 23 1 (.slice go k gc) k (gs.map Rw.v) := by have := h.row; rw [hkl] at this; exact this
            have h2' : X1.ownsRow V2.heap.size 3 1 (.slice ro l.length rc) l.length (ivs l) := by rw [hll]; exact (Gr.mono (B := V2.heap.size + 2) (B' := V2.heap.size) (l := l) ⟨by rw [hll]; exact h2⟩ (by omega)).row |> fun q => by rw [hll] at q; exact q
            have HR := hide' hrow
            have HH := hide' (And.intro h (And.intro h1 (And.intro h2' (And.intro h3 (And.intro hm (And.intro (show k + 1 ≤ n by omega) hll))))))
            have HB3 : Hid (V2.heap.size ≤ X1.heap.size) := hide' h.t.size
            have Hk40 := hide' (show k < 41 by have := Hn41.out; omega)
            obtain ⟨i0, hi, hz0, hz1, hz2⟩ := info_parts info23
            simp only at *
            clear h h1 h2 h2' h3 hm hk hrow hll hkl hkn HNW
            gi_wp2_with (with_reducible refine stay_app _ _ 31 rfl ?_)
            unfold Stay
            refine appendIn _ rfl _ _ 31 rfl V2.heap.size 23 i0 _ 1 24 Try.underlying31 hi hz0 hz1 hz2 rfl (by decide) (.slice go k gc) k (gs.map Rw.v) rfl (HR.out.alloc _) ⟨X1.heap.size, 0, none⟩ 1 1 [.slice ro (sm zs) rc] rfl rfl (one_new _ _ _) (by simp [Value.oneCell']) (by decide) (by have := Hk40.out; unfold maxLen; omega) (by have := Hk40.out; omega) (by have := HB3.out; simp; omega) ?_
            intro g' cap' X3 hrow3 hgrow3 hat3
            obtain ⟨h, h1, h2', h3, hm, hk, hll⟩ := HH.out
            have hkl := h.kl
            have P3 := h.add h1 h2' h3 (gg := g') (cc := cap') (X1 := X3) (by rw [hkl, hll]; exact hrow3) (by rw [hkl, hll]; exact hgrow3) (by rw [hkl]; rcases hat3 with q | q; exact .inl q; exact .inr (by rw [q]; simp)) hm
            rw [hkl] at P3
            have PP := hide' (And.intro P3 hk)
            have f5 : X3.cell? ⟨b13, 0, none⟩ = some (.slice go k gc) := by rw [Lib.cell_of_heap P3.2.2.2]; rfl
            have f6 : X3.frozen? ⟨b13, 0, none⟩ = false := Lib.frozen_of_heap P3.2.2.2 0
            clear P3 hrow3 hgrow3 hat3 h h1 h2' h3 hm hk hll hkl HH HR
            gi_wp2
            exact ⟨PP.out.1.1, ⟨⟨_, _, _, PP.out.1.2.1⟩, PP.out.2⟩, PP.out.1.2.2.1⟩
        case done2 =>
          intro M k X2 hfin ⟨⟨gs2, go2, gc2, hG0⟩, hk⟩ hD2
          have hkN := again_end HW.out hfin hk (by have := Hn41.out; omega)
          have hG2 := hG0.sub (M' := fun _ => False) (fun j q => q.elim)
          rw [hkN] at hG2
          clear hG0 hfin hk hkN
          have hbX2 : Below X.heap.size X X2 := HV2x.out.2.2.2.1.trans (hG2.t.below (fun j e => by rw [e]; exact HBl.out.2.1) HV2x.out.2.2.2.1.size)
          have hbk12 : X2.heap[b12]? = some (.cells #[.int .i64 (n : Int)] 3 (0, 0)) := (hG2.t.block b12 (lt_of_heap HV2x.out.2.1) HV2x.out.2.2.2.2.2).trans HV2x.out.2.1
          have e12 : X2.cell? ⟨b12, 0, none⟩ = some (.int .i64 (n : Int)) := by rw [Lib.cell_of_heap hbk12]; rfl
          have f12 : X2.frozen? ⟨b12, 0, none⟩ = false := Lib.frozen_of_heap hbk12 0
          have e10 : X2.cell? ⟨b10, 0, none⟩ = some (.slice go vs.length gc) := by
            have q := (hbX2.block b10 (lt_of_heap MD.out.gi.hb)).trans MD.out.gi.hb
            rw [Lib.cell_of_heap q, MD.out.gi.kl]; rfl
          have e5 : X2.cell? ⟨b5, 0, none⟩ = some (.slice oo vs.length oc) := by
            have q := (hbX2.block b5 (lt_of_heap MD.out.ms.h5)).trans MD.out.ms.h5
            rw [Lib.cell_of_heap q]; rfl
          have e13 : X2.cell? ⟨b13, 0, none⟩ = some (.slice go2 (min n vs.length) gc2) := by rw [Lib.cell_of_heap hG2.hb, hG2.kl]; rfl
          have Hb : Hid (b = true ∨ b = false ∧ vs.length = 40) := hide' (by
            rcases HW.out with ⟨q, _⟩ | ⟨q, q2, _⟩
            · exact .inl q
            · exact .inr ⟨q, q2⟩)
          obtain ⟨W, hWW⟩ : ∃ W, W = vs.length := ⟨_, rfl⟩
          have HWW := hide' hWW
          rw [← hWW] at e10 e5 e13
          try rw [← hWW]
          have HD2 := hide' hD2
          have HVV2 : Hid (V.heap.size ≠ V2.heap.size ∧ w.heap.size ≤ V.heap.size ∧ w.heap.size ≤ V2.heap.size) := hide' (by have q1 := lt_of_heap MD.out.df; have q2 := HV2x.out.2.2.2.1.size; have q3 := MD.out.msV.bel.size; omega)
          by_cases hnW : (n : Int) > (W : Int)
          · have hmin : min n vs.length = vs.length := by omega
            rw [hmin] at hG2
            rw [hWW] at e13
            rw [hmin, ← hWW] at e13
            have t3 : Turn (fun j => j = b12) X2 (X2.setCell ⟨b12, 0, none⟩ (.int .i64 (vs.length : Int))) := (Turn.refl (fun j => j = b12) X2).setCell (p := ⟨b12, 0, none⟩) (fun _ => rfl) _
            have F0 := fi_mk MD.out HBl.out.1 HBl.out.2 HV2x.out.2.2.2.1 hG2 t3 (set_block hbk12) (Nat.le_refl _) hv40.out hD2
            have F1 : Hid (Fi w zs vs gs gs2 oo go2 oc gc2 b5 b12 b13 W 0 0 go gc oo oc (X2.setCell ⟨b12, 0, none⟩ (.int .i64 (W : Int))) ∧ (X2.setCell ⟨b12, 0, none⟩ (.int .i64 (W : Int))).heap[V.heap.size]? = some (.deferred (some [])) ∧ (X2.setCell ⟨b12, 0, none⟩ (.int .i64 (W : Int))).heap[V2.heap.size]? = some (.deferred (some []))) := hide' (by rw [hWW]; exact F0)
            have g13 : (X2.setCell ⟨b12, 0, none⟩ (.int .i64 (W : Int))).cell? ⟨b13, 0, none⟩ = some (.slice go2 W gc2) := by rw [Lib.cell_of_heap F1.out.1.h13, F1.out.1.n2]; rfl
            have g12 : (X2.setCell ⟨b12, 0, none⟩ (.int .i64 (W : Int))).cell? ⟨b12, 0, none⟩ = some (.int .i64 (W : Int)) := by rw [Lib.cell_of_heap F1.out.1.h12]; rfl
            have g5 : (X2.setCell ⟨b12, 0, none⟩ (.int .i64 (W : Int))).cell? ⟨b5, 0, none⟩ = some (.slice oo W oc) := by rw [Lib.cell_of_heap F1.out.1.h5, ← hWW]; rfl
            have g10 : (X2.setCell ⟨b12, 0, none⟩ (.int .i64 (W : Int))).cell? ⟨b10, 0, none⟩ = some (.slice go W gc) := by
              have hne : b10 ≠ b12 := by have := lt_of_heap MD.out.gi.hb; have := HBl.out.1.1; omega
              have q := (t3.block b10 (Nat.lt_of_lt_of_le (lt_of_heap MD.out.gi.hb) hbX2.size) hne).trans ((hbX2.block b10 (lt_of_heap MD.out.gi.hb)).trans MD.out.gi.hb)
              rw [hWW, Lib.cell_of_heap q, MD.out.gi.kl]; rfl
            obtain ⟨NN, hNN⟩ : ∃ NN, NN = W := ⟨_, rfl⟩
            have F2 : Hid (Fi w zs vs gs gs2 oo go2 oc gc2 b5 b12 b13 NN 0 0 go gc oo oc (X2.setCell ⟨b12, 0, none⟩ (.int .i64 (W : Int))) ∧ (X2.setCell ⟨b12, 0, none⟩ (.int .i64 (W : Int))).heap[V.heap.size]? = some (.deferred (some [])) ∧ (X2.setCell ⟨b12, 0, none⟩ (.int .i64 (W : Int))).heap[V2.heap.size]? = some (.deferred (some []))) := hide' (by rw [hNN]; exact F1.out)
            clear hG2 hD2 hbX2 hbk12 t3 F0 F1 hmin hWW hNN MD HD2 HV2x SQ2 hMb2 HV SQ hMb
            rcases Hb.out with rfl | ⟨rfl, h40⟩
            · clear Hb
              go_wp2_with fail
              go_loopw [15, 16, 17] (fun v15 v16 v17 wx => ∃ (i : Nat) (lo : Option Addr) (lc : Nat) (mo : Option Addr) (mc : Nat), v15 = .slice lo (W + i) lc ∧ v16 = .slice mo (W + i) mc ∧ v17 = .int .i64 (i : Int) ∧ i ≤ NN ∧ Fi w zs vs gs gs2 oo go2 oc gc2 b5 b12 b13 NN i i lo lc mo mc wx ∧ wx.heap[V.heap.size]? = some (.deferred (some [])) ∧ wx.heap[V2.heap.size]? = some (.deferred (some []))) (fun _ _ v17 _ => NN - (intOf v17).toNat)
              case atStart => exact ⟨0, go, gc, oo, oc, rfl, rfl, rfl, Nat.zero_le _, F2.out.1, F2.out.2.1, F2.out.2.2⟩
              case round =>
                obtain ⟨i, lo, lc, mo, mc, rfl, rfl, rfl, hi, hF, hd1, hd2⟩ := hrel
                clear F2
                have k12 : wr.cell? ⟨b12, 0, none⟩ = some (.int .i64 (NN : Int)) := by rw [Lib.cell_of_heap hF.h12]; rfl
                by_cases hlt : i < NN
                · have hlt' : (i : Int) < (NN : Int) := by omega
                  have ei := hide' (wsucN i (by have := hF.n3; omega))
                  have Hend := hide' (msr' hlt _ rfl)
                  have Hi := hide' hlt
                  obtain ⟨r, hr⟩ : ∃ r, gs2[i]? = some r := ⟨_, List.getElem?_eq_getElem (by rw [hF.n2]; exact hlt)⟩
                  obtain ⟨r5, hr5⟩ : ∃ r, vs[i]? = some r := ⟨_, List.getElem?_eq_getElem (by have := hF.n3; omega)⟩
                  have k13 : wr.cell? ⟨b13, 0, none⟩ = some (.slice go2 NN gc2) := by rw [Lib.cell_of_heap hF.h13, hF.n2]; rfl
                  have hltW : (i : Int) < (W : Int) := by have := hF.n3; have := HWW.out; omega
                  obtain ⟨ab, hab, hac⟩ : ∃ ab, go2 = some ⟨ab, 0, none⟩ ∧ wr.cell? ⟨ab, i, none⟩ = some (.slice r.ao r.len r.cap) := by
                    rcases hF.ca with q | ⟨ab, h1, _, _, h4⟩
                    · rw [q] at hr; simp at hr
                    · exact ⟨ab, h1, h4 i r hr⟩
                  obtain ⟨ob, hob⟩ : ∃ ob, oo = some ⟨ob, 0, none⟩ := by
                    rcases hF.cw with q | ⟨ob, h1, _⟩
                    · rw [q] at hr5; simp at hr5
                    · exact ⟨ob, h1⟩
                  have HF := hide' (And.intro hF (And.intro hd1 hd2))
                  have Hr := hide' (And.intro hr hr5)
                  have HL1 : Hid (((gs ++ gs2.take i).map Rw.v).length = W + i ∧ ((vs ++ vs.take i).map Rw.v).length = W + i ∧ W + i < 1000) := hide' (by
                    have := hF.n1; have := hF.n2; have := hF.n3; have := HWW.out
                    rw [List.length_map, List.length_map, List.length_append, List.length_append, List.length_take, List.length_take]
                    omega)
                  have HWi := hide' (show vs.length + i = W + i by have := HWW.out; omega)
                  clear hF hd1 hd2 hi hlt hr hr5
                  subst hab
                  subst hob
                  go_wp2_with (at_builtin; refine stay_l _ _ _ rfl ?_)
                  unfold Stay
                  refine wpList_slp wr rfl _ _ rfl (n := W + i) HL1.out.1 (by rw [← HWi.out]; exact HF.out.1.lrow) (hide' HL1.out.2.2) HF.out.1.bel.size (.slice r.ao r.len r.cap) rfl _ rfl rfl ?_
                  intro g3 c3 w3 r3 t3 p3
                  have F3a := HF.out.1.more (r := r) Hr.out.1 (by rw [HWi.out]; exact r3) t3 p3
                  have F3b : w3.heap[V.heap.size]? = some (.deferred (some [])) := (t3.block _ (lt_of_heap HF.out.2.1) (fun q => by obtain ⟨_, _, cs, q', hh⟩ := row_kind HF.out.1.lrow q; rw [HF.out.2.1] at hh; cases hh)).trans HF.out.2.1
                  have F3c : w3.heap[V2.heap.size]? = some (.deferred (some [])) := (t3.block _ (lt_of_heap HF.out.2.2) (fun q => by obtain ⟨_, _, cs, q', hh⟩ := row_kind HF.out.1.lrow q; rw [HF.out.2.2] at hh; cases hh)).trans HF.out.2.2
                  have F3 := hide' (And.intro F3a (And.intro F3b F3c))
                  have j5 : w3.cell? ⟨b5, 0, none⟩ = some (.slice (some ⟨ob, 0, none⟩) W oc) := by
                    rw [Lib.cell_of_heap F3.out.1.h5, ← HWW.out]
                    try rfl
                  have jc : w3.cell? ⟨ob, i, none⟩ = some (.slice r5.ao r5.len r5.cap) := by
                    rcases F3.out.1.cw with q | ⟨ob', h1, _, _, h4⟩
                    · have := Hr.out.2
                      rw [q] at this
                      simp at this
                    · cases h1
                      exact h4 i r5 Hr.out.2
                  clear r3 t3 p3 F3a F3b F3c hac k13
                  go_wp2_with (at_builtin; refine stay_l _ _ _ rfl ?_)
                  unfold Stay
                  refine wpList_slp w3 rfl _ _ rfl (n := W + i) HL1.out.2.1 (by rw [← HWi.out]; exact F3.out.1.mrow) (hide' HL1.out.2.2) F3.out.1.bel.size (.slice r5.ao r5.len r5.cap) rfl _ rfl rfl ?_
                  intro g6 c6 w6 r6 t6 p6
                  have F6a := F3.out.1.must (r := r5) Hr.out.2 Hi.out (by rw [HWi.out]; exact r6) t6 p6
                  have F6b : w6.heap[V.heap.size]? = some (.deferred (some [])) := (t6.block _ (lt_of_heap F3.out.2.1) (fun q => by obtain ⟨_, _, cs, q', hh⟩ := row_kind F3.out.1.mrow q; rw [F3.out.2.1] at hh; cases hh)).trans F3.out.2.1
                  have F6c : w6.heap[V2.heap.size]? = some (.deferred (some [])) := (t6.block _ (lt_of_heap F3.out.2.2) (fun q => by obtain ⟨_, _, cs, q', hh⟩ := row_kind F3.out.1.mrow q; rw [F3.out.2.2] at hh; cases hh)).trans F3.out.2.2
                  have F6 := hide' (And.intro F6a (And.intro F6b F6c))
                  clear r6 t6 p6 F6a F6b F6c F3 HF j5 jc
                  go_wp2
                  exact ⟨⟨i + 1, _, _, _, _, rfl, rfl, by first | rfl | (rw [ei.out]), Hi.out, F6.out.1, F6.out.2.1, F6.out.2.2⟩, by first | exact Hend.out | (rw [ei.out]; exact Hend.out)⟩
                · obtain rfl : i = NN := by omega
                  have CA := hide' (hF.apart HM.out.2.2)
                  rw [← HWW.out] at CA
                  have HD := hide' (And.intro hd1 hd2)
                  clear hF hd1 hd2 hi hlt
                  go_wp2_with fail
                  refine CA.out.mono ?_
                  rintro e w7 ⟨rfl, b7, k7⟩
                  have D1 := k7 _ _ rfl HD.out.1
                  have D2 := k7 _ _ rfl HD.out.2
                  have HD7 := hide' (And.intro D1 (And.intro D2 b7))
                  clear D1 D2 b7 k7 HD CA
                  go_wp2
                  refine ⟨by simp, .inl ⟨_, _, rfl, run_takeDeferred HD7.out.2.1, ?_⟩⟩
                  have hq1 : (w7.putObj V2.heap.size (.deferred none)).heap[V.heap.size]? = some (.deferred (some [])) := (World.putObj_heap_other HVV2.out.1).trans HD7.out.1
                  refine ⟨by simp, .inl ⟨_, _, rfl, run_takeDeferred hq1, ?_⟩⟩
                  have t8 : Turn (fun j => j = V2.heap.size) w7 (w7.putObj V2.heap.size (.deferred none)) := ⟨rfl, rfl, rfl, by simp, fun k _ hk => World.putObj_heap_other hk⟩
                  have t9 : Turn (fun j => j = V.heap.size) (w7.putObj V2.heap.size (.deferred none)) ((w7.putObj V2.heap.size (.deferred none)).putObj V.heap.size (.deferred none)) := ⟨rfl, rfl, rfl, by simp, fun k _ hk => World.putObj_heap_other hk⟩
                  have b8 := HD7.out.2.2.trans (t8.below (fun j e => by rw [e]; exact HVV2.out.2.2) HD7.out.2.2.size)
                  have b9 := b8.trans (t9.below (fun j e => by rw [e]; exact HVV2.out.2.1) b8.size)
                  refine ⟨.bool true, ?_, rfl, b9⟩
                  simp [results, Try.f8, go_sem]
            · have h40' : ((W : Int) != 40) = false := by rw [HWW.out, h40]; rfl
              clear Hb h40
              go_wp2_with fail
              go_loopw [15, 16, 17] (fun v15 v16 v17 wx => ∃ (i : Nat) (lo : Option Addr) (lc : Nat) (mo : Option Addr) (mc : Nat), v15 = .slice lo (W + i) lc ∧ v16 = .slice mo (W + i) mc ∧ v17 = .int .i64 (i : Int) ∧ i ≤ NN ∧ Fi w zs vs gs gs2 oo go2 oc gc2 b5 b12 b13 NN i i lo lc mo mc wx ∧ wx.heap[V.heap.size]? = some (.deferred (some [])) ∧ wx.heap[V2.heap.size]? = some (.deferred (some []))) (fun _ _ v17 _ => NN - (intOf v17).toNat)
              case atStart => exact ⟨0, go, gc, oo, oc, rfl, rfl, rfl, Nat.zero_le _, F2.out.1, F2.out.2.1, F2.out.2.2⟩
              case round =>
                obtain ⟨i, lo, lc, mo, mc, rfl, rfl, rfl, hi, hF, hd1, hd2⟩ := hrel
                clear F2
                have k12 : wr.cell? ⟨b12, 0, none⟩ = some (.int .i64 (NN : Int)) := by rw [Lib.cell_of_heap hF.h12]; rfl
                by_cases hlt : i < NN
                · have hlt' : (i : Int) < (NN : Int) := by omega
                  have ei := hide' (wsucN i (by have := hF.n3; omega))
                  have Hend := hide' (msr' hlt _ rfl)
                  have Hi := hide' hlt
                  obtain ⟨r, hr⟩ : ∃ r, gs2[i]? = some r := ⟨_, List.getElem?_eq_getElem (by rw [hF.n2]; exact hlt)⟩
                  obtain ⟨r5, hr5⟩ : ∃ r, vs[i]? = some r := ⟨_, List.getElem?_eq_getElem (by have := hF.n3; omega)⟩
                  have k13 : wr.cell? ⟨b13, 0, none⟩ = some (.slice go2 NN gc2) := by rw [Lib.cell_of_heap hF.h13, hF.n2]; rfl
                  have hltW : (i : Int) < (W : Int) := by have := hF.n3; have := HWW.out; omega
                  obtain ⟨ab, hab, hac⟩ : ∃ ab, go2 = some ⟨ab, 0, none⟩ ∧ wr.cell? ⟨ab, i, none⟩ = some (.slice r.ao r.len r.cap) := by
                    rcases hF.ca with q | ⟨ab, h1, _, _, h4⟩
                    · rw [q] at hr; simp at hr
                    · exact ⟨ab, h1, h4 i r hr⟩
                  obtain ⟨ob, hob⟩ : ∃ ob, oo = some ⟨ob, 0, none⟩ := by
                    rcases hF.cw with q | ⟨ob, h1, _⟩
                    · rw [q] at hr5; simp at hr5
                    · exact ⟨ob, h1⟩
                  have HF := hide' (And.intro hF (And.intro hd1 hd2))
                  have Hr := hide' (And.intro hr hr5)
                  have HL1 : Hid (((gs ++ gs2.take i).map Rw.v).length = W + i ∧ ((vs ++ vs.take i).map Rw.v).length = W + i ∧ W + i < 1000) := hide' (by
                    have := hF.n1; have := hF.n2; have := hF.n3; have := HWW.out
                    rw [List.length_map, List.length_map, List.length_append, List.length_append, List.length_take, List.length_take]
                    omega)
                  have HWi := hide' (show vs.length + i = W + i by have := HWW.out; omega)
                  clear hF hd1 hd2 hi hlt hr hr5
                  subst hab
                  subst hob
                  go_wp2_with (at_builtin; refine stay_l _ _ _ rfl ?_)
                  unfold Stay
                  refine wpList_slp wr rfl _ _ rfl (n := W + i) HL1.out.1 (by rw [← HWi.out]; exact HF.out.1.lrow) (hide' HL1.out.2.2) HF.out.1.bel.size (.slice r.ao r.len r.cap) rfl _ rfl rfl ?_
                  intro g3 c3 w3 r3 t3 p3
                  have F3a := HF.out.1.more (r := r) Hr.out.1 (by rw [HWi.out]; exact r3) t3 p3
                  have F3b : w3.heap[V.heap.size]? = some (.deferred (some [])) := (t3.block _ (lt_of_heap HF.out.2.1) (fun q => by obtain ⟨_, _, cs, q', hh⟩ := row_kind HF.out.1.lrow q; rw [HF.out.2.1] at hh; cases hh)).trans HF.out.2.1
                  have F3c : w3.heap[V2.heap.size]? = some (.deferred (some [])) := (t3.block _ (lt_of_heap HF.out.2.2) (fun q => by obtain ⟨_, _, cs, q', hh⟩ := row_kind HF.out.1.lrow q; rw [HF.out.2.2] at hh; cases hh)).trans HF.out.2.2
                  have F3 := hide' (And.intro F3a (And.intro F3b F3c))
                  have j5 : w3.cell? ⟨b5, 0, none⟩ = some (.slice (some ⟨ob, 0, none⟩) W oc) := by
                    rw [Lib.cell_of_heap F3.out.1.h5, ← HWW.out]
                    try rfl
                  have jc : w3.cell? ⟨ob, i, none⟩ = some (.slice r5.ao r5.len r5.cap) := by
                    rcases F3.out.1.cw with q | ⟨ob', h1, _, _, h4⟩
                    · have := Hr.out.2
                      rw [q] at this
                      simp at this
                    · cases h1
                      exact h4 i r5 Hr.out.2
                  clear r3 t3 p3 F3a F3b F3c hac k13
                  go_wp2_with (at_builtin; refine stay_l _ _ _ rfl ?_)
                  unfold Stay
                  refine wpList_slp w3 rfl _ _ rfl (n := W + i) HL1.out.2.1 (by rw [← HWi.out]; exact F3.out.1.mrow) (hide' HL1.out.2.2) F3.out.1.bel.size (.slice r5.ao r5.len r5.cap) rfl _ rfl rfl ?_
                  intro g6 c6 w6 r6 t6 p6
                  have F6a := F3.out.1.must (r := r5) Hr.out.2 Hi.out (by rw [HWi.out]; exact r6) t6 p6
                  have F6b : w6.heap[V.heap.size]? = some (.deferred (some [])) := (t6.block _ (lt_of_heap F3.out.2.1) (fun q => by obtain ⟨_, _, cs, q', hh⟩ := row_kind F3.out.1.mrow q; rw [F3.out.2.1] at hh; cases hh)).trans F3.out.2.1
                  have F6c : w6.heap[V2.heap.size]? = some (.deferred (some [])) := (t6.block _ (lt_of_heap F3.out.2.2) (fun q => by obtain ⟨_, _, cs, q', hh⟩ := row_kind F3.out.1.mrow q; rw [F3.out.2.2] at hh; cases hh)).trans F3.out.2.2
                  have F6 := hide' (And.intro F6a (And.intro F6b F6c))
                  clear r6 t6 p6 F6a F6b F6c F3 HF j5 jc
                  go_wp2
                  exact ⟨⟨i + 1, _, _, _, _, rfl, rfl, by first | rfl | (rw [ei.out]), Hi.out, F6.out.1, F6.out.2.1, F6.out.2.2⟩, by first | exact Hend.out | (rw [ei.out]; exact Hend.out)⟩
                · obtain rfl : i = NN := by omega
                  have CA := hide' (hF.apart HM.out.2.2)
                  rw [← HWW.out] at CA
                  have HD := hide' (And.intro hd1 hd2)
                  clear hF hd1 hd2 hi hlt
                  go_wp2_with fail
                  refine CA.out.mono ?_
                  rintro e w7 ⟨rfl, b7, k7⟩
                  have D1 := k7 _ _ rfl HD.out.1
                  have D2 := k7 _ _ rfl HD.out.2
                  have HD7 := hide' (And.intro D1 (And.intro D2 b7))
                  clear D1 D2 b7 k7 HD CA
                  go_wp2
                  refine ⟨by simp, .inl ⟨_, _, rfl, run_takeDeferred HD7.out.2.1, ?_⟩⟩
                  have hq1 : (w7.putObj V2.heap.size (.deferred none)).heap[V.heap.size]? = some (.deferred (some [])) := (World.putObj_heap_other HVV2.out.1).trans HD7.out.1
                  refine ⟨by simp, .inl ⟨_, _, rfl, run_takeDeferred hq1, ?_⟩⟩
                  have t8 : Turn (fun j => j = V2.heap.size) w7 (w7.putObj V2.heap.size (.deferred none)) := ⟨rfl, rfl, rfl, by simp, fun k _ hk => World.putObj_heap_other hk⟩
                  have t9 : Turn (fun j => j = V.heap.size) (w7.putObj V2.heap.size (.deferred none)) ((w7.putObj V2.heap.size (.deferred none)).putObj V.heap.size (.deferred none)) := ⟨rfl, rfl, rfl, by simp, fun k _ hk => World.putObj_heap_other hk⟩
                  have b8 := HD7.out.2.2.trans (t8.below (fun j e => by rw [e]; exact HVV2.out.2.2) HD7.out.2.2.size)
                  have b9 := b8.trans (t9.below (fun j e => by rw [e]; exact HVV2.out.2.1) b8.size)
                  refine ⟨.bool true, ?_, rfl, b9⟩
                  simp [results, Try.f8, go_sem]
          · have hmin : min n vs.length = n := by omega
            rw [hmin] at hG2
            rw [hWW] at e13
            rw [hmin] at e13
            have F0 := fi_mk MD.out HBl.out.1 HBl.out.2 HV2x.out.2.2.2.1 hG2 (Turn.refl _ X2) hbk12 (by omega) hv40.out hD2
            obtain ⟨NN, hNN⟩ : ∃ NN, NN = n := ⟨_, rfl⟩
            have F2 : Hid (Fi w zs vs gs gs2 oo go2 oc gc2 b5 b12 b13 NN 0 0 go gc oo oc X2 ∧ X2.heap[V.heap.size]? = some (.deferred (some [])) ∧ X2.heap[V2.heap.size]? = some (.deferred (some []))) := hide' (by rw [hNN]; exact F0)
            clear hG2 hD2 hbX2 hbk12 F0 hmin hWW hNN MD HD2 HV2x SQ2 hMb2 HV SQ hMb
            rcases Hb.out with rfl | ⟨rfl, h40⟩
            · clear Hb
              go_wp2_with fail
              go_loopw [15, 16, 17] (fun v15 v16 v17 wx => ∃ (i : Nat) (lo : Option Addr) (lc : Nat) (mo : Option Addr) (mc : Nat), v15 = .slice lo (W + i) lc ∧ v16 = .slice mo (W + i) mc ∧ v17 = .int .i64 (i : Int) ∧ i ≤ NN ∧ Fi w zs vs gs gs2 oo go2 oc gc2 b5 b12 b13 NN i i lo lc mo mc wx ∧ wx.heap[V.heap.size]? = some (.deferred (some [])) ∧ wx.heap[V2.heap.size]? = some (.deferred (some []))) (fun _ _ v17 _ => NN - (intOf v17).toNat)
              case atStart => exact ⟨0, go, gc, oo, oc, rfl, rfl, rfl, Nat.zero_le _, F2.out.1, F2.out.2.1, F2.out.2.2⟩
              case round =>
                obtain ⟨i, lo, lc, mo, mc, rfl, rfl, rfl, hi, hF, hd1, hd2⟩ := hrel
                clear F2
                have k12 : wr.cell? ⟨b12, 0, none⟩ = some (.int .i64 (NN : Int)) := by rw [Lib.cell_of_heap hF.h12]; rfl
                by_cases hlt : i < NN
                · have hlt' : (i : Int) < (NN : Int) := by omega
                  have ei := hide' (wsucN i (by have := hF.n3; omega))
                  have Hend := hide' (msr' hlt _ rfl)
                  have Hi := hide' hlt
                  obtain ⟨r, hr⟩ : ∃ r, gs2[i]? = some r := ⟨_, List.getElem?_eq_getElem (by rw [hF.n2]; exact hlt)⟩
                  obtain ⟨r5, hr5⟩ : ∃ r, vs[i]? = some r := ⟨_, List.getElem?_eq_getElem (by have := hF.n3; omega)⟩
                  have k13 : wr.cell? ⟨b13, 0, none⟩ = some (.slice go2 NN gc2) := by rw [Lib.cell_of_heap hF.h13, hF.n2]; rfl
                  have hltW : (i : Int) < (W : Int) := by have := hF.n3; have := HWW.out; omega
                  obtain ⟨ab, hab, hac⟩ : ∃ ab, go2 = some ⟨ab, 0, none⟩ ∧ wr.cell? ⟨ab, i, none⟩ = some (.slice r.ao r.len r.cap) := by
                    rcases hF.ca with q | ⟨ab, h1, _, _, h4⟩
                    · rw [q] at hr; simp at hr
                    · exact ⟨ab, h1, h4 i r hr⟩
                  obtain ⟨ob, hob⟩ : ∃ ob, oo = some ⟨ob, 0, none⟩ := by
                    rcases hF.cw with q | ⟨ob, h1, _⟩
                    · rw [q] at hr5; simp at hr5
                    · exact ⟨ob, h1⟩
                  have HF := hide' (And.intro hF (And.intro hd1 hd2))
                  have Hr := hide' (And.intro hr hr5)
                  have HL1 : Hid (((gs ++ gs2.take i).map Rw.v).length = W + i ∧ ((vs ++ vs.take i).map Rw.v).length = W + i ∧ W + i < 1000) := hide' (by
                    have := hF.n1; have := hF.n2; have := hF.n3; have := HWW.out
                    rw [List.length_map, List.length_map, List.length_append, List.length_append, List.length_take, List.length_take]
                    omega)
                  have HWi := hide' (show vs.length + i = W + i by have := HWW.out; omega)
                  clear hF hd1 hd2 hi hlt hr hr5
                  subst hab
                  subst hob
                  go_wp2_with (at_builtin; refine stay_l _ _ _ rfl ?_)
                  unfold Stay
                  refine wpList_slp wr rfl _ _ rfl (n := W + i) HL1.out.1 (by rw [← HWi.out]; exact HF.out.1.lrow) (hide' HL1.out.2.2) HF.out.1.bel.size (.slice r.ao r.len r.cap) rfl _ rfl rfl ?_
                  intro g3 c3 w3 r3 t3 p3
                  have F3a := HF.out.1.more (r := r) Hr.out.1 (by rw [HWi.out]; exact r3) t3 p3
                  have F3b : w3.heap[V.heap.size]? = some (.deferred (some [])) := (t3.block _ (lt_of_heap HF.out.2.1) (fun q => by obtain ⟨_, _, cs, q', hh⟩ := row_kind HF.out.1.lrow q; rw [HF.out.2.1] at hh; cases hh)).trans HF.out.2.1
                  have F3c : w3.heap[V2.heap.size]? = some (.deferred (some [])) := (t3.block _ (lt_of_heap HF.out.2.2) (fun q => by obtain ⟨_, _, cs, q', hh⟩ := row_kind HF.out.1.lrow q; rw [HF.out.2.2] at hh; cases hh)).trans HF.out.2.2
                  have F3 := hide' (And.intro F3a (And.intro F3b F3c))
                  have j5 : w3.cell? ⟨b5, 0, none⟩ = some (.slice (some ⟨ob, 0, none⟩) W oc) := by
                    rw [Lib.cell_of_heap F3.out.1.h5, ← HWW.out]
                    try rfl
                  have jc : w3.cell? ⟨ob, i, none⟩ = some (.slice r5.ao r5.len r5.cap) := by
                    rcases F3.out.1.cw with q | ⟨ob', h1, _, _, h4⟩
                    · have := Hr.out.2
                      rw [q] at this
                      simp at this
                    · cases h1
                      exact h4 i r5 Hr.out.2
                  clear r3 t3 p3 F3a F3b F3c hac k13
                  go_wp2_with (at_builtin; refine stay_l _ _ _ rfl ?_)
                  unfold Stay
                  refine wpList_slp w3 rfl _ _ rfl (n := W + i) HL1.out.2.1 (by rw [← HWi.out]; exact F3.out.1.mrow) (hide' HL1.out.2.2) F3.out.1.bel.size (.slice r5.ao r5.len r5.cap) rfl _ rfl rfl ?_
                  intro g6 c6 w6 r6 t6 p6
                  have F6a := F3.out.1.must (r := r5) Hr.out.2 Hi.out (by rw [HWi.out]; exact r6) t6 p6
                  have F6b : w6.heap[V.heap.size]? = some (.deferred (some [])) := (t6.block _ (lt_of_heap F3.out.2.1) (fun q => by obtain ⟨_, _, cs, q', hh⟩ := row_kind F3.out.1.mrow q; rw [F3.out.2.1] at hh; cases hh)).trans F3.out.2.1
                  have F6c : w6.heap[V2.heap.size]? = some (.deferred (some [])) := (t6.block _ (lt_of_heap F3.out.2.2) (fun q => by obtain ⟨_, _, cs, q', hh⟩ := row_kind F3.out.1.mrow q; rw [F3.out.2.2] at hh; cases hh)).trans F3.out.2.2
                  have F6 := hide' (And.intro F6a (And.intro F6b F6c))
                  clear r6 t6 p6 F6a F6b F6c F3 HF j5 jc
                  go_wp2
                  exact ⟨⟨i + 1, _, _, _, _, rfl, rfl, by first | rfl | (rw [ei.out]), Hi.out, F6.out.1, F6.out.2.1, F6.out.2.2⟩, by first | exact Hend.out | (rw [ei.out]; exact Hend.out)⟩
                · obtain rfl : i = NN := by omega
                  have CA := hide' (hF.apart HM.out.2.2)
                  rw [← HWW.out] at CA
                  have HD := hide' (And.intro hd1 hd2)
                  clear hF hd1 hd2 hi hlt
                  go_wp2_with fail
                  refine CA.out.mono ?_
                  rintro e w7 ⟨rfl, b7, k7⟩
                  have D1 := k7 _ _ rfl HD.out.1
                  have D2 := k7 _ _ rfl HD.out.2
                  have HD7 := hide' (And.intro D1 (And.intro D2 b7))
                  clear D1 D2 b7 k7 HD CA
                  go_wp2
                  refine ⟨by simp, .inl ⟨_, _, rfl, run_takeDeferred HD7.out.2.1, ?_⟩⟩
                  have hq1 : (w7.putObj V2.heap.size (.deferred none)).heap[V.heap.size]? = some (.deferred (some [])) := (World.putObj_heap_other HVV2.out.1).trans HD7.out.1
                  refine ⟨by simp, .inl ⟨_, _, rfl, run_takeDeferred hq1, ?_⟩⟩
                  have t8 : Turn (fun j => j = V2.heap.size) w7 (w7.putObj V2.heap.size (.deferred none)) := ⟨rfl, rfl, rfl, by simp, fun k _ hk => World.putObj_heap_other hk⟩
                  have t9 : Turn (fun j => j = V.heap.size) (w7.putObj V2.heap.size (.deferred none)) ((w7.putObj V2.heap.size (.deferred none)).putObj V.heap.size (.deferred none)) := ⟨rfl, rfl, rfl, by simp, fun k _ hk => World.putObj_heap_other hk⟩
                  have b8 := HD7.out.2.2.trans (t8.below (fun j e => by rw [e]; exact HVV2.out.2.2) HD7.out.2.2.size)
                  have b9 := b8.trans (t9.below (fun j e => by rw [e]; exact HVV2.out.2.1) b8.size)
                  refine ⟨.bool true, ?_, rfl, b9⟩
                  simp [results, Try.f8, go_sem]
            · have h40' : ((W : Int) != 40) = false := by rw [HWW.out, h40]; rfl
              clear Hb h40
              go_wp2_with fail
              go_loopw [15, 16, 17] (fun v15 v16 v17 wx => ∃ (i : Nat) (lo : Option Addr) (lc : Nat) (mo : Option Addr) (mc : Nat), v15 = .slice lo (W + i) lc ∧ v16 = .slice mo (W + i) mc ∧ v17 = .int .i64 (i : Int) ∧ i ≤ NN ∧ Fi w zs vs gs gs2 oo go2 oc gc2 b5 b12 b13 NN i i lo lc mo mc wx ∧ wx.heap[V.heap.size]? = some (.deferred (some [])) ∧ wx.heap[V2.heap.size]? = some (.deferred (some []))) (fun _ _ v17 _ => NN - (intOf v17).toNat)
              case atStart => exact ⟨0, go, gc, oo, oc, rfl, rfl, rfl, Nat.zero_le _, F2.out.1, F2.out.2.1, F2.out.2.2⟩
              case round =>
                obtain ⟨i, lo, lc, mo, mc, rfl, rfl, rfl, hi, hF, hd1, hd2⟩ := hrel
                clear F2
                have k12 : wr.cell? ⟨b12, 0, none⟩ = some (.int .i64 (NN : Int)) := by rw [Lib.cell_of_heap hF.h12]; rfl
                by_cases hlt : i < NN
                · have hlt' : (i : Int) < (NN : Int) := by omega
                  have ei := hide' (wsucN i (by have := hF.n3; omega))
                  have Hend := hide' (msr' hlt _ rfl)
                  have Hi := hide' hlt
                  obtain ⟨r, hr⟩ : ∃ r, gs2[i]? = some r := ⟨_, List.getElem?_eq_getElem (by rw [hF.n2]; exact hlt)⟩
                  obtain ⟨r5, hr5⟩ : ∃ r, vs[i]? = some r := ⟨_, List.getElem?_eq_getElem (by have := hF.n3; omega)⟩
                  have k13 : wr.cell? ⟨b13, 0, none⟩ = some (.slice go2 NN gc2) := by rw [Lib.cell_of_heap hF.h13, hF.n2]; rfl
                  have hltW : (i : Int) < (W : Int) := by have := hF.n3; have := HWW.out; omega
                  obtain ⟨ab, hab, hac⟩ : ∃ ab, go2 = some ⟨ab, 0, none⟩ ∧ wr.cell? ⟨ab, i, none⟩ = some (.slice r.ao r.len r.cap) := by
                    rcases hF.ca with q | ⟨ab, h1, _, _, h4⟩
                    · rw [q] at hr; simp at hr
                    · exact ⟨ab, h1, h4 i r hr⟩
                  obtain ⟨ob, hob⟩ : ∃ ob, oo = some ⟨ob, 0, none⟩ := by
                    rcases hF.cw with q | ⟨ob, h1, _⟩
                    · rw [q] at hr5; simp at hr5
                    · exact ⟨ob, h1⟩
                  have HF := hide' (And.intro hF (And.intro hd1 hd2))
                  have Hr := hide' (And.intro hr hr5)
                  have HL1 : Hid (((gs ++ gs2.take i).map Rw.v).length = W + i ∧ ((vs ++ vs.take i).map Rw.v).length = W + i ∧ W + i < 1000) := hide' (by
                    have := hF.n1; have := hF.n2; have := hF.n3; have := HWW.out
                    rw [List.length_map, List.length_map, List.length_append, List.length_append, List.length_take, List.length_take]
                    omega)
                  have HWi := hide' (show vs.length + i = W + i by have := HWW.out; omega)
                  clear hF hd1 hd2 hi hlt hr hr5
                  subst hab
                  subst hob
                  go_wp2_with (at_builtin; refine stay_l _ _ _ rfl ?_)
                  unfold Stay
                  refine wpList_slp wr rfl _ _ rfl (n := W + i) HL1.out.1 (by rw [← HWi.out]; exact HF.out.1.lrow) (hide' HL1.out.2.2) HF.out.1.bel.size (.slice r.ao r.len r.cap) rfl _ rfl rfl ?_
                  intro g3 c3 w3 r3 t3 p3
                  have F3a := HF.out.1.more (r := r) Hr.out.1 (by rw [HWi.out]; exact r3) t3 p3
                  have F3b : w3.heap[V.heap.size]? = some (.deferred (some [])) := (t3.block _ (lt_of_heap HF.out.2.1) (fun q => by obtain ⟨_, _, cs, q', hh⟩ := row_kind HF.out.1.lrow q; rw [HF.out.2.1] at hh; cases hh)).trans HF.out.2.1
                  have F3c : w3.heap[V2.heap.size]? = some (.deferred (some [])) := (t3.block _ (lt_of_heap HF.out.2.2) (fun q => by obtain ⟨_, _, cs, q', hh⟩ := row_kind HF.out.1.lrow q; rw [HF.out.2.2] at hh; cases hh)).trans HF.out.2.2
                  have F3 := hide' (And.intro F3a (And.intro F3b F3c))
                  have j5 : w3.cell? ⟨b5, 0, none⟩ = some (.slice (some ⟨ob, 0, none⟩) W oc) := by
                    rw [Lib.cell_of_heap F3.out.1.h5, ← HWW.out]
                    try rfl
                  have jc : w3.cell? ⟨ob, i, none⟩ = some (.slice r5.ao r5.len r5.cap) := by
                    rcases F3.out.1.cw with q | ⟨ob', h1, _, _, h4⟩
                    · have := Hr.out.2
                      rw [q] at this
                      simp at this
                    · cases h1
                      exact h4 i r5 Hr.out.2
                  clear r3 t3 p3 F3a F3b F3c hac k13
                  go_wp2_with (at_builtin; refine stay_l _ _ _ rfl ?_)
                  unfold Stay
                  refine wpList_slp w3 rfl _ _ rfl (n := W + i) HL1.out.2.1 (by rw [← HWi.out]; exact F3.out.1.mrow) (hide' HL1.out.2.2) F3.out.1.bel.size (.slice r5.ao r5.len r5.cap) rfl _ rfl rfl ?_
                  intro g6 c6 w6 r6 t6 p6
                  have F6a := F3.out.1.must (r := r5) Hr.out.2 Hi.out (by rw [HWi.out]; exact r6) t6 p6
                  have F6b : w6.heap[V.heap.size]? = some (.deferred (some [])) := (t6.block _ (lt_of_heap F3.out.2.1) (fun q => by obtain ⟨_, _, cs, q', hh⟩ := row_kind F3.out.1.mrow q; rw [F3.out.2.1] at hh; cases hh)).trans F3.out.2.1
                  have F6c : w6.heap[V2.heap.size]? = some (.deferred (some [])) := (t6.block _ (lt_of_heap F3.out.2.2) (fun q => by obtain ⟨_, _, cs, q', hh⟩ := row_kind F3.out.1.mrow q; rw [F3.out.2.2] at hh; cases hh)).trans F3.out.2.2
                  have F6 := hide' (And.intro F6a (And.intro F6b F6c))
                  clear r6 t6 p6 F6a F6b F6c F3 HF j5 jc
                  go_wp2
                  exact ⟨⟨i + 1, _, _, _, _, rfl, rfl, by first | rfl | (rw [ei.out]), Hi.out, F6.out.1, F6.out.2.1, F6.out.2.2⟩, by first | exact Hend.out | (rw [ei.out]; exact Hend.out)⟩
                · obtain rfl : i = NN := by omega
                  have CA := hide' (hF.apart HM.out.2.2)
                  rw [← HWW.out] at CA
                  have HD := hide' (And.intro hd1 hd2)
                  clear hF hd1 hd2 hi hlt
                  go_wp2_with fail
                  refine CA.out.mono ?_
                  rintro e w7 ⟨rfl, b7, k7⟩
                  have D1 := k7 _ _ rfl HD.out.1
                  have D2 := k7 _ _ rfl HD.out.2
                  have HD7 := hide' (And.intro D1 (And.intro D2 b7))
                  clear D1 D2 b7 k7 HD CA
                  go_wp2
                  refine ⟨by simp, .inl ⟨_, _, rfl, run_takeDeferred HD7.out.2.1, ?_⟩⟩
                  have hq1 : (w7.putObj V2.heap.size (.deferred none)).heap[V.heap.size]? = some (.deferred (some [])) := (World.putObj_heap_other HVV2.out.1).trans HD7.out.1
                  refine ⟨by simp, .inl ⟨_, _, rfl, run_takeDeferred hq1, ?_⟩⟩
                  have t8 : Turn (fun j => j = V2.heap.size) w7 (w7.putObj V2.heap.size (.deferred none)) := ⟨rfl, rfl, rfl, by simp, fun k _ hk => World.putObj_heap_other hk⟩
                  have t9 : Turn (fun j => j = V.heap.size) (w7.putObj V2.heap.size (.deferred none)) ((w7.putObj V2.heap.size (.deferred none)).putObj V.heap.size (.deferred none)) := ⟨rfl, rfl, rfl, by simp, fun k _ hk => World.putObj_heap_other hk⟩
                  have b8 := HD7.out.2.2.trans (t8.below (fun j e => by rw [e]; exact HVV2.out.2.2) HD7.out.2.2.size)
                  have b9 := b8.trans (t9.below (fun j e => by rw [e]; exact HVV2.out.2.1) b8.size)
                  refine ⟨.bool true, ?_, rfl, b9⟩
                  simp [results, Try.f8, go_sem]
        case stop2 =>
          rintro c k X2 ⟨rfl, ⟨gs2, go2, gc2, hG0⟩, hnW⟩ hD2
          have hG2 : Gi V2 b13 zs (min n vs.length) gs2 go2 gc2 (fun _ => False) X2 := by rw [Nat.min_eq_left hnW]; exact hG0
          clear hG0 hnW
          refine wpIn_wide.2 ?_
          have hbX2 : Below X.heap.size X X2 := HV2x.out.2.2.2.1.trans (hG2.t.below (fun j e => by rw [e]; exact HBl.out.2.1) HV2x.out.2.2.2.1.size)
          have hbk12 : X2.heap[b12]? = some (.cells #[.int .i64 (n : Int)] 3 (0, 0)) := (hG2.t.block b12 (lt_of_heap HV2x.out.2.1) HV2x.out.2.2.2.2.2).trans HV2x.out.2.1
          have e12 : X2.cell? ⟨b12, 0, none⟩ = some (.int .i64 (n : Int)) := by rw [Lib.cell_of_heap hbk12]; rfl
          have f12 : X2.frozen? ⟨b12, 0, none⟩ = false := Lib.frozen_of_heap hbk12 0
          have e10 : X2.cell? ⟨b10, 0, none⟩ = some (.slice go vs.length gc) := by
            have q := (hbX2.block b10 (lt_of_heap MD.out.gi.hb)).trans MD.out.gi.hb
            rw [Lib.cell_of_heap q, MD.out.gi.kl]; rfl
          have e5 : X2.cell? ⟨b5, 0, none⟩ = some (.slice oo vs.length oc) := by
            have q := (hbX2.block b5 (lt_of_heap MD.out.ms.h5)).trans MD.out.ms.h5
            rw [Lib.cell_of_heap q]; rfl
          have e13 : X2.cell? ⟨b13, 0, none⟩ = some (.slice go2 (min n vs.length) gc2) := by rw [Lib.cell_of_heap hG2.hb, hG2.kl]; rfl
          have Hb : Hid (b = true ∨ b = false ∧ vs.length = 40) := hide' (by
            rcases HW.out with ⟨q, _⟩ | ⟨q, q2, _⟩
            · exact .inl q
            · exact .inr ⟨q, q2⟩)
          obtain ⟨W, hWW⟩ : ∃ W, W = vs.length := ⟨_, rfl⟩
          have HWW := hide' hWW
          rw [← hWW] at e10 e5 e13
          try rw [← hWW]
          have HD2 := hide' hD2
          have HVV2 : Hid (V.heap.size ≠ V2.heap.size ∧ w.heap.size ≤ V.heap.size ∧ w.heap.size ≤ V2.heap.size) := hide' (by have q1 := lt_of_heap MD.out.df; have q2 := HV2x.out.2.2.2.1.size; have q3 := MD.out.msV.bel.size; omega)
          by_cases hnW : (n : Int) > (W : Int)
          · have hmin : min n vs.length = vs.length := by omega
            rw [hmin] at hG2
            rw [hWW] at e13
            rw [hmin, ← hWW] at e13
            have t3 : Turn (fun j => j = b12) X2 (X2.setCell ⟨b12, 0, none⟩ (.int .i64 (vs.length : Int))) := (Turn.refl (fun j => j = b12) X2).setCell (p := ⟨b12, 0, none⟩) (fun _ => rfl) _
            have F0 := fi_mk MD.out HBl.out.1 HBl.out.2 HV2x.out.2.2.2.1 hG2 t3 (set_block hbk12) (Nat.le_refl _) hv40.out hD2
            have F1 : Hid (Fi w zs vs gs gs2 oo go2 oc gc2 b5 b12 b13 W 0 0 go gc oo oc (X2.setCell ⟨b12, 0, none⟩ (.int .i64 (W : Int))) ∧ (X2.setCell ⟨b12, 0, none⟩ (.int .i64 (W : Int))).heap[V.heap.size]? = some (.deferred (some [])) ∧ (X2.setCell ⟨b12, 0, none⟩ (.int .i64 (W : Int))).heap[V2.heap.size]? = some (.deferred (some []))) := hide' (by rw [hWW]; exact F0)
            have g13 : (X2.setCell ⟨b12, 0, none⟩ (.int .i64 (W : Int))).cell? ⟨b13, 0, none⟩ = some (.slice go2 W gc2) := by rw [Lib.cell_of_heap F1.out.1.h13, F1.out.1.n2]; rfl
            have g12 : (X2.setCell ⟨b12, 0, none⟩ (.int .i64 (W : Int))).cell? ⟨b12, 0, none⟩ = some (.int .i64 (W : Int)) := by rw [Lib.cell_of_heap F1.out.1.h12]; rfl
            have g5 : (X2.setCell ⟨b12, 0, none⟩ (.int .i64 (W : Int))).cell? ⟨b5, 0, none⟩ = some (.slice oo W oc) := by rw [Lib.cell_of_heap F1.out.1.h5, ← hWW]; rfl
            have g10 : (X2.setCell ⟨b12, 0, none⟩ (.int .i64 (W : Int))).cell? ⟨b10, 0, none⟩ = some (.slice go W gc) := by
              have hne : b10 ≠ b12 := by have := lt_of_heap MD.out.gi.hb; have := HBl.out.1.1; omega
              have q := (t3.block b10 (Nat.lt_of_lt_of_le (lt_of_heap MD.out.gi.hb) hbX2.size) hne).trans ((hbX2.block b10 (lt_of_heap MD.out.gi.hb)).trans MD.out.gi.hb)
              rw [hWW, Lib.cell_of_heap q, MD.out.gi.kl]; rfl
            obtain ⟨NN, hNN⟩ : ∃ NN, NN = W := ⟨_, rfl⟩
            have F2 : Hid (Fi w zs vs gs gs2 oo go2 oc gc2 b5 b12 b13 NN 0 0 go gc oo oc (X2.setCell ⟨b12, 0, none⟩ (.int .i64 (W : Int))) ∧ (X2.setCell ⟨b12, 0, none⟩ (.int .i64 (W : Int))).heap[V.heap.size]? = some (.deferred (some [])) ∧ (X2.setCell ⟨b12, 0, none⟩ (.int .i64 (W : Int))).heap[V2.heap.size]? = some (.deferred (some []))) := hide' (by rw [hNN]; exact F1.out)
            clear hG2 hD2 hbX2 hbk12 t3 F0 F1 hmin hWW hNN MD HD2 HV2x SQ2 hMb2 HV SQ hMb
            rcases Hb.out with rfl | ⟨rfl, h40⟩
            · clear Hb
              go_wp2_with fail
              go_loopw [15, 16, 17] (fun v15 v16 v17 wx => ∃ (i : Nat) (lo : Option Addr) (lc : Nat) (mo : Option Addr) (mc : Nat), v15 = .slice lo (W + i) lc ∧ v16 = .slice mo (W + i) mc ∧ v17 = .int .i64 (i : Int) ∧ i ≤ NN ∧ Fi w zs vs gs gs2 oo go2 oc gc2 b5 b12 b13 NN i i lo lc mo mc wx ∧ wx.heap[V.heap.size]? = some (.deferred (some [])) ∧ wx.heap[V2.heap.size]? = some (.deferred (some []))) (fun _ _ v17 _ => NN - (intOf v17).toNat)
              case atStart => exact ⟨0, go, gc, oo, oc, rfl, rfl, rfl, Nat.zero_le _, F2.out.1, F2.out.2.1, F2.out.2.2⟩
              case round =>
                obtain ⟨i, lo, lc, mo, mc, rfl, rfl, rfl, hi, hF, hd1, hd2⟩ := hrel
                clear F2
                have k12 : wr.cell? ⟨b12, 0, none⟩ = some (.int .i64 (NN : Int)) := by rw [Lib.cell_of_heap hF.h12]; rfl
                by_cases hlt : i < NN
                · have hlt' : (i : Int) < (NN : Int) := by omega
                  have ei := hide' (wsucN i (by have := hF.n3; omega))
                  have Hend := hide' (msr' hlt _ rfl)
                  have Hi := hide' hlt
                  obtain ⟨r, hr⟩ : ∃ r, gs2[i]? = some r := ⟨_, List.getElem?_eq_getElem (by rw [hF.n2]; exact hlt)⟩
                  obtain ⟨r5, hr5⟩ : ∃ r, vs[i]? = some r := ⟨_, List.getElem?_eq_getElem (by have := hF.n3; omega)⟩
                  have k13 : wr.cell? ⟨b13, 0, none⟩ = some (.slice go2 NN gc2) := by rw [Lib.cell_of_heap hF.h13, hF.n2]; rfl
                  have hltW : (i : Int) < (W : Int) := by have := hF.n3; have := HWW.out; omega
                  obtain ⟨ab, hab, hac⟩ : ∃ ab, go2 = some ⟨ab, 0, none⟩ ∧ wr.cell? ⟨ab, i, none⟩ = some (.slice r.ao r.len r.cap) := by
                    rcases hF.ca with q | ⟨ab, h1, _, _, h4⟩
                    · rw [q] at hr; simp at hr
                    · exact ⟨ab, h1, h4 i r hr⟩
                  obtain ⟨ob, hob⟩ : ∃ ob, oo = some ⟨ob, 0, none⟩ := by
                    rcases hF.cw with q | ⟨ob, h1, _⟩
                    · rw [q] at hr5; simp at hr5
                    · exact ⟨ob, h1⟩
                  have HF := hide' (And.intro hF (And.intro hd1 hd2))
                  have Hr := hide' (And.intro hr hr5)
                  have HL1 : Hid (((gs ++ gs2.take i).map Rw.v).length = W + i ∧ ((vs ++ vs.take i).map Rw.v).length = W + i ∧ W + i < 1000) := hide' (by
                    have := hF.n1; have := hF.n2; have := hF.n3; have := HWW.out
                    rw [List.length_map, List.length_map, List.length_append, List.length_append, List.length_take, List.length_take]
                    omega)
                  have HWi := hide' (show vs.length + i = W + i by have := HWW.out; omega)
                  clear hF hd1 hd2 hi hlt hr hr5
                  subst hab
                  subst hob
                  go_wp2_with (at_builtin; refine stay_l _ _ _ rfl ?_)
                  unfold Stay
                  refine wpList_slp wr rfl _ _ rfl (n := W + i) HL1.out.1 (by rw [← HWi.out]; exact HF.out.1.lrow) (hide' HL1.out.2.2) HF.out.1.bel.size (.slice r.ao r.len r.cap) rfl _ rfl rfl ?_
                  intro g3 c3 w3 r3 t3 p3
                  have F3a := HF.out.1.more (r := r) Hr.out.1 (by rw [HWi.out]; exact r3) t3 p3
                  have F3b : w3.heap[V.heap.size]? = some (.deferred (some [])) := (t3.block _ (lt_of_heap HF.out.2.1) (fun q => by obtain ⟨_, _, cs, q', hh⟩ := row_kind HF.out.1.lrow q; rw [HF.out.2.1] at hh; cases hh)).trans HF.out.2.1
                  have F3c : w3.heap[V2.heap.size]? = some (.deferred (some [])) := (t3.block _ (lt_of_heap HF.out.2.2) (fun q => by obtain ⟨_, _, cs, q', hh⟩ := row_kind HF.out.1.lrow q; rw [HF.out.2.2] at hh; cases hh)).trans HF.out.2.2
                  have F3 := hide' (And.intro F3a (And.intro F3b F3c))
                  have j5 : w3.cell? ⟨b5, 0, none⟩ = some (.slice (some ⟨ob, 0, none⟩) W oc) := by
                    rw [Lib.cell_of_heap F3.out.1.h5, ← HWW.out]
                    try rfl
                  have jc : w3.cell? ⟨ob, i, none⟩ = some (.slice r5.ao r5.len r5.cap) := by
                    rcases F3.out.1.cw with q | ⟨ob', h1, _, _, h4⟩
                    · have := Hr.out.2
                      rw [q] at this
                      simp at this
                    · cases h1
                      exact h4 i r5 Hr.out.2
                  clear r3 t3 p3 F3a F3b F3c hac k13
                  go_wp2_with (at_builtin; refine stay_l _ _ _ rfl ?_)
                  unfold Stay
                  refine wpList_slp w3 rfl _ _ rfl (n := W + i) HL1.out.2.1 (by rw [← HWi.out]; exact F3.out.1.mrow) (hide' HL1.out.2.2) F3.out.1.bel.size (.slice r5.ao r5.len r5.cap) rfl _ rfl rfl ?_
                  intro g6 c6 w6 r6 t6 p6
                  have F6a := F3.out.1.must (r := r5) Hr.out.2 Hi.out (by rw [HWi.out]; exact r6) t6 p6
                  have F6b : w6.heap[V.heap.size]? = some (.deferred (some [])) := (t6.block _ (lt_of_heap F3.out.2.1) (fun q => by obtain ⟨_, _, cs, q', hh⟩ := row_kind F3.out.1.mrow q; rw [F3.out.2.1] at hh; cases hh)).trans F3.out.2.1
                  have F6c : w6.heap[V2.heap.size]? = some (.deferred (some [])) := (t6.block _ (lt_of_heap F3.out.2.2) (fun q => by obtain ⟨_, _, cs, q', hh⟩ := row_kind F3.out.1.mrow q; rw [F3.out.2.2] at hh; cases hh)).trans F3.out.2.2
                  have F6 := hide' (And.intro F6a (And.intro F6b F6c))
                  clear r6 t6 p6 F6a F6b F6c F3 HF j5 jc
                  go_wp2
                  exact ⟨⟨i + 1, _, _, _, _, rfl, rfl, by first | rfl | (rw [ei.out]), Hi.out, F6.out.1, F6.out.2.1, F6.out.2.2⟩, by first | exact Hend.out | (rw [ei.out]; exact Hend.out)⟩
                · obtain rfl : i = NN := by omega
                  have CA := hide' (hF.apart HM.out.2.2)
                  rw [← HWW.out] at CA
                  have HD := hide' (And.intro hd1 hd2)
                  clear hF hd1 hd2 hi hlt
                  go_wp2_with fail
                  refine CA.out.mono ?_
                  rintro e w7 ⟨rfl, b7, k7⟩
                  have D1 := k7 _ _ rfl HD.out.1
                  have D2 := k7 _ _ rfl HD.out.2
                  have HD7 := hide' (And.intro D1 (And.intro D2 b7))
                  clear D1 D2 b7 k7 HD CA
                  go_wp2
                  refine ⟨by simp, .inl ⟨_, _, rfl, run_takeDeferred HD7.out.2.1, ?_⟩⟩
                  have hq1 : (w7.putObj V2.heap.size (.deferred none)).heap[V.heap.size]? = some (.deferred (some [])) := (World.putObj_heap_other HVV2.out.1).trans HD7.out.1
                  refine ⟨by simp, .inl ⟨_, _, rfl, run_takeDeferred hq1, ?_⟩⟩
                  have t8 : Turn (fun j => j = V2.heap.size) w7 (w7.putObj V2.heap.size (.deferred none)) := ⟨rfl, rfl, rfl, by simp, fun k _ hk => World.putObj_heap_other hk⟩
                  have t9 : Turn (fun j => j = V.heap.size) (w7.putObj V2.heap.size (.deferred none)) ((w7.putObj V2.heap.size (.deferred none)).putObj V.heap.size (.deferred none)) := ⟨rfl, rfl, rfl, by simp, fun k _ hk => World.putObj_heap_other hk⟩
                  have b8 := HD7.out.2.2.trans (t8.below (fun j e => by rw [e]; exact HVV2.out.2.2) HD7.out.2.2.size)
                  have b9 := b8.trans (t9.below (fun j e => by rw [e]; exact HVV2.out.2.1) b8.size)
                  refine ⟨.bool true, ?_, rfl, b9⟩
                  simp [results, Try.f8, go_sem]
            · have h40' : ((W : Int) != 40) = false := by rw [HWW.out, h40]; rfl
              clear Hb h40
              go_wp2_with fail
              go_loopw [15, 16, 17] (fun v15 v16 v17 wx => ∃ (i : Nat) (lo : Option Addr) (lc : Nat) (mo : Option Addr) (mc : Nat), v15 = .slice lo (W + i) lc ∧ v16 = .slice mo (W + i) mc ∧ v17 = .int .i64 (i : Int) ∧ i ≤ NN ∧ Fi w zs vs gs gs2 oo go2 oc gc2 b5 b12 b13 NN i i lo lc mo mc wx ∧ wx.heap[V.heap.size]? = some (.deferred (some [])) ∧ wx.heap[V2.heap.size]? = some (.deferred (some []))) (fun _ _ v17 _ => NN - (intOf v17).toNat)
              case atStart => exact ⟨0, go, gc, oo, oc, rfl, rfl, rfl, Nat.zero_le _, F2.out.1, F2.out.2.1, F2.out.2.2⟩
              case round =>
                obtain ⟨i, lo, lc, mo, mc, rfl, rfl, rfl, hi, hF, hd1, hd2⟩ := hrel
                clear F2
                have k12 : wr.cell? ⟨b12, 0, none⟩ = some (.int .i64 (NN : Int)) := by rw [Lib.cell_of_heap hF.h12]; rfl
                by_cases hlt : i < NN
                · have hlt' : (i : Int) < (NN : Int) := by omega
                  have ei := hide' (wsucN i (by have := hF.n3; omega))
                  have Hend := hide' (msr' hlt _ rfl)
                  have Hi := hide' hlt
                  obtain ⟨r, hr⟩ : ∃ r, gs2[i]? = some r := ⟨_, List.getElem?_eq_getElem (by rw [hF.n2]; exact hlt)⟩
                  obtain ⟨r5, hr5⟩ : ∃ r, vs[i]? = some r := ⟨_, List.getElem?_eq_getElem (by have := hF.n3; omega)⟩
                  have k13 : wr.cell? ⟨b13, 0, none⟩ = some (.slice go2 NN gc2) := by rw [Lib.cell_of_heap hF.h13, hF.n2]; rfl
                  have hltW : (i : Int) < (W : Int) := by have := hF.n3; have := HWW.out; omega
                  obtain ⟨ab, hab, hac⟩ : ∃ ab, go2 = some ⟨ab, 0, none⟩ ∧ wr.cell? ⟨ab, i, none⟩ = some (.slice r.ao r.len r.cap) := by
                    rcases hF.ca with q | ⟨ab, h1, _, _, h4⟩
                    · rw [q] at hr; simp at hr
                    · exact ⟨ab, h1, h4 i r hr⟩
                  obtain ⟨ob, hob⟩ : ∃ ob, oo = some ⟨ob, 0, none⟩ := by
                    rcases hF.cw with q | ⟨ob, h1, _⟩
                    · rw [q] at hr5; simp at hr5
                    · exact ⟨ob, h1⟩
                  have HF := hide' (And.intro hF (And.intro hd1 hd2))
                  have Hr := hide' (And.intro hr hr5)
                  have HL1 : Hid (((gs ++ gs2.take i).map Rw.v).length = W + i ∧ ((vs ++ vs.take i).map Rw.v).length = W + i ∧ W + i < 1000) := hide' (by
                    have := hF.n1; have := hF.n2; have := hF.n3; have := HWW.out
                    rw [List.length_map, List.length_map, List.length_append, List.length_append, List.length_take, List.length_take]
                    omega)
                  have HWi := hide' (show vs.length + i = W + i by have := HWW.out; omega)
                  clear hF hd1 hd2 hi hlt hr hr5
                  subst hab
                  subst hob
                  go_wp2_with (at_builtin; refine stay_l _ _ _ rfl ?_)
                  unfold Stay
                  refine wpList_slp wr rfl _ _ rfl (n := W + i) HL1.out.1 (by rw [← HWi.out]; exact HF.out.1.lrow) (hide' HL1.out.2.2) HF.out.1.bel.size (.slice r.ao r.len r.cap) rfl _ rfl rfl ?_
                  intro g3 c3 w3 r3 t3 p3
                  have F3a := HF.out.1.more (r := r) Hr.out.1 (by rw [HWi.out]; exact r3) t3 p3
                  have F3b : w3.heap[V.heap.size]? = some (.deferred (some [])) := (t3.block _ (lt_of_heap HF.out.2.1) (fun q => by obtain ⟨_, _, cs, q', hh⟩ := row_kind HF.out.1.lrow q; rw [HF.out.2.1] at hh; cases hh)).trans HF.out.2.1
                  have F3c : w3.heap[V2.heap.size]? = some (.deferred (some [])) := (t3.block _ (lt_of_heap HF.out.2.2) (fun q => by obtain ⟨_, _, cs, q', hh⟩ := row_kind HF.out.1.lrow q; rw [HF.out.2.2] at hh; cases hh)).trans HF.out.2.2
                  have F3 := hide' (And.intro F3a (And.intro F3b F3c))
                  have j5 : w3.cell? ⟨b5, 0, none⟩ = some (.slice (some ⟨ob, 0, none⟩) W oc) := by
                    rw [Lib.cell_of_heap F3.out.1.h5, ← HWW.out]
                    try rfl
                  have jc : w3.cell? ⟨ob, i, none⟩ = some (.slice r5.ao r5.len r5.cap) := by
                    rcases F3.out.1.cw with q | ⟨ob', h1, _, _, h4⟩
                    · have := Hr.out.2
                      rw [q] at this
                      simp at this
                    · cases h1
                      exact h4 i r5 Hr.out.2
                  clear r3 t3 p3 F3a F3b F3c hac k13
                  go_wp2_with (at_builtin; refine stay_l _ _ _ rfl ?_)
                  unfold Stay
                  refine wpList_slp w3 rfl _ _ rfl (n := W + i) HL1.out.2.1 (by rw [← HWi.out]; exact F3.out.1.mrow) (hide' HL1.out.2.2) F3.out.1.bel.size (.slice r5.ao r5.len r5.cap) rfl _ rfl rfl ?_
                  intro g6 c6 w6 r6 t6 p6
                  have F6a := F3.out.1.must (r := r5) Hr.out.2 Hi.out (by rw [HWi.out]; exact r6) t6 p6
                  have F6b : w6.heap[V.heap.size]? = some (.deferred (some [])) := (t6.block _ (lt_of_heap F3.out.2.1) (fun q => by obtain ⟨_, _, cs, q', hh⟩ := row_kind F3.out.1.mrow q; rw [F3.out.2.1] at hh; cases hh)).trans F3.out.2.1
                  have F6c : w6.heap[V2.heap.size]? = some (.deferred (some [])) := (t6.block _ (lt_of_heap F3.out.2.2) (fun q => by obtain ⟨_, _, cs, q', hh⟩ := row_kind F3.out.1.mrow q; rw [F3.out.2.2] at hh; cases hh)).trans F3.out.2.2
                  have F6 := hide' (And.intro F6a (And.intro F6b F6c))
                  clear r6 t6 p6 F6a F6b F6c F3 HF j5 jc
                  go_wp2
                  exact ⟨⟨i + 1, _, _, _, _, rfl, rfl, by first | rfl | (rw [ei.out]), Hi.out, F6.out.1, F6.out.2.1, F6.out.2.2⟩, by first | exact Hend.out | (rw [ei.out]; exact Hend.out)⟩
                · obtain rfl : i = NN := by omega
                  have CA := hide' (hF.apart HM.out.2.2)
                  rw [← HWW.out] at CA
                  have HD := hide' (And.intro hd1 hd2)
                  clear hF hd1 hd2 hi hlt
                  go_wp2_with fail
                  refine CA.out.mono ?_
                  rintro e w7 ⟨rfl, b7, k7⟩
                  have D1 := k7 _ _ rfl HD.out.1
                  have D2 := k7 _ _ rfl HD.out.2
                  have HD7 := hide' (And.intro D1 (And.intro D2 b7))
                  clear D1 D2 b7 k7 HD CA
                  go_wp2
                  refine ⟨by simp, .inl ⟨_, _, rfl, run_takeDeferred HD7.out.2.1, ?_⟩⟩
                  have hq1 : (w7.putObj V2.heap.size (.deferred none)).heap[V.heap.size]? = some (.deferred (some [])) := (World.putObj_heap_other HVV2.out.1).trans HD7.out.1
                  refine ⟨by simp, .inl ⟨_, _, rfl, run_takeDeferred hq1, ?_⟩⟩
                  have t8 : Turn (fun j => j = V2.heap.size) w7 (w7.putObj V2.heap.size (.deferred none)) := ⟨rfl, rfl, rfl, by simp, fun k _ hk => World.putObj_heap_other hk⟩
                  have t9 : Turn (fun j => j = V.heap.size) (w7.putObj V2.heap.size (.deferred none)) ((w7.putObj V2.heap.size (.deferred none)).putObj V.heap.size (.deferred none)) := ⟨rfl, rfl, rfl, by simp, fun k _ hk => World.putObj_heap_other hk⟩
                  have b8 := HD7.out.2.2.trans (t8.below (fun j e => by rw [e]; exact HVV2.out.2.2) HD7.out.2.2.size)
                  have b9 := b8.trans (t9.below (fun j e => by rw [e]; exact HVV2.out.2.1) b8.size)
                  refine ⟨.bool true, ?_, rfl, b9⟩
                  simp [results, Try.f8, go_sem]
          · have hmin : min n vs.length = n := by omega
            rw [hmin] at hG2
            rw [hWW] at e13
            rw [hmin] at e13
            have F0 := fi_mk MD.out HBl.out.1 HBl.out.2 HV2x.out.2.2.2.1 hG2 (Turn.refl _ X2) hbk12 (by omega) hv40.out hD2
            obtain ⟨NN, hNN⟩ : ∃ NN, NN = n := ⟨_, rfl⟩
            have F2 : Hid (Fi w zs vs gs gs2 oo go2 oc gc2 b5 b12 b13 NN 0 0 go gc oo oc X2 ∧ X2.heap[V.heap.size]? = some (.deferred (some [])) ∧ X2.heap[V2.heap.size]? = some (.deferred (some []))) := hide' (by rw [hNN]; exact F0)
            clear hG2 hD2 hbX2 hbk12 F0 hmin hWW hNN MD HD2 HV2x SQ2 hMb2 HV SQ hMb
            rcases Hb.out with rfl | ⟨rfl, h40⟩
            · clear Hb
              go_wp2_with fail
              go_loopw [15, 16, 17] (fun v15 v16 v17 wx => ∃ (i : Nat) (lo : Option Addr) (lc : Nat) (mo : Option Addr) (mc : Nat), v15 = .slice lo (W + i) lc ∧ v16 = .slice mo (W + i) mc ∧ v17 = .int .i64 (i : Int) ∧ i ≤ NN ∧ Fi w zs vs gs gs2 oo go2 oc gc2 b5 b12 b13 NN i i lo lc mo mc wx ∧ wx.heap[V.heap.size]? = some (.deferred (some [])) ∧ wx.heap[V2.heap.size]? = some (.deferred (some []))) (fun _ _ v17 _ => NN - (intOf v17).toNat)
              case atStart => exact ⟨0, go, gc, oo, oc, rfl, rfl, rfl, Nat.zero_le _, F2.out.1, F2.out.2.1, F2.out.2.2⟩
              case round =>
                obtain ⟨i, lo, lc, mo, mc, rfl, rfl, rfl, hi, hF, hd1, hd2⟩ := hrel
                clear F2
                have k12 : wr.cell? ⟨b12, 0, none⟩ = some (.int .i64 (NN : Int)) := by rw [Lib.cell_of_heap hF.h12]; rfl
                by_cases hlt : i < NN
                · have hlt' : (i : Int) < (NN : Int) := by omega
                  have ei := hide' (wsucN i (by have := hF.n3; omega))
                  have Hend := hide' (msr' hlt _ rfl)
                  have Hi := hide' hlt
                  obtain ⟨r, hr⟩ : ∃ r, gs2[i]? = some r := ⟨_, List.getElem?_eq_getElem (by rw [hF.n2]; exact hlt)⟩
                  obtain ⟨r5, hr5⟩ : ∃ r, vs[i]? = some r := ⟨_, List.getElem?_eq_getElem (by have := hF.n3; omega)⟩
                  have k13 : wr.cell? ⟨b13, 0, none⟩ = some (.slice go2 NN gc2) := by rw [Lib.cell_of_heap hF.h13, hF.n2]; rfl
                  have hltW : (i : Int) < (W : Int) := by have := hF.n3; have := HWW.out; omega
                  obtain ⟨ab, hab, hac⟩ : ∃ ab, go2 = some ⟨ab, 0, none⟩ ∧ wr.cell? ⟨ab, i, none⟩ = some (.slice r.ao r.len r.cap) := by
                    rcases hF.ca with q | ⟨ab, h1, _, _, h4⟩
                    · rw [q] at hr; simp at hr
                    · exact ⟨ab, h1, h4 i r hr⟩
                  obtain ⟨ob, hob⟩ : ∃ ob, oo = some ⟨ob, 0, none⟩ := by
                    rcases hF.cw with q | ⟨ob, h1, _⟩
                    · rw [q] at hr5; simp at hr5
                    · exact ⟨ob, h1⟩
                  have HF := hide' (And.intro hF (And.intro hd1 hd2))
                  have Hr := hide' (And.intro hr hr5)
                  have HL1 : Hid (((gs ++ gs2.take i).map Rw.v).length = W + i ∧ ((vs ++ vs.take i).map Rw.v).length = W + i ∧ W + i < 1000) := hide' (by
                    have := hF.n1; have := hF.n2; have := hF.n3; have := HWW.out
                    rw [List.length_map, List.length_map, List.length_append, List.length_append, List.length_take, List.length_take]
                    omega)
                  have HWi := hide' (show vs.length + i = W + i by have := HWW.out; omega)
                  clear hF hd1 hd2 hi hlt hr hr5
                  subst hab
                  subst hob
                  go_wp2_with (at_builtin; refine stay_l _ _ _ rfl ?_)
                  unfold Stay
                  refine wpList_slp wr rfl _ _ rfl (n := W + i) HL1.out.1 (by rw [← HWi.out]; exact HF.out.1.lrow) (hide' HL1.out.2.2) HF.out.1.bel.size (.slice r.ao r.len r.cap) rfl _ rfl rfl ?_
                  intro g3 c3 w3 r3 t3 p3
                  have F3a := HF.out.1.more (r := r) Hr.out.1 (by rw [HWi.out]; exact r3) t3 p3
                  have F3b : w3.heap[V.heap.size]? = some (.deferred (some [])) := (t3.block _ (lt_of_heap HF.out.2.1) (fun q => by obtain ⟨_, _, cs, q', hh⟩ := row_kind HF.out.1.lrow q; rw [HF.out.2.1] at hh; cases hh)).trans HF.out.2.1
                  have F3c : w3.heap[V2.heap.size]? = some (.deferred (some [])) := (t3.block _ (lt_of_heap HF.out.2.2) (fun q => by obtain ⟨_, _, cs, q', hh⟩ := row_kind HF.out.1.lrow q; rw [HF.out.2.2] at hh; cases hh)).trans HF.out.2.2
                  have F3 := hide' (And.intro F3a (And.intro F3b F3c))
                  have j5 : w3.cell? ⟨b5, 0, none⟩ = some (.slice (some ⟨ob, 0, none⟩) W oc) := by
                    rw [Lib.cell_of_heap F3.out.1.h5, ← HWW.out]
                    try rfl
                  have jc : w3.cell? ⟨ob, i, none⟩ = some (.slice r5.ao r5.len r5.cap) := by
                    rcases F3.out.1.cw with q | ⟨ob', h1, _, _, h4⟩
                    · have := Hr.out.2
                      rw [q] at this
                      simp at this
                    · cases h1
                      exact h4 i r5 Hr.out.2
                  clear r3 t3 p3 F3a F3b F3c hac k13
                  go_wp2_with (at_builtin; refine stay_l _ _ _ rfl ?_)
                  unfold Stay
                  refine wpList_slp w3 rfl _ _ rfl (n := W + i) HL1.out.2.1 (by rw [← HWi.out]; exact F3.out.1.mrow) (hide' HL1.out.2.2) F3.out.1.bel.size (.slice r5.ao r5.len r5.cap) rfl _ rfl rfl ?_
                  intro g6 c6 w6 r6 t6 p6
                  have F6a := F3.out.1.must (r := r5) Hr.out.2 Hi.out (by rw [HWi.out]; exact r6) t6 p6
                  have F6b : w6.heap[V.heap.size]? = some (.deferred (some [])) := (t6.block _ (lt_of_heap F3.out.2.1) (fun q => by obtain ⟨_, _, cs, q', hh⟩ := row_kind F3.out.1.mrow q; rw [F3.out.2.1] at hh; cases hh)).trans F3.out.2.1
                  have F6c : w6.heap[V2.heap.size]? = some (.deferred (some [])) := (t6.block _ (lt_of_heap F3.out.2.2) (fun q => by obtain ⟨_, _, cs, q', hh⟩ := row_kind F3.out.1.mrow q; rw [F3.out.2.2] at hh; cases hh)).trans F3.out.2.2
                  have F6 := hide' (And.intro F6a (And.intro F6b F6c))
                  clear r6 t6 p6 F6a F6b F6c F3 HF j5 jc
                  go_wp2
                  exact ⟨⟨i + 1, _, _, _, _, rfl, rfl, by first | rfl | (rw [ei.out]), Hi.out, F6.out.1, F6.out.2.1, F6.out.2.2⟩, by first | exact Hend.out | (rw [ei.out]; exact Hend.out)⟩
                · obtain rfl : i = NN := by omega
                  have CA := hide' (hF.apart HM.out.2.2)
                  rw [← HWW.out] at CA
                  have HD := hide' (And.intro hd1 hd2)
                  clear hF hd1 hd2 hi hlt
                  go_wp2_with fail
                  refine CA.out.mono ?_
                  rintro e w7 ⟨rfl, b7, k7⟩
                  have D1 := k7 _ _ rfl HD.out.1
                  have D2 := k7 _ _ rfl HD.out.2
                  have HD7 := hide' (And.intro D1 (And.intro D2 b7))
                  clear D1 D2 b7 k7 HD CA
                  go_wp2
                  refine ⟨by simp, .inl ⟨_, _, rfl, run_takeDeferred HD7.out.2.1, ?_⟩⟩
                  have hq1 : (w7.putObj V2.heap.size (.deferred none)).heap[V.heap.size]? = some (.deferred (some [])) := (World.putObj_heap_other HVV2.out.1).trans HD7.out.1
                  refine ⟨by simp, .inl ⟨_, _, rfl, run_takeDeferred hq1, ?_⟩⟩
                  have t8 : Turn (fun j => j = V2.heap.size) w7 (w7.putObj V2.heap.size (.deferred none)) := ⟨rfl, rfl, rfl, by simp, fun k _ hk => World.putObj_heap_other hk⟩
                  have t9 : Turn (fun j => j = V.heap.size) (w7.putObj V2.heap.size (.deferred none)) ((w7.putObj V2.heap.size (.deferred none)).putObj V.heap.size (.deferred none)) := ⟨rfl, rfl, rfl, by simp, fun k _ hk => World.putObj_heap_other hk⟩
                  have b8 := HD7.out.2.2.trans (t8.below (fun j e => by rw [e]; exact HVV2.out.2.2) HD7.out.2.2.size)
                  have b9 := b8.trans (t9.below (fun j e => by rw [e]; exact HVV2.out.2.1) b8.size)
                  refine ⟨.bool true, ?_, rfl, b9⟩
                  simp [results, Try.f8, go_sem]
            · have h40' : ((W : Int) != 40) = false := by rw [HWW.out, h40]; rfl
              clear Hb h40
              go_wp2_with fail
              go_loopw [15, 16, 17] (fun v15 v16 v17 wx => ∃ (i : Nat) (lo : Option Addr) (lc : Nat) (mo : Option Addr) (mc : Nat), v15 = .slice lo (W + i) lc ∧ v16 = .slice mo (W + i) mc ∧ v17 = .int .i64 (i : Int) ∧ i ≤ NN ∧ Fi w zs vs gs gs2 oo go2 oc gc2 b5 b12 b13 NN i i lo lc mo mc wx ∧ wx.heap[V.heap.size]? = some (.deferred (some [])) ∧ wx.heap[V2.heap.size]? = some (.deferred (some []))) (fun _ _ v17 _ => NN - (intOf v17).toNat)
              case atStart => exact ⟨0, go, gc, oo, oc, rfl, rfl, rfl, Nat.zero_le _, F2.out.1, F2.out.2.1, F2.out.2.2⟩
              case round =>
                obtain ⟨i, lo, lc, mo, mc, rfl, rfl, rfl, hi, hF, hd1, hd2⟩ := hrel
                clear F2
                have k12 : wr.cell? ⟨b12, 0, none⟩ = some (.int .i64 (NN : Int)) := by rw [Lib.cell_of_heap hF.h12]; rfl
                by_cases hlt : i < NN
                · have hlt' : (i : Int) < (NN : Int) := by omega
                  have ei := hide' (wsucN i (by have := hF.n3; omega))
                  have Hend := hide' (msr' hlt _ rfl)
                  have Hi := hide' hlt
                  obtain ⟨r, hr⟩ : ∃ r, gs2[i]? = some r := ⟨_, List.getElem?_eq_getElem (by rw [hF.n2]; exact hlt)⟩
                  obtain ⟨r5, hr5⟩ : ∃ r, vs[i]? = some r := ⟨_, List.getElem?_eq_getElem (by have := hF.n3; omega)⟩
                  have k13 : wr.cell? ⟨b13, 0, none⟩ = some (.slice go2 NN gc2) := by rw [Lib.cell_of_heap hF.h13, hF.n2]; rfl
                  have hltW : (i : Int) < (W : Int) := by have := hF.n3; have := HWW.out; omega
                  obtain ⟨ab, hab, hac⟩ : ∃ ab, go2 = some ⟨ab, 0, none⟩ ∧ wr.cell? ⟨ab, i, none⟩ = some (.slice r.ao r.len r.cap) := by
                    rcases hF.ca with q | ⟨ab, h1, _, _, h4⟩
                    · rw [q] at hr; simp at hr
                    · exact ⟨ab, h1, h4 i r hr⟩
                  obtain ⟨ob, hob⟩ : ∃ ob, oo = some ⟨ob, 0, none⟩ := by
                    rcases hF.cw with q | ⟨ob, h1, _⟩
                    · rw [q] at hr5; simp at hr5
                    · exact ⟨ob, h1⟩
                  have HF := hide' (And.intro hF (And.intro hd1 hd2))
                  have Hr := hide' (And.intro hr hr5)
                  have HL1 : Hid (((gs ++ gs2.take i).map Rw.v).length = W + i ∧ ((vs ++ vs.take i).map Rw.v).length = W + i ∧ W + i < 1000) := hide' (by
                    have := hF.n1; have := hF.n2; have := hF.n3; have := HWW.out
                    rw [List.length_map, List.length_map, List.length_append, List.length_append, List.length_take, List.length_take]
                    omega)
                  have HWi := hide' (show vs.length + i = W + i by have := HWW.out; omega)
                  clear hF hd1 hd2 hi hlt hr hr5
                  subst hab
                  subst hob
                  go_wp2_with (at_builtin; refine stay_l _ _ _ rfl ?_)
                  unfold Stay
                  refine wpList_slp wr rfl _ _ rfl (n := W + i) HL1.out.1 (by rw [← HWi.out]; exact HF.out.1.lrow) (hide' HL1.out.2.2) HF.out.1.bel.size (.slice r.ao r.len r.cap) rfl _ rfl rfl ?_
                  intro g3 c3 w3 r3 t3 p3
                  have F3a := HF.out.1.more (r := r) Hr.out.1 (by rw [HWi.out]; exact r3) t3 p3
                  have F3b : w3.heap[V.heap.size]? = some (.deferred (some [])) := (t3.block _ (lt_of_heap HF.out.2.1) (fun q => by obtain ⟨_, _, cs, q', hh⟩ := row_kind HF.out.1.lrow q; rw [HF.out.2.1] at hh; cases hh)).trans HF.out.2.1
                  have F3c : w3.heap[V2.heap.size]? = some (.deferred (some [])) := (t3.block _ (lt_of_heap HF.out.2.2) (fun q => by obtain ⟨_, _, cs, q', hh⟩ := row_kind HF.out.1.lrow q; rw [HF.out.2.2] at hh; cases hh)).trans HF.out.2.2
                  have F3 := hide' (And.intro F3a (And.intro F3b F3c))
                  have j5 : w3.cell? ⟨b5, 0, none⟩ = some (.slice (some ⟨ob, 0, none⟩) W oc) := by
                    rw [Lib.cell_of_heap F3.out.1.h5, ← HWW.out]
                    try rfl
                  have jc : w3.cell? ⟨ob, i, none⟩ = some (.slice r5.ao r5.len r5.cap) := by
                    rcases F3.out.1.cw with q | ⟨ob', h1, _, _, h4⟩
                    · have := Hr.out.2
                      rw [q] at this
                      simp at this
                    · cases h1
                      exact h4 i r5 Hr.out.2
                  clear r3 t3 p3 F3a F3b F3c hac k13
                  go_wp2_with (at_builtin; refine stay_l _ _ _ rfl ?_)
                  unfold Stay
                  refine wpList_slp w3 rfl _ _ rfl (n := W + i) HL1.out.2.1 (by rw [← HWi.out]; exact F3.out.1.mrow) (hide' HL1.out.2.2) F3.out.1.bel.size (.slice r5.ao r5.len r5.cap) rfl _ rfl rfl ?_
                  intro g6 c6 w6 r6 t6 p6
                  have F6a := F3.out.1.must (r := r5) Hr.out.2 Hi.out (by rw [HWi.out]; exact r6) t6 p6
                  have F6b : w6.heap[V.heap.size]? = some (.deferred (some [])) := (t6.block _ (lt_of_heap F3.out.2.1) (fun q => by obtain ⟨_, _, cs, q', hh⟩ := row_kind F3.out.1.mrow q; rw [F3.out.2.1] at hh; cases hh)).trans F3.out.2.1
                  have F6c : w6.heap[V2.heap.size]? = some (.deferred (some [])) := (t6.block _ (lt_of_heap F3.out.2.2) (fun q => by obtain ⟨_, _, cs, q', hh⟩ := row_kind F3.out.1.mrow q; rw [F3.out.2.2] at hh; cases hh)).trans F3.out.2.2
                  have F6 := hide' (And.intro F6a (And.intro F6b F6c))
                  clear r6 t6 p6 F6a F6b F6c F3 HF j5 jc
                  go_wp2
                  exact ⟨⟨i + 1, _, _, _, _, rfl, rfl, by first | rfl | (rw [ei.out]), Hi.out, F6.out.1, F6.out.2.1, F6.out.2.2⟩, by first | exact Hend.out | (rw [ei.out]; exact Hend.out)⟩
                · obtain rfl : i = NN := by omega
                  have CA := hide' (hF.apart HM.out.2.2)
                  rw [← HWW.out] at CA
                  have HD := hide' (And.intro hd1 hd2)
                  clear hF hd1 hd2 hi hlt
                  go_wp2_with fail
                  refine CA.out.mono ?_
                  rintro e w7 ⟨rfl, b7, k7⟩
                  have D1 := k7 _ _ rfl HD.out.1
                  have D2 := k7 _ _ rfl HD.out.2
                  have HD7 := hide' (And.intro D1 (And.intro D2 b7))
                  clear D1 D2 b7 k7 HD CA
                  go_wp2
                  refine ⟨by simp, .inl ⟨_, _, rfl, run_takeDeferred HD7.out.2.1, ?_⟩⟩
                  have hq1 : (w7.putObj V2.heap.size (.deferred none)).heap[V.heap.size]? = some (.deferred (some [])) := (World.putObj_heap_other HVV2.out.1).trans HD7.out.1
                  refine ⟨by simp, .inl ⟨_, _, rfl, run_takeDeferred hq1, ?_⟩⟩
                  have t8 : Turn (fun j => j = V2.heap.size) w7 (w7.putObj V2.heap.size (.deferred none)) := ⟨rfl, rfl, rfl, by simp, fun k _ hk => World.putObj_heap_other hk⟩
                  have t9 : Turn (fun j => j = V.heap.size) (w7.putObj V2.heap.size (.deferred none)) ((w7.putObj V2.heap.size (.deferred none)).putObj V.heap.size (.deferred none)) := ⟨rfl, rfl, rfl, by simp, fun k _ hk => World.putObj_heap_other hk⟩
                  have b8 := HD7.out.2.2.trans (t8.below (fun j e => by rw [e]; exact HVV2.out.2.2) HD7.out.2.2.size)
                  have b9 := b8.trans (t9.below (fun j e => by rw [e]; exact HVV2.out.2.1) b8.size)
                  refine ⟨.bool true, ?_, rfl, b9⟩
                  simp [results, Try.f8, go_sem]
end X
end Go.Proofs.Ytaoglenfbbaliaa
