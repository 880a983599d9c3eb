import Derived.Test.YtmcdifmbblbhgaaUnl
import Derived.Deep.RegionHeld3
set_option linter.unusedVariables false
set_option linter.unusedSimpArgs false
namespace Go.Proofs.Ytmcdifmbblbhgaa
open Go.RowKit Go.Maps
namespace V
open U D
def rowOk (K C : Nat) (r : Mr) : Bool := (r.l.length == C) && !(r.l.any fun m => out m K)
def sq (ms : List Mr) (k : Nat) : Nat := (ms.getD (k / 64) mr0).l.getD (k % 64) 0
def msk (k R C : Nat) (ms : List Mr) : Bool := (ms.length == R) && ms.all (rowOk (2 ^ k - 1) C) && unl (sq ms) R && unl (fun k => sq ms (k % 64 * 64 + k / 64)) C
theorem sq_step {ms : List Mr} {x : Nat} {r : Mr} (hr : ms[x]? = some r) (hl : r.l.length ≤ 64) (k : Nat) : (if x * 64 ≤ k ∧ k < x * 64 + r.l.length then r.l.getD (k - x * 64) 0 else sq (ms.take x) k) = sq (ms.take (x + 1)) k := by
  have hx : x < ms.length := (List.getElem?_eq_some_iff.1 hr).1
  have e0 : mr0.l = [] := rfl
  unfold sq
  by_cases h1 : k / 64 < x
  · rw [if_neg (by omega)]
    simp only [List.getD, List.getElem?_take, h1, if_true, show k / 64 < x + 1 by omega]
  · by_cases h2 : k / 64 = x
    · have e1 : (ms.take (x + 1)).getD (k / 64) mr0 = r := by simp [List.getD, List.getElem?_take, h2, hr]
      have e2 : (ms.take x).getD (k / 64) mr0 = mr0 := by simp [List.getD, List.getElem?_take, h1]
      rw [e1, e2, e0]
      by_cases h3 : k < x * 64 + r.l.length
      · rw [if_pos ⟨by omega, h3⟩, show k - x * 64 = k % 64 by omega]
      · rw [if_neg (by omega)]
        have e3 : r.l[k % 64]? = none := List.getElem?_eq_none (by omega)
        simp [List.getD, e3]
    · rw [if_neg (by omega)]
      have e1 : (ms.take (x + 1)).getD (k / 64) mr0 = mr0 := by simp [List.getD, List.getElem?_take, show ¬ k / 64 < x + 1 by omega]
      have e2 : (ms.take x).getD (k / 64) mr0 = mr0 := by simp [List.getD, List.getElem?_take, h1]
      rw [e1, e2]
theorem sq_lt {ms : List Mr} (h : ∀ r ∈ ms, ∀ z ∈ r.l, z < 65536) (k : Nat) : sq ms k < 65536 := by
  unfold sq
  cases q : ms[k / 64]? with
  | none => simp [List.getD, q, mr0]
  | some r =>
    cases q2 : r.l[k % 64]? with
    | none => simp [List.getD, q, q2]
    | some z => simp [List.getD, q, q2]; exact h r (List.mem_of_getElem? q) z (List.mem_of_getElem? q2)
/-- a graph in a box -/
structure Bg (G : Gf) (q1 : Nat) (w V : World) : Prop where
  b : Below w.heap.size w V
  h : V.heap[q1]? = some (.cells #[.slice G.a.1 G.a.2.2.length G.a.2.1, .slice G.s.1 G.s.2.2.length G.s.2.1, .slice G.o.1 G.o.2.2.length G.o.2.1, .slice G.f.1 G.f.2.2.length G.f.2.1, .slice G.n.1 G.n.2.2.length G.n.2.1, .slice G.m.1 G.m.2.2.length G.m.2.1] 28 (0, 0))
theorem Bg.below {G : Gf} {q1 : Nat} {w V V' : World} (h : Bg G q1 w V) (t : Below V.heap.size V V') : Bg G q1 w V' := ⟨h.b.trans (t.mono h.b.size), (t.block _ (lt_of_heap h.h)).trans h.h⟩
/-- a square in the making -/
structure Mq (G : Gf) (q1 qk qs K : Nat) (h : Nat → Nat) (w V : World) : Prop where
  g : Bg G q1 w V
  k : V.heap[qk]? = some (.cells #[.int .u16 (K : Int)] 24 (0, 0))
  s : V.heap[qs]? = some (.cells (tab 4096 h) 77 (0, 0))
  l : w.heap.size ≤ qs
  l1 : q1 < qs
  lk : qk < qs
theorem Mq.below {G : Gf} {q1 qk qs K : Nat} {h : Nat → Nat} {w V V' : World} (m : Mq G q1 qk qs K h w V) (t : Below V.heap.size V V') : Mq G q1 qk qs K h w V' := ⟨m.g.below t, (t.block _ (lt_of_heap m.k)).trans m.k, (t.block _ (lt_of_heap m.s)).trans m.s, m.l, m.l1, m.lk⟩
theorem Mq.next {G : Gf} {q1 qk qs K : Nat} {h h' : Nat → Nat} {w V V' : World} (m : Mq G q1 qk qs K h w V) (t : Below qs V V') (hs : V'.heap[qs]? = some (.cells (tab 4096 h') 77 (0, 0))) : Mq G q1 qk qs K h' w V' := ⟨⟨m.g.b.trans (t.mono m.l), (t.block _ m.l1).trans m.g.h⟩, (t.block _ m.lk).trans m.k, hs, m.l, m.l1, m.lk⟩
set_option maxHeartbeats 8000000 in
set_option maxRecDepth 100000 in
theorem masked_any (G : Gf) (w : World) (R C : Nat) (h : G.In w) (nf : G.f.1 = none → G.f.2.1 = 0) (nn : G.n.1 = none → G.n.2.1 = 0) (ha : (G.a.2.2.length : Int) ≤ 16) (hf : (G.f.2.2.length : Int) ≤ 64) (hn : (G.n.2.2.length : Int) ≤ 64) (eR : gre 0 G.f.2.2 = (R : Int)) (eC : gre 0 G.n.2.2 = (C : Int)) (hR : R ≤ 64) (hC : C ≤ 64) :
    Calls Try.prog 33 #[.agg #[.slice G.a.1 G.a.2.2.length G.a.2.1, .slice G.s.1 G.s.2.2.length G.s.2.1, .slice G.o.1 G.o.2.2.length G.o.2.1, .slice G.f.1 G.f.2.2.length G.f.2.1, .slice G.n.1 G.n.2.2.length G.n.2.1, .slice G.m.1 G.m.2.2.length G.m.2.1]] w fun e w' => e = .returned (.bool (msk G.a.2.2.length R C G.m.2.2)) ∧ Below w.heap.size w w' := by
  have H := hide' h
  have CF : Hid (∀ V, Below w.heap.size w V → Calls Try.prog 70 #[.slice G.f.1 G.f.2.2.length G.f.2.1] V fun e w' => e = .returned (.int .i64 (R : Int)) ∧ Below V.heap.size V w') := fun V b => by rw [← eR]; exact howMany_any _ _ _ V (h.below b).f.1 h.f.2.1 nf (by omega)
  have CN : Hid (∀ V, Below w.heap.size w V → Calls Try.prog 70 #[.slice G.n.1 G.n.2.2.length G.n.2.1] V fun e w' => e = .returned (.int .i64 (C : Int)) ∧ Below V.heap.size V w') := fun V b => by rw [← eC]; exact howMany_any _ _ _ V (h.below b).n.1 h.n.2.1 nn (by omega)
  have CA : Hid (∀ V, Calls Try.prog 71 #[.slice G.a.1 G.a.2.2.length G.a.2.1] V fun e w' => e = .returned (.int .u16 ((2 ^ G.a.2.2.length - 1 : Nat) : Int)) ∧ Below V.heap.size V w') := fun V => bitsOf_any _ _ _ V ha
  have hR' : (R : Int) ≤ 64 := by omega
  have hC' : (C : Int) ≤ 64 := by omega
  have Hf := hide' (And.intro nf (And.intro nn (And.intro ha (And.intro hf (And.intro hn (And.intro eR eC))))))
  clear h nf nn ha hf hn eR eC
  go_enter Try.func33, Try.ntmps33
  go_wp2_with fail
  have B0 : Hid (Bg G w.heap.size w (w.alloc (.cells #[.slice G.a.1 G.a.2.2.length G.a.2.1, .slice G.s.1 G.s.2.2.length G.s.2.1, .slice G.o.1 G.o.2.2.length G.o.2.1, .slice G.f.1 G.f.2.2.length G.f.2.1, .slice G.n.1 G.n.2.2.length G.n.2.1, .slice G.m.1 G.m.2.2.length G.m.2.1] 28))) := ⟨(Below.refl _ _).alloc (Nat.le_refl _) _, heap_alloc_new _ _⟩
  generalize w.alloc (.cells #[.slice G.a.1 G.a.2.2.length G.a.2.1, .slice G.s.1 G.s.2.2.length G.s.2.1, .slice G.o.1 G.o.2.2.length G.o.2.1, .slice G.f.1 G.f.2.2.length G.f.2.1, .slice G.n.1 G.n.2.2.length G.n.2.1, .slice G.m.1 G.m.2.2.length G.m.2.1] 28) = V at *
  obtain ⟨q1, hq1⟩ : ∃ q1, q1 = w.heap.size := ⟨_, rfl⟩
  rw [← hq1] at B0
  rw [← hq1]
  clear hq1
  have SA : Hid (∀ W, Bg G q1 w W → W.cell? ⟨q1, 3, none⟩ = some (.slice G.f.1 G.f.2.2.length G.f.2.1) ∧ W.cell? ⟨q1, 4, none⟩ = some (.slice G.n.1 G.n.2.2.length G.n.2.1)) := fun W b => ⟨by rw [Lib.cell_of_heap b.h]; rfl, by rw [Lib.cell_of_heap b.h]; rfl⟩
  have e0 : Bg G q1 w V.drew := B0.out.below ⟨rfl, rfl, rfl, Nat.le_refl _, fun _ _ => rfl⟩
  obtain ⟨c3, c4⟩ := SA.out _ B0.out
  clear B0
  go_region_held3 (fun W => W.cell? ⟨q1, 3, none⟩ = some (.slice G.f.1 G.f.2.2.length G.f.2.1) ∧ W.cell? ⟨q1, 4, none⟩ = some (.slice G.n.1 G.n.2.2.length G.n.2.1)) (first | with_reducible exact SA.out _ e2 | with_reducible exact SA.out _ e1 | with_reducible exact SA.out _ e0 | go_keep) (first | (go_at_call 70; (fail_if_success (have G := e1)); refine (CF.out _ e0.b).mono ?_; rintro e W1 ⟨rfl, b1⟩; have e1 : Bg G q1 w W1 := e0.below b1; clear b1) | (go_at_call 70; refine (CN.out _ e1.b).mono ?_; rintro e W2 ⟨rfl, b2⟩; have e2 : Bg G q1 w W2 := e1.below b2; clear b2))
  rename_i hHeld
  clear hHeld c3 c4
  have B2 := hide' e2
  clear e0 e1 e2
  have c5 : W2.cell? ⟨q1, 5, none⟩ = some (.slice G.m.1 G.m.2.2.length G.m.2.1) := by rw [Lib.cell_of_heap B2.out.h]; rfl
  by_cases hm : G.m.2.2.length = R
  rotate_left
  · have hm' : ¬ (G.m.2.2.length : Int) = (R : Int) := by omega
    have hF : Hid (msk G.a.2.2.length R C G.m.2.2 = false) := by show _ = _; unfold msk; rw [beq_eq_false_iff_ne.2 hm]; rfl
    clear hm
    go_wp2_with fail
    go_ret
    exact ⟨ret_b hF.out.symm, B2.out.b⟩
  have hm' : (G.m.2.2.length : Int) = (R : Int) := by omega
  have Hm := hide' hm
  have c0 : W2.cell? ⟨q1, 0, none⟩ = some (.slice G.a.1 G.a.2.2.length G.a.2.1) := by rw [Lib.cell_of_heap B2.out.h]; rfl
  obtain ⟨K, hK⟩ : ∃ K, K = 2 ^ G.a.2.2.length - 1 := ⟨_, rfl⟩
  have HK := hide' hK
  rw [← hK] at CA
  clear hm hK
  go_wp2_with fail
  refine (CA.out W2).mono ?_
  rintro e W3 ⟨rfl, b3⟩
  have B3 := hide' (B2.out.below b3)
  clear b3 B2 c5 c0 hm'
  go_wp2_with (with_reducible refine stay_alloc 77 rfl ?_)
  unfold Stay
  refine wpList_alloc_row (by rfl) 77 rfl _ (zero77 _) ?_
  have M0 : Hid (Mq G q1 W3.heap.size (W3.alloc (.cells #[.int .u16 (K : Int)] 24)).heap.size K (fun _ => 0) w ((W3.alloc (.cells #[.int .u16 (K : Int)] 24)).alloc (.cells (tab 4096 fun _ => 0) 77))) := by
    have z1 : (W3.alloc (.cells #[.int .u16 (K : Int)] 24)).heap.size = W3.heap.size + 1 := by simp
    have l1 := lt_of_heap B3.out.h
    have l0 := B3.out.b.size
    refine ⟨B3.out.below (((Below.refl _ _).alloc (Nat.le_refl _) _).alloc (by omega) _), ?_, heap_alloc_new _ _, by omega, by omega, by omega⟩
    rw [Below.heap_alloc _ _ _ (by omega)]
    exact heap_alloc_new _ _
  generalize (W3.alloc (.cells #[.int .u16 (K : Int)] 24)).alloc (.cells (tab 4096 fun _ => 0) 77) = V5 at *
  generalize (W3.alloc (.cells #[.int .u16 (K : Int)] 24)).heap.size = qs at *
  generalize W3.heap.size = qk at *
  clear B3 W3
  have c5 : V5.cell? ⟨q1, 5, none⟩ = some (.slice G.m.1 G.m.2.2.length G.m.2.1) := by rw [Lib.cell_of_heap M0.out.g.h]; rfl
  have hml : (G.m.2.2.length : Int) ≤ 64 := by have := Hm.out; omega
  have hmc : G.m.2.2.length ≤ G.m.2.1 := H.out.m.2.1
  obtain ⟨ms, hms⟩ : ∃ ms, ms = G.m.2.2 := ⟨_, rfl⟩
  have Hms := hide' hms
  rw [← hms] at hml hmc Hm c5 ⊢
  clear hms
  go_wp2_with fail
  clear c5
  go_loopw [27] (fun iv wx => ∃ (x : Nat), iv = .int .i64 (x : Int) ∧ x ≤ ms.length ∧ Hid (Mq G q1 qk qs K (sq (ms.take x)) w wx ∧ (ms.take x).all (rowOk K C) = true)) (fun iv _ => ms.length - (intOf iv).toNat)
  case atStart => exact ⟨0, rfl, Nat.zero_le _, M0.out, rfl⟩
  case round =>
    obtain ⟨x, rfl, hx, HM⟩ := hrel
    by_cases hlt : x < ms.length
    · have hlt' : (x : Int) < (ms.length : Int) := by omega
      have hx64 : x < 64 := by omega
      obtain ⟨r, hr⟩ : ∃ r, ms[x]? = some r := ⟨_, List.getElem?_eq_getElem hlt⟩
      have hr2 : G.m.2.2[x]? = some r := by rw [← Hms.out]; exact hr
      obtain ⟨y, off, hy, _, cr⟩ := (H.out.below HM.out.1.g.b).m.1.one hr2
      have hrm := H.out.r r (List.mem_of_getElem? hr2)
      have HR := hide' (And.intro ((H.out.below HM.out.1.g.b).r r (List.mem_of_getElem? hr2)).1 hrm.2)
      have htk : Hid (ms.take (x + 1) = ms.take x ++ [r]) := by show _ = _; rw [List.take_add_one, hr]; rfl
      have hmem := hide' (List.mem_of_getElem? hr)
      have Hr := hide' hr
      have hrc := hrm.1.2.1
      rw [hy]
      unfold Mr.cell at cr
      clear hr hr2 hrm hy
      by_cases hl : r.l.length = C
      rotate_left
      · have hl' : ¬ (r.l.length : Int) = (C : Int) := by omega
        have hF : Hid (msk G.a.2.2.length R C ms = false) := by
          show _ = _
          unfold msk
          rw [← HK.out]
          have e : ms.all (rowOk K C) = false := by
            rw [List.all_eq_false]
            exact ⟨r, hmem.out, by unfold rowOk; rw [beq_eq_false_iff_ne.2 hl]; simp⟩
          rw [e, Bool.and_false]; rfl
        clear hl
        go_wp2_with fail
        go_ret
        exact ⟨ret_b (by rw [← Hms.out]; exact hF.out.symm), HM.out.1.g.b⟩
      have hl' : (r.l.length : Int) = (C : Int) := by omega
      have Hl := hide' hl
      have hlen : (r.l.length : Int) ≤ 64 := by omega
      have CC := hide' (containsFunc_any r.ro r.rc K qk r.l wr HR.out.1.1 hrc (by omega) (by rw [Lib.cell_of_heap HM.out.1.k]; rfl))
      clear hl
      cases ho : r.l.any (fun m => out m K) with
      | true =>
        have hF : Hid (msk G.a.2.2.length R C ms = false) := by
          show _ = _
          unfold msk
          rw [← HK.out]
          have e : ms.all (rowOk K C) = false := by
            rw [List.all_eq_false]
            exact ⟨r, hmem.out, by unfold rowOk; rw [ho]; simp⟩
          rw [e, Bool.and_false]; rfl
        rw [ho] at CC
        clear ho
        go_wp2_with fail
        refine CC.out.mono ?_
        rintro e V6 ⟨rfl, rfl⟩
        go_wp2_with fail
        go_ret
        exact ⟨ret_b (by rw [← Hms.out]; exact hF.out.symm), HM.out.1.g.b⟩
      | false =>
        have hA : Hid ((ms.take (x + 1)).all (rowOk K C) = true) := by
          show _ = _
          rw [htk.out, List.all_append, HM.out.2]
          simp [rowOk, Hl.out, ho]
        rw [ho] at CC
        clear ho
        go_wp2_with fail
        refine CC.out.mono ?_
        rintro e V6 ⟨rfl, rfl⟩
        go_wp2_with (with_reducible refine stay_copy _ _ _ rfl ?_)
        unfold Stay
        have hsrc : Hid (0 < (r.l.map fun z : Nat => Value.int .u16 (z : Int)).length → (some (⟨qs, x * 64, none⟩ : Addr)) = some ⟨qs, x * 64, none⟩ ∧ ∃ ad, r.ro = some ad ∧ ∀ (j : Nat) v, (r.l.map fun z : Nat => Value.int .u16 (z : Int))[j]? = some v → V6.cell? (ad.add j) = some v) := fun hpos => by
          refine ⟨rfl, ?_⟩
          rw [List.length_map] at hpos
          obtain ⟨z0, hz0⟩ : ∃ z, r.l[0]? = some z := ⟨_, List.getElem?_eq_getElem hpos⟩
          obtain ⟨b', o', e', _, _⟩ := HR.out.1.1.one hz0
          refine ⟨_, e', fun j v q => ?_⟩
          rw [List.getElem?_map] at q
          cases q2 : r.l[j]? with
          | none => rw [q2] at q; cases q
          | some z =>
            rw [q2] at q
            obtain ⟨b2, o2, e2, _, c2⟩ := HR.out.1.1.one q2
            rw [e'] at e2
            cases e2
            cases q
            rw [add_off]
            exact c2
        refine wpList_copy_splice rfl _ _ 25 25 rfl 24 Try.underlying25 (by kernel_rfl) (some ⟨qs, x * 64, none⟩) r.ro 64 64 r.l.length r.rc rfl rfl qs (x * 64) (tab 4096 (sq (ms.take x))).toList 77 (by rw [Array.toArray_toList]; exact HM.out.1.s) (r.l.map fun z : Nat => Value.int .u16 (z : Int)) (by rw [List.length_map]; exact (Nat.min_eq_left (by omega)).symm) hsrc.out (by rw [List.length_map, Array.length_toList, tab_size]; omega) (by intro u hu; simp only [List.mem_map] at hu; obtain ⟨z, _, rfl⟩ := hu; rfl) qs V6 (Below.refl _ _) (Nat.le_refl _) ?_
        intro V7 hs7 b7
        have M7 : Hid (Mq G q1 qk qs K (sq (ms.take (x + 1))) w V7) := by
          have q := hs7.out
          rw [tab_splice 4096 _ _ _ (by omega), tab_congr (fun k _ => sq_step Hr.out (by omega) k)] at q
          exact HM.out.1.next b7 q
        clear hs7 b7 hsrc CC
        go_wp2_with fail
        exact ⟨⟨x + 1, by go_num, by omega, M7.out, hA.out⟩, by simp [intOf]; omega⟩
    · have hi' : x = ms.length := by omega
      have hlt' : ¬ (x : Int) < (ms.length : Int) := by omega
      have HM2 : Hid (Mq G q1 qk qs K (sq ms) w wr ∧ ms.all (rowOk K C) = true) := by have q := HM; rw [hi', List.take_length] at q; exact q
      have hbd : Hid (∀ k, sq ms k < 65536) := fun k => sq_lt (fun r hr => (H.out.r r (by rw [← Hms.out]; exact hr)).2) k
      have hV : Hid (msk G.a.2.2.length R C G.m.2.2 = (unl (sq ms) R && unl (fun k => sq ms (k % 64 * 64 + k / 64)) C)) := by
        show _ = _
        rw [← Hms.out]
        unfold msk
        rw [← HK.out, HM2.out.2, Hm.out]
        simp
      clear HM hi' hlt hx M0
      go_wp2_with (with_reducible refine stay_load 77 _ rfl ?_)
      unfold Stay
      refine wpList_load_w (by rfl) 77 _ rfl qs rfl 77 (tab 4096 (sq ms)) (0, 0) _ HM2.out.1.s Try.underlying77 rfl (isz77 _) ?_
      go_wp2_with fail
      refine (turned_any (sq ms) wr).mono ?_
      rintro e V8 ⟨rfl, b8⟩
      have M8 := hide' (HM2.out.1.below b8)
      clear b8 HM2
      go_wp2_with (with_reducible refine stay_alloc 77 rfl ?_)
      unfold Stay
      refine wpList_alloc_row (by rfl) 77 rfl _ (zero77 _) ?_
      go_wp2_with (with_reducible refine stay_store 77 _ _ rfl ?_)
      unfold Stay
      refine wpList_store_row rfl 77 _ _ rfl V8.heap.size (tab 4096 fun k => sq ms (k % 64 * 64 + k / 64)) rfl rfl 77 _ (heap_alloc_new V8 _) (isz77 _) (by rw [tab_size, tab_size]) (tab_one _ _) ?_
      rw [World.setRow_alloc_new]
      have M9 : Hid (Mq G q1 qk qs K (sq ms) w (V8.alloc (.cells (tab 4096 fun k => sq ms (k % 64 * 64 + k / 64)) 77)) ∧ (V8.alloc (.cells (tab 4096 fun k => sq ms (k % 64 * 64 + k / 64)) 77)).heap[V8.heap.size]? = some (.cells (tab 4096 fun k => sq ms (k % 64 * 64 + k / 64)) 77 (0, 0))) := ⟨M8.out.below ((Below.refl _ _).alloc (Nat.le_refl _) _), heap_alloc_new _ _⟩
      generalize V8.alloc (.cells (tab 4096 fun k => sq ms (k % 64 * 64 + k / 64)) 77) = V9 at *
      generalize V8.heap.size = q9 at *
      clear M8 V8
      go_wp2_with fail
      refine (allUnlike_any (sq ms) qs R 64 V9 M9.out.1.s (fun k _ => hbd.out k) hR hR).mono ?_
      rintro e V10 ⟨rfl, b10⟩
      have M10 := hide' (And.intro (M9.out.1.below b10) ((b10.block _ (lt_of_heap M9.out.2)).trans M9.out.2))
      clear b10 M9
      cases hu : unl (sq ms) R with
      | false =>
        have hV2 : Hid (msk G.a.2.2.length R C G.m.2.2 = false) := by show _ = _; rw [hV.out, hu]; rfl
        clear hu
        go_wp2_with fail
        go_ret
        exact ⟨ret_b hV2.out.symm, M10.out.1.g.b⟩
      | true =>
        have hV2 : Hid (msk G.a.2.2.length R C G.m.2.2 = unl (fun k => sq ms (k % 64 * 64 + k / 64)) C) := by show _ = _; rw [hV.out, hu]; rfl
        clear hu
        go_wp2_with fail
        refine (allUnlike_any (fun k => sq ms (k % 64 * 64 + k / 64)) q9 C 64 V10 M10.out.2 (fun k _ => hbd.out _) hC hC).mono ?_
        rintro e V11 ⟨rfl, b11⟩
        have M11 := hide' (M10.out.1.below b11)
        clear b11 M10
        generalize unl (fun k => sq ms (k % 64 * 64 + k / 64)) C = uu at *
        go_wp2_with fail
        go_ret
        exact ⟨ret_b hV2.out.symm, M11.out.g.b⟩
end V
end Go.Proofs.Ytmcdifmbblbhgaa
