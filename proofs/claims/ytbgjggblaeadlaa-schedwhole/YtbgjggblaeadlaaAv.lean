import Derived.Test.YtbgjggblaeadlaaMix
import Derived.Test.YtbgjggblaeadlaaPik
import Derived.Test.YtbgjggblaeadlaaRnd
set_option linter.unusedVariables false
set_option linter.unusedSimpArgs false
namespace Go.Proofs.Ytbgjggblaeadlaa
open Go.RowKit
attribute [local go_sem] Oper.semAt_some
namespace X
open C F
/-- the lists of two numbers -/
theorem nx01 {l : List Int} (h : Nx [0, 1] l) : l = [1, 0] := by
  obtain ⟨p, g, h1, h2, _, _, _, _, rfl⟩ := h
  simp at h2
  obtain ⟨rfl, rfl⟩ : p = 0 ∧ g = 1 := by omega
  rfl
theorem nx10 {l : List Int} (h : Nx [1, 0] l) : False := by
  obtain ⟨p, g, h1, h2, h3, _⟩ := h
  simp at h2
  obtain ⟨rfl, rfl⟩ : p = 0 ∧ g = 1 := by omega
  simp at h3
theorem chn11 {k : Nat} {l : List Int} (h : Chn [1, 1] k l) : (k = 0 ∧ l = [0, 1]) ∨ (k = 1 ∧ l = [1, 0]) := by
  induction h with
  | zero => exact .inl ⟨rfl, rfl⟩
  | succ _ hn ih =>
    rcases ih with ⟨rfl, rfl⟩ | ⟨rfl, rfl⟩
    · exact .inr ⟨rfl, nx01 hn⟩
    · exact (nx10 hn).elim
theorem fin11 {k : Nat} (h : Fin [1, 1] k) : k = 2 := by
  obtain ⟨j, l, rfl, hc, hf⟩ := h
  rcases chn11 hc with ⟨rfl, rfl⟩ | ⟨rfl, rfl⟩
  · have := hf 0 (by omega) (by simp)
    simp at this
  · rfl
/-- what alive holds: the result's cell, a board, a counter -/
structure Av (w : World) (r b c : Nat) (L : List Tk) (now : Nat) (ts : List Int) (D Dc : Nat → Prop) (X : World) : Prop where
  hr : X.heap[r]? = some (.cells #[.bool false] 4 (0, 0))
  bo : Bo D w.heap.size b L now X
  ct : Ct Dc w.heap.size c 2 ts X
  bel : Below w.heap.size w X
  lr : w.heap.size ≤ r
variable {w X X' : World} {r b c : Nat} {L L' : List Tk} {now now' : Nat} {ts ts' : List Int} {D D' Dc Dc' : Nat → Prop}
theorem Av.nr (h : Av w r b c L now ts D Dc X) : ¬ (D r ∨ Dc r) := by
  rintro (q | q)
  · obtain ⟨cs, t, fr, h1, h2⟩ := h.bo.kind q
    rw [h.hr] at h1
    cases h1
    rcases h2 with h2 | h2 <;> cases h2
  · obtain ⟨cs, t, fr, h1, h2⟩ := h.ct.kind q
    rw [h.hr] at h1
    cases h1
    rcases h2 with h2 | h2 <;> cases h2
theorem Av.turn (h : Av w r b c L now ts D Dc X) (t : Turn (fun j => D j ∨ Dc j) X X') (bo : Bo D' w.heap.size b L' now' X') (ct : Ct Dc' w.heap.size c 2 ts' X') : Av w r b c L' now' ts' D' Dc' X' :=
  ⟨(t.block r (lt_of_heap h.hr) h.nr).trans h.hr, bo, ct, h.bel.trans (t.below (fun j q => q.elim (fun q => (h.bo.lo q).1) (fun q => (h.ct.lo q).1)) h.bel.size), h.lr⟩
theorem Av.below (h : Av w r b c L now ts D Dc X) (t : Below X.heap.size X X') : Av w r b c L now ts D Dc X' :=
  h.turn (turn_below t) (h.bo.kept (turn_below (S := fun _ => False) t) (fun _ _ q => q)) (h.ct.kept (turn_below (S := fun _ => False) t) (fun _ _ q => q))
theorem Av.join (h : Av w r b c L now ts D Dc X) (t : BTo D w.heap.size b L' now X X') : ∃ D', Av w r b c L' now ts D' Dc X' := by
  obtain ⟨D', h1, t1, hd⟩ := t
  exact ⟨D', h.turn (t1.mono (fun j _ q => .inl q)) h1 (h.ct.kept t1 (fun j q q' => bo_ct h.bo h.ct j q' q))⟩
theorem Av.none (h : Av w r b c L now ts D Dc X) (h1 : Bo D w.heap.size b L' now' X') (t1 : Turn D X X') : Av w r b c L' now' ts D Dc X' :=
  h.turn (t1.mono (fun j _ q => .inl q)) h1 (h.ct.kept t1 (fun j q q' => bo_ct h.bo h.ct j q' q))
theorem eq_func (fn : Fn) (a b : Array Value) (w : World) : (binOp .eql 59 (.func fn a b) .nilFunc).run Try.prog w = .ok (.bool false) w := by kernel_rfl
/-- what stands while the lists are told -/
structure Ai (kb : Nat) (V : World) (M : Nat → Prop) (k : Nat) (X : World) : Prop where
  t : Turn (fun j => j = kb) V X
  c : X.heap[kb]? = some (.cells #[.int .i64 (k : Int)] 3 (0, 0))
  m : ¬ M kb
  k2 : k ≤ 2
theorem Ai.qm {kb : Nat} {V : World} {M M' : Nat → Prop} {k : Nat} {X1 X2 : World} (h : Ai kb V M k X1) (hl : kb < V.heap.size) (t : QM V.heap.size M X1 X2) (hm : ∀ j, M' j → M j ∨ X1.heap.size ≤ j) : Ai kb V M' k X2 :=
  ⟨h.t.then t (fun i hi q => q.elim (fun q => by have := q.1; omega) (fun q => by have := q.2; omega)), (t.low hl (Nat.lt_of_lt_of_le hl h.t.size)).trans h.c, fun q => (hm kb q).elim h.m (fun q => by have := h.t.size; omega), h.k2⟩
theorem Ai.put {kb : Nat} {V : World} {M : Nat → Prop} {k : Nat} {X : World} (G : Nat → Prop) (h : Ai kb V M k X) (hl : kb < V.heap.size) (hk : k < 2) : KeepsFrom V.heap.size X (X.setCell ⟨kb, 0, none⟩ (.int .i64 ((k : Int) + 1))) ∧ Ai kb V (fun j => M j ∧ ¬ G j) (k + 1) (X.setCell ⟨kb, 0, none⟩ (.int .i64 ((k : Int) + 1))) ∧ ∀ j, M j → ¬ G j → (X.setCell ⟨kb, 0, none⟩ (.int .i64 ((k : Int) + 1))).heap[j]? = X.heap[j]? := by
  have t : Turn (fun j => j = kb) X (X.setCell ⟨kb, 0, none⟩ (.int .i64 ((k : Int) + 1))) := (Turn.refl (fun j => j = kb) X).setCell (p := ⟨kb, 0, none⟩) (fun _ => rfl) _
  refine ⟨⟨t.size, fun j o hB hj _ => (t.block j (lt_of_heap hj) (by omega)).trans hj⟩, ⟨h.t.trans t, set_block h.c, fun q => h.m q.1, by omega⟩, fun j hj _ => ?_⟩
  have hne : j ≠ kb := fun e => h.m (by rw [← e]; exact hj)
  exact Below.heap_setCell _ _ _ _ hne
/-- a block of numbers that is no one's is turned -/
theorem Av.kb {kb : Nat} (h : Av w r b c L now ts D Dc X) (t : Turn (fun j => j = kb) X X') (hn : ¬ D kb) (hc : ¬ Dc kb) (hr : r ≠ kb) (hl : w.heap.size ≤ kb) : Av w r b c L now ts D Dc X' :=
  ⟨(t.block r (lt_of_heap h.hr) hr).trans h.hr, h.bo.kept t (fun j q e => hn (by rw [← e]; exact q)), h.ct.kept t (fun j q e => hc (by rw [← e]; exact q)), h.bel.trans (t.below (fun j e => by rw [e]; exact hl) h.bel.size), h.lr⟩
set_option maxRecDepth 100000 in
set_option maxHeartbeats 8000000 in
theorem alive_any (w : World) : Calls Try.prog 13 #[] w fun e w' => e = .returned (.bool true) ∧ Below w.heap.size w w' := by
  refine (callsIn_wide (n := 1)).1 ?_
  refine callsIn_of_wp_marks Try.func13 rfl trivial ?_ rfl
  refine wpIn_wide.2 ?_
  simp only [Try.ntmps13, List.size_toArray, List.length_cons, List.length_nil, Nat.reduceAdd, Nat.reduceSub, Array.replicate_succ, Array.replicate_zero, List.push_toArray, List.append_toArray, List.nil_append, List.cons_append]
  obtain ⟨V0, hV0⟩ : ∃ V0, w.alloc (.cells #[.bool false] 4) = V0 := ⟨_, rfl⟩
  have K0 : Hid (V0.heap[w.heap.size]? = some (.cells #[.bool false] 4 (0, 0)) ∧ Below w.heap.size w V0) := hide' (by rw [← hV0]; exact ⟨heap_alloc_new _ _, (Below.refl _ _).alloc (Nat.le_refl _) _⟩)
  go_wp2_with fail
  refine (board_any (B := w.heap.size) V0 K0.out.2.size).mono ?_
  rintro e V1 ⟨rfl, h1, b1, z1⟩
  have K1 := hide' (And.intro h1 b1)
  clear h1 b1 z1 hV0
  go_wp2_with fail
  refine (new_ct (B := w.heap.size) 2 V1 (Nat.le_trans K0.out.2.size K1.out.2.size)).mono ?_
  rintro e V2 ⟨rfl, h2, b2, z2⟩
  have K2 : Hid (Av w w.heap.size V0.heap.size V1.heap.size [] 0 [] (fun j => j = V0.heap.size) (fun j => j = V1.heap.size) V2) := hide' ⟨(b2.block _ (Nat.lt_of_lt_of_le (lt_of_heap K0.out.1) K1.out.2.size)).trans ((K1.out.2.block _ (lt_of_heap K0.out.1)).trans K0.out.1), K1.out.1.kept (turn_below (S := fun _ => False) b2) (fun _ _ q => q), h2, (K0.out.2.trans (K1.out.2.mono K0.out.2.size)).trans (b2.mono (Nat.le_trans K0.out.2.size K1.out.2.size)), Nat.le_refl _⟩
  clear h2 b2 z2 K0 K1
  obtain ⟨r, hr⟩ : ∃ r, r = w.heap.size := ⟨_, rfl⟩
  obtain ⟨b, hb⟩ : ∃ b, b = V0.heap.size := ⟨_, rfl⟩
  obtain ⟨c, hc⟩ : ∃ c, c = V1.heap.size := ⟨_, rfl⟩
  have K3 : Hid (∃ D Dc, Av w r b c [] 0 [] D Dc V2) := hide' ⟨_, _, by rw [hr, hb, hc]; exact K2.out⟩
  rw [← hr, ← hb, ← hc]
  have HRR := hide' hr
  clear hr hb hc K2
  obtain ⟨D, Dc, hA⟩ := K3.out
  clear K3
  have A0 := hide' hA
  clear hA
  go_wp2_with fail
  refine (join_ok 24 (.pointer (some ⟨c, 0, none⟩)) A0.out.bo A0.out.bel.size (by simp)).mono ?_
  rintro e V3 ⟨rfl, h3⟩
  obtain ⟨D1, hA⟩ := A0.out.join h3
  have A1 : Hid (Av w r b c [(ptr c, -1)] 0 [] D1 Dc V3) := hide' hA
  clear h3 hA A0
  go_wp2_with fail
  refine (pick_step 0 A1.out.bo A1.out.ct rfl A1.out.bel.size (by simp) (by omega)).mono ?_
  rintro e V4 ⟨rfl, h4, t4, Dc2, c4, _⟩
  have A2 : Hid (Av w r b c [(ptr c, -1)] 1 [0] D1 Dc2 V4) := hide' (A1.out.turn t4 h4 c4)
  clear h4 t4 c4 A1
  go_wp2_with fail
  refine (pick_step 0 A2.out.bo A2.out.ct rfl A2.out.bel.size (by simp) (by omega)).mono ?_
  rintro e V5 ⟨rfl, h5, t5, Dc3, c5, _⟩
  have A3 : Hid (Av w r b c [(ptr c, 1)] 2 [0, 1] D1 Dc3 V5) := hide' (A2.out.turn t5 h5 c5)
  clear h5 t5 c5 A2
  go_wp2_with fail
  refine (pick_none 0 A3.out.bo (.inl (by simp [en, hs])) (by omega)).mono ?_
  rintro e V6 ⟨rfl, h6, t6⟩
  have A4 : Hid (Av w r b c [(ptr c, 1)] 3 [0, 1] D1 Dc3 V6) := hide' (A3.out.none h6 t6)
  clear h6 t6 A3
  go_wp2_with fail
  have A6 : Hid (Av w r b c [(ptr c, 1)] 3 [0, 1] D1 Dc3 ((V6.alloc (.cells #[.int .i64 0] 3)).alloc (.cells #[.int .i64 1, .int .i64 1] 3)) ∧ ((V6.alloc (.cells #[.int .i64 0] 3)).alloc (.cells #[.int .i64 1, .int .i64 1] 3)).heap[V6.heap.size]? = some (.cells #[.int .i64 0] 3 (0, 0)) ∧ Ints ((V6.alloc (.cells #[.int .i64 0] 3)).alloc (.cells #[.int .i64 1, .int .i64 1] 3)) (some ⟨V6.heap.size + 1, 0, none⟩) [1, 1] ∧ (¬ D1 V6.heap.size ∧ ¬ Dc3 V6.heap.size ∧ r ≠ V6.heap.size ∧ w.heap.size ≤ V6.heap.size)) := hide' (by
    have hn := heap_alloc_new (V6.alloc (.cells #[.int .i64 0] 3)) (.cells #[.int .i64 1, .int .i64 1] 3)
    rw [World.size_alloc] at hn
    refine ⟨(A4.out.below ((Below.refl _ _).alloc (Nat.le_refl _) _)).below ((Below.refl _ _).alloc (Nat.le_refl _) _), (Below.heap_alloc _ _ _ (by simp)).trans (heap_alloc_new _ _), .inr ⟨_, _, rfl, by simp, fun j hj => ?_⟩, (fun q => by have := (A4.out.bo.lo q).2; omega), (fun q => by have := (A4.out.ct.lo q).2; omega), (fun e => by have := lt_of_heap A4.out.hr; omega), A4.out.bel.size⟩
    rw [Lib.cell_of_heap hn]
    match j, hj with
    | 0, _ => rfl
    | 1, _ => rfl)
  generalize (V6.alloc (.cells #[.int .i64 0] 3)).alloc (.cells #[.int .i64 1, .int .i64 1] 3) = V8 at *
  obtain ⟨kb, hkb⟩ : ∃ kb, kb = V6.heap.size := ⟨_, rfl⟩
  rw [← hkb] at A6
  rw [← hkb]
  obtain ⟨sb, hsb⟩ : ∃ sb, sb = kb + 1 := ⟨_, rfl⟩
  rw [← hsb] at A6
  rw [← hsb]
  clear hkb hsb A4
  refine (mixes_any (some ⟨sb, 0, none⟩) 2 [1, 1] V8 A6.out.2.2.1 (by decide)).mono ?_
  rintro e V9 ⟨cb, ca, cc, rfl, hbx, b9, hM9⟩
  have SQ := hide' (mixes_seq hbx (by decide) (by decide))
  have A9 : Hid (Av w r b c [(ptr c, 1)] 3 [0, 1] D1 Dc3 V9 ∧ V9.heap[kb]? = some (.cells #[.int .i64 0] 3 (0, 0)) ∧ ¬ BM cb ca [1, 1] kb ∧ (∀ j, BM cb ca [1, 1] j → j < V9.heap.size) ∧ (¬ D1 kb ∧ ¬ Dc3 kb ∧ r ≠ kb ∧ w.heap.size ≤ kb)) := hide' ⟨A6.out.1.below b9, (b9.block _ (lt_of_heap A6.out.2.1)).trans A6.out.2.1, fun q => by have h1 := hM9 _ q; have h2 := lt_of_heap A6.out.2.1; omega, fun j q => hbx.lt q, A6.out.2.2.2⟩
  clear hbx b9 hM9 A6
  have hsm : sm [1, 1] = 2 := rfl
  rw [hsm] at SQ
  have heq := eq_func (.func 53) #[] #[.pointer (some ⟨cb, 0, none⟩)]
  go_wp2_with fail
  clear heq
  refine (wpIn_wide (n := 1)).1 ?_
  refine range_g rfl (Nat.le_refl _) (gf := 53) (lb := #[.pointer (some ⟨cb, 0, none⟩)]) rfl trivial Try.call53 SQ.out (Nat.le_refl _) (fun j q => ⟨A9.out.2.2.2.1 j q, rfl⟩) (fun x => rfl)
    (fun M k X => Ai kb V9 M k X) (fun c k X => False)
    (fun M k x a' X => Ai kb V9 M k X ∧ k < 2 ∧ a' = { tmps := #[.pointer (some ⟨r, 0, none⟩), .pointer (some ⟨b, 0, none⟩), .pointer (some ⟨c, 0, none⟩), .int .i64 0, .int .i64 0, .bool true, .bool true, .bool false, .pointer (some ⟨kb, 0, none⟩), .func (.func 53) #[] #[.pointer (some ⟨cb, 0, none⟩)], .slice x.1 2 x.2, .pointer (some ⟨b, 0, none⟩), .pointer (some ⟨c, 0, none⟩), .pointer (some ⟨b, 0, none⟩), .bool false, .bool false, .pointer (some ⟨c, 0, none⟩), .bool false, .bool false, .tuple #[.int .i64 0, .int .i64 0], .pointer (some ⟨b, 0, none⟩), .pointer (some ⟨c, 0, none⟩), .iface 24 (.pointer (some ⟨c, 0, none⟩)), .tuple #[.int .i64 0, .int .i64 0], .int .i64 0, .int .i64 0, .pointer (some ⟨b, 0, none⟩), .bool true, .pointer (some ⟨b, 0, none⟩), .bool true, .pointer (some ⟨b, 0, none⟩), .bool false, .slice (some ⟨sb, 0, none⟩) 2 2, .func (.func 53) #[] #[.pointer (some ⟨cb, 0, none⟩)], .func (.func 53) #[] #[.pointer (some ⟨cb, 0, none⟩)], .bool false, .func (.func 53) #[] #[.pointer (some ⟨cb, 0, none⟩)], .slice x.1 2 x.2, undef, undef, undef, undef, undef, undef, undef, undef, undef, undef, undef, undef, undef, undef, undef, undef, undef, undef, undef, undef, undef, undef, undef, undef, undef, undef, undef, undef, undef, undef, undef, undef, undef, undef, undef, undef, undef, undef, undef, undef, undef, undef, undef, undef, undef, undef, undef, undef, undef, undef, undef, undef, undef], defers := [] })
    ?start ?stab ?stabx ?staba ?assign ?body ?done ?stop
  case start => exact ⟨Turn.refl _ _, A9.out.2.1, A9.out.2.2.1, by omega⟩
  case stab => exact fun M M' k X1 X2 h t hm => h.qm (lt_of_heap A9.out.2.1) t hm
  case stabx => exact fun c k X1 X2 h t => h
  case staba => exact fun M k x a' X1 X2 ⟨h, hk, ha⟩ t => ⟨h.qm (lt_of_heap A9.out.2.1) (QM.of t) (fun j q => .inl q), hk, ha⟩
  case assign =>
    intro m l' M k x X1 K hx h hm hK
    have hk2 : k < 2 := by
      obtain ⟨L, hL, _⟩ := hx
      rcases chn11 hL with ⟨rfl, _⟩ | ⟨rfl, _⟩ <;> omega
    have HKK := hide' hK
    have Hh := hide' (And.intro h hk2)
    clear hK h hm hx hk2
    unfold encL
    gi_wp2
    exact HKK.out _ _ (Turn.refl _ X1) ⟨Hh.out.1, Hh.out.2, rfl⟩
  case body =>
    rintro m l' M k ⟨ro, rc⟩ a' X1 ⟨h, hk, rfl⟩
    have e8 : X1.cell? ⟨kb, 0, none⟩ = some (.int .i64 (k : Int)) := by rw [Lib.cell_of_heap h.c]; rfl
    have f8 : X1.frozen? ⟨kb, 0, none⟩ = false := Lib.frozen_of_heap h.c 0
    have HP := hide' (h.put (fun j => At ro j) (lt_of_heap A9.out.2.1) hk)
    have w1 : wrap64 ((k : Int) + 1) = (k : Int) + 1 := wrap_in (by omega) (by omega)
    have g1 : ¬ ((k : Int) + 1 > 2) := by omega
    clear h
    gi_wp2
    exact HP.out
  case stop => exact fun c k W h => h.elim
  intro M k Vd hfin hI hD
  obtain rfl : k = 2 := fin11 hfin
  obtain ⟨n1, n2, n3, n4⟩ := A9.out.2.2.2.2
  have AD : Hid (Av w r b c [(ptr c, 1)] 3 [0, 1] D1 Dc3 Vd ∧ Vd.heap[kb]? = some (.cells #[.int .i64 2] 3 (0, 0)) ∧ Vd.heap[V9.heap.size]? = some (.deferred (some []))) := hide' ⟨A9.out.1.kb hI.t n1 n2 n3 n4, hI.c, hD⟩
  have HZ : Hid (w.heap.size ≤ V9.heap.size ∧ r ≠ V9.heap.size) := hide' ⟨A9.out.1.bel.size, fun e => by have := lt_of_heap A9.out.1.hr; omega⟩
  clear hI hD hfin n1 n2 n3 n4 A9 SQ
  go_wp2_with fail
  refine (ended_any 0 AD.out.1.bo).mono ?_
  rintro e U0 ⟨rfl, rfl⟩
  have hen : en [(ptr c, 1)] 0 = 1 := by simp [en, hs]
  rw [hen]
  clear hen
  go_wp2_with fail
  refine (now_any AD.out.1.bo).mono ?_
  rintro e U1 ⟨rfl, rfl⟩
  go_wp2_with fail
  refine (times_any AD.out.1.ct (by simp)).mono ?_
  rintro e U2 ⟨ro2, rc2, rfl, r2, b2⟩
  have AE : Hid (Av w r b c [(ptr c, 1)] 3 [0, 1] D1 Dc3 U2 ∧ U2.heap[kb]? = some (.cells #[.int .i64 2] 3 (0, 0)) ∧ U2.heap[V9.heap.size]? = some (.deferred (some []))) := hide' ⟨AD.out.1.below b2, (b2.block _ (lt_of_heap AD.out.2.1)).trans AD.out.2.1, (b2.block _ (lt_of_heap AD.out.2.2)).trans AD.out.2.2⟩
  clear r2 b2 AD
  go_wp2_with fail
  refine (round_any 2 3 U2).mono ?_
  rintro e U3 ⟨ro3, rc3, rfl, r3, b3⟩
  have AF : Hid (Av w r b c [(ptr c, 1)] 3 [0, 1] D1 Dc3 U3 ∧ U3.heap[kb]? = some (.cells #[.int .i64 2] 3 (0, 0)) ∧ U3.heap[V9.heap.size]? = some (.deferred (some []))) := hide' ⟨AE.out.1.below b3, (b3.block _ (lt_of_heap AE.out.2.1)).trans AE.out.2.1, (b3.block _ (lt_of_heap AE.out.2.2)).trans AE.out.2.2⟩
  have hrr : (rr 2 3).length = 3 := by rfl
  rw [hrr]
  clear r3 b3 AE hrr
  go_wp2_with fail
  have AG : Hid (Av w r b c [(ptr c, 1)] 3 [0, 1] D1 Dc3 ((U3.alloc (.cells #[.int .i64 0, .int .i64 0] 3)).alloc (.cells #[.int .i64 (-1)] 3)) ∧ ((U3.alloc (.cells #[.int .i64 0, .int .i64 0] 3)).alloc (.cells #[.int .i64 (-1)] 3)).heap[kb]? = some (.cells #[.int .i64 2] 3 (0, 0)) ∧ ((U3.alloc (.cells #[.int .i64 0, .int .i64 0] 3)).alloc (.cells #[.int .i64 (-1)] 3)).heap[V9.heap.size]? = some (.deferred (some [])) ∧ Ints ((U3.alloc (.cells #[.int .i64 0, .int .i64 0] 3)).alloc (.cells #[.int .i64 (-1)] 3)) (some ⟨U3.heap.size, 0, none⟩) [0, 0] ∧ Ints ((U3.alloc (.cells #[.int .i64 0, .int .i64 0] 3)).alloc (.cells #[.int .i64 (-1)] 3)) (some ⟨U3.heap.size + 1, 0, none⟩) [-1]) := hide' (by
    have bb : Below U3.heap.size U3 ((U3.alloc (.cells #[.int .i64 0, .int .i64 0] 3)).alloc (.cells #[.int .i64 (-1)] 3)) := ((Below.refl _ _).alloc (Nat.le_refl _) _).alloc (by simp) _
    have hn := heap_alloc_new (U3.alloc (.cells #[.int .i64 0, .int .i64 0] 3)) (.cells #[.int .i64 (-1)] 3)
    rw [World.size_alloc] at hn
    have hn2 : ((U3.alloc (.cells #[.int .i64 0, .int .i64 0] 3)).alloc (.cells #[.int .i64 (-1)] 3)).heap[U3.heap.size]? = some (.cells #[.int .i64 0, .int .i64 0] 3 (0, 0)) := (Below.heap_alloc _ _ _ (by simp)).trans (heap_alloc_new _ _)
    refine ⟨AF.out.1.below bb, (bb.block _ (lt_of_heap AF.out.2.1)).trans AF.out.2.1, (bb.block _ (lt_of_heap AF.out.2.2)).trans AF.out.2.2, .inr ⟨_, _, rfl, by simp; omega, fun j hj => ?_⟩, .inr ⟨_, _, rfl, by simp, fun j hj => ?_⟩⟩
    · rw [Lib.cell_of_heap hn2]
      match j, hj with
      | 0, _ => rfl
      | 1, _ => rfl
    · rw [Lib.cell_of_heap hn]
      match j, hj with
      | 0, _ => rfl)
  generalize (U3.alloc (.cells #[.int .i64 0, .int .i64 0] 3)).alloc (.cells #[.int .i64 (-1)] 3) = U4 at *
  refine (fair_any (some ⟨U3.heap.size, 0, none⟩) 2 [0, 0] (some ⟨U3.heap.size + 1, 0, none⟩) 1 [-1] 1 U4 AG.out.2.2.2.1 AG.out.2.2.2.2 (by simp) (by simp)).mono ?_
  rintro e U5 ⟨rfl, b5⟩
  have hfr : fr [0, 0] [-1] 1 = true := fr_true ⟨by omega, fun k hk f hf => by
    simp at hk
    subst hk
    have : ef 2 (-1) = 1 := rfl
    simp [this] at hf
    refine ⟨f, Nat.le_refl _, by omega, ?_⟩
    match f, (show f < 2 by omega) with
    | 0, _ => rfl
    | 1, _ => rfl⟩
  rw [hfr]
  have AH : Hid (Av w r b c [(ptr c, 1)] 3 [0, 1] D1 Dc3 U5 ∧ U5.heap[kb]? = some (.cells #[.int .i64 2] 3 (0, 0)) ∧ U5.heap[V9.heap.size]? = some (.deferred (some []))) := hide' ⟨AG.out.1.below b5, (b5.block _ (lt_of_heap AG.out.2.1)).trans AG.out.2.1, (b5.block _ (lt_of_heap AG.out.2.2.1)).trans AG.out.2.2.1⟩
  have e8 : U5.cell? ⟨kb, 0, none⟩ = some (.int .i64 2) := by rw [Lib.cell_of_heap AH.out.2.1]; rfl
  have e0 : U5.cell? ⟨r, 0, none⟩ = some (.bool false) := by rw [Lib.cell_of_heap AH.out.1.hr]; rfl
  have f0 : U5.frozen? ⟨r, 0, none⟩ = false := Lib.frozen_of_heap AH.out.1.hr 0
  clear hfr b5 AG AF
  have t1 : Turn (fun j => j = r) U5 (U5.setCell ⟨r, 0, none⟩ (.bool true)) := (Turn.refl (fun j => j = r) U5).setCell (p := ⟨r, 0, none⟩) (fun _ => rfl) _
  have HS : Hid ((U5.setCell ⟨r, 0, none⟩ (.bool true)).heap[r]? = some (.cells #[.bool true] 4 (0, 0)) ∧ (U5.setCell ⟨r, 0, none⟩ (.bool true)).heap[V9.heap.size]? = some (.deferred (some [])) ∧ Below w.heap.size w (U5.setCell ⟨r, 0, none⟩ (.bool true))) := hide' ⟨set_block AH.out.1.hr, (t1.block _ (lt_of_heap AH.out.2.2) (fun e => HZ.out.2 e.symm)).trans AH.out.2.2, AH.out.1.bel.trans (t1.below (fun j e => by rw [e]; exact AH.out.1.lr) AH.out.1.bel.size)⟩
  clear t1
  go_wp2_with fail
  refine ⟨by simp, .inl ⟨_, _, rfl, run_takeDeferred HS.out.2.1, ?_⟩⟩
  generalize U5.setCell ⟨r, 0, none⟩ (.bool true) = Ue at *
  have t2 : Turn (fun j => j = V9.heap.size) Ue (Ue.putObj V9.heap.size (.deferred none)) := ⟨rfl, rfl, rfl, by simp, fun k _ hk => World.putObj_heap_other hk⟩
  have z := (t2.block _ (lt_of_heap HS.out.1) HZ.out.2).trans HS.out.1
  have z0 : (Ue.putObj V9.heap.size (.deferred none)).cell? ⟨r, 0, none⟩ = some (.bool true) := by rw [Lib.cell_of_heap z]; rfl
  refine ⟨.bool true, ?_, rfl, HS.out.2.2.trans (t2.below (fun j e => by rw [e]; exact HZ.out.1) HS.out.2.2.size)⟩
  simp [results, Try.f13, go_sem, z0]
end X
end Go.Proofs.Ytbgjggblaeadlaa
