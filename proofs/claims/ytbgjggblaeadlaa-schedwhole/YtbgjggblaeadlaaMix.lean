import Derived.Test.YtbgjggblaeadlaaOrd
import Derived.Stop.RegionWithIn
set_option linter.unusedVariables false
set_option linter.unusedSimpArgs false
namespace Go.Proofs.Ytbgjggblaeadlaa
open Go.RowKit
attribute [local go_sem] Oper.semAt_some
namespace X
open C F
set_option maxRecDepth 100000 in
theorem orders_any (a : Option Addr) (n c : Nat) (w : World) : Calls Try.prog 54 #[.slice a n c] w fun e w' => e = .returned (.func (.func 61) #[] #[.pointer (some ⟨w.heap.size, 0, none⟩)]) ∧ w' = w.alloc (.cells #[.slice a n c] 23) := by
  go_enter Try.func54, Try.ntmps54
  go_wp2_with fail
  go_ret
  exact ⟨rfl, rfl⟩
theorem round_in {F : Fence} {n : Nat} {P : Program} {l l' : Nat} {f : FuncId} {tmps : Array Value} {assign body : Code} {w : World} {R : Ending → World → Prop} (h : RoundIn F n P l f tmps assign body w R) : RoundIn (F.inRound l') n P l f tmps assign body w R := h
theorem row_qt {B' : Nat} {w w' : World} {B e size n : Nat} {v : Value} {xs : List Value} (h : w.ownsRow B e size v n xs) (t : QT B' w w') : w'.ownsRow B e size v n xs := by
  obtain ⟨h1, h2⟩ := h
  refine ⟨h1, ?_⟩
  rcases h2 with h2 | ⟨g, cap, cur, hv, hb, hg, rest⟩
  · exact .inl h2
  · exact .inr ⟨g, cap, cur, hv, hb, t.block hg, rest⟩
theorem yl {e : Ending} {A B : Prop} (h : (e = .returned (.bool true) ∧ A) ∨ (e = .returned (.bool false) ∧ B)) : ∃ r : Bool, e = .returned (.bool r) ∧ ((r = true ∧ A) ∨ (r = false ∧ B)) := by
  rcases h with ⟨h, a⟩ | ⟨h, b⟩
  · exact ⟨true, h, .inl ⟨rfl, a⟩⟩
  · exact ⟨false, h, .inr ⟨rfl, b⟩⟩
/-- what stands in a round of the iterator -/
structure Bi (J : (Nat → Prop) → Nat → World → Prop) (O : Nat → Prop) (V : World) (M : Nat → Prop) (k : Nat) (X : World) : Prop where
  j : J (fun i => M i ∨ O i) k X
  s : ∀ i, O i → X.heap[i]? = V.heap[i]?
  z : V.heap.size ≤ X.heap.size
set_option maxRecDepth 100000 in
set_option maxHeartbeats 8000000 in
theorem mixes_seq {cb : Nat} {ca : Option Addr} {cc : Nat} {zs : List Int} {w : World} (h : Bx cb ca cc zs w) (h64 : zs.length ≤ 64) (hsm : sm zs ≤ 1048576) :
    SeqG Fence.wide Try.prog 53 #[.pointer (some ⟨cb, 0, none⟩)] (encL (sm zs)) (IsO zs) (fun x j => At x.1 j) (Fin zs) (BM cb ca zs) w := by
  intro n l J Jx W hsz hsame hJt hXt hY h0
  obtain ⟨M0, hM0⟩ : ∃ M0, M0 = BM cb ca zs := ⟨_, rfl⟩
  rw [← hM0] at hsame hY h0
  have HM : Hid (∀ j, M0 j → j < w.heap.size) := fun j q => by rw [hM0] at q; exact h.lt q
  have hbW : Bx cb ca cc zs W := h.same hsz (fun j q => hsame j (by rw [hM0]; exact q))
  have HJ := hide' (And.intro hJt (And.intro hXt hY))
  have HSM := hide' (And.intro h64 hsm)
  obtain ⟨q3, hq3⟩ : ∃ q3, q3 = W.heap.size := ⟨_, rfl⟩
  obtain ⟨V0, hV0⟩ : ∃ V0, W.alloc (.cells #[.func (.yield l) #[] #[]] 86) = V0 := ⟨_, rfl⟩
  have b0 : Below W.heap.size W V0 := by rw [← hV0]; exact (Below.refl _ _).alloc (Nat.le_refl _) _
  have hs0 : V0.heap.size = W.heap.size + 1 := by rw [← hV0]; simp
  obtain ⟨V, hV⟩ : ∃ V, V0.alloc (.cells #[.slice ca zs.length cc] 23) = V := ⟨_, rfl⟩
  have b1 : Below W.heap.size W V := b0.trans (by rw [← hV]; exact (Below.refl _ _).alloc b0.size _)
  have hsV : V.heap.size = W.heap.size + 2 := by rw [← hV]; simp [hs0]
  have hY3 : V.heap[q3]? = some (.cells #[.func (.yield l) #[] #[]] 86 (0, 0)) := by
    rw [← hV, hq3]
    refine (Below.heap_alloc _ _ _ (by omega)).trans ?_
    rw [← hV0]; exact heap_alloc_new _ _
  have hO3 : V.heap[W.heap.size + 1]? = some (.cells #[.slice ca zs.length cc] 23 (0, 0)) := by
    rw [← hV, ← hs0]; exact heap_alloc_new _ _
  have hBV : Bx (W.heap.size + 1) ca cc zs V := ⟨hO3, hbW.I.below b1⟩
  have c1 : V0.cell? ⟨cb, 0, none⟩ = some (.slice ca zs.length cc) := by
    have e : V0.heap[cb]? = W.heap[cb]? := b0.block cb (lt_of_heap hbW.hb)
    rw [Lib.cell_of_heap (e.trans hbW.hb)]; rfl
  obtain ⟨O, hO⟩ : ∃ O : Nat → Prop, O = fun j => M0 j ∨ j = q3 ∨ j = W.heap.size + 1 := ⟨_, rfl⟩
  have hlow : ∀ j, M0 j → j < W.heap.size := fun j q => Nat.lt_of_lt_of_le (HM.out j q) hsz
  have OO : Hid (∀ j, O j → j < V.heap.size ∧ (M0 j ∨ W.heap.size ≤ j)) := fun j q => by
    rw [hO] at q
    rcases q with q | q | q
    · exact ⟨by have := hlow j q; omega, .inl q⟩
    · exact ⟨by omega, .inr (by omega)⟩
    · exact ⟨by omega, .inr (by omega)⟩
  have MO : Hid (∀ j, BM (W.heap.size + 1) ca zs j → O j) := fun j q => by
    rw [hO]
    rcases q with q | q
    · exact .inr (.inr q)
    · exact .inl (by rw [hM0]; exact .inr q)
  have OQ : Hid (O q3) := by rw [hO]; exact .inr (.inl rfl)
  have JV : Hid (Bi J O V (BM (W.heap.size + 1) ca zs) 0 V) := ⟨hJt M0 _ 0 W V h0 (QM.of (QT.none (turn_below (S := fun _ => False) b1))) (fun j q => by
    have q' : O j := q.elim (MO.out j) id
    rw [hO] at q'
    rcases q' with q' | q' | q'
    · exact .inl q'
    · exact .inr (by omega)
    · exact .inr (by omega)), fun _ _ => rfl, Nat.le_refl _⟩
  have ZV : Hid (W.heap.size + 2 = V.heap.size ∧ q3 = W.heap.size) := ⟨hsV.symm, hq3⟩
  have HBV := hide' (orders_seq hBV h64 hsm)
  have YV := hide' hY3
  clear hJt hXt hY h0 hsame hsz h h64 hsm hbW hM0 hO hlow b0 b1 hY3 hO3 hBV
  refine callsIn_of_wp_marks Try.func53 rfl trivial ?_ rfl
  refine wpIn_wide.2 ?_
  simp only [Try.ntmps53, List.size_toArray, List.length_cons, List.length_nil, Nat.reduceAdd, Nat.reduceSub, Array.replicate_succ, Array.replicate_zero, List.push_toArray, List.append_toArray, List.nil_append, List.cons_append]
  go_wp2_with (go_at_call 54; refine (orders_any _ _ _ _).mono ?_; rintro e V' ⟨rfl, rfl⟩)
  refine (wpIn_wide (n := 1)).1 ?_
  refine range_g rfl (Nat.le_refl _) (gf := 61) (lb := #[.pointer (some ⟨W.heap.size + 1, 0, none⟩)]) rfl trivial Try.call61 HBV.out (Nat.le_refl _) (fun j q => ⟨(OO.out j (MO.out j q)).1, rfl⟩) (fun x => rfl)
    (fun M k X => Bi J O V M k X) (fun c k X => c = .ret ∧ Jx k X)
    (fun M k x a' X => Bi J O V M k X ∧ (∀ j, M j → j < X.heap.size ∧ (M0 j ∨ W.heap.size ≤ j)) ∧ IsO zs (V.heap.size + 2) M k x X ∧ a' = { tmps := #[.func (.yield l) #[] #[], .pointer (some ⟨cb, 0, none⟩), .pointer (some ⟨W.heap.size, 0, none⟩), .slice x.1 (sm zs) x.2, .slice ca zs.length cc, .func (.func 61) #[] #[.pointer (some ⟨W.heap.size + 1, 0, none⟩)], .slice x.1 (sm zs) x.2, undef, undef, undef, undef, undef], defers := [] })
    ?start ?stab ?stabx ?staba ?assign ?body ?done ?stop
  case start => exact JV.out
  case stab =>
    intro M M' k X1 X2 h t hm
    have hz := ZV.out.1
    refine ⟨HJ.out.1 _ _ _ X1 X2 h.j (Turn.mono t (fun j _ q => q.elim (fun q => .inl ⟨by have := q.1; omega, q.2⟩) (fun q => .inr ⟨.inl q.1, by have := q.2; omega⟩))) (fun j q => by rcases q with q | q; exact (hm j q).elim (fun q => .inl (.inl q)) .inr; exact .inl (.inr q)), fun j q => (t.low (OO.out j q).1 (Nat.lt_of_lt_of_le (OO.out j q).1 h.z)).trans (h.s j q), Nat.le_trans h.z (Turn.size t)⟩
  case stabx =>
    rintro c k X1 X2 ⟨hc, h⟩ t
    exact ⟨hc, HJ.out.2.1 _ X1 X2 h (t.mono (by have := ZV.out.1; omega))⟩
  case staba =>
    rintro M k x a' X1 X2 ⟨h, hm, ⟨L, hL, hrow, hat⟩, ha⟩ t
    have hz := ZV.out.1
    exact ⟨⟨HJ.out.1 _ _ _ X1 X2 h.j (QM.of (t.mono (by omega))) (fun j q => .inl q), fun j q => (t.low (OO.out j q).1 (Nat.lt_of_lt_of_le (OO.out j q).1 h.z)).trans (h.s j q), Nat.le_trans h.z (Turn.size t)⟩, fun j q => ⟨Nat.lt_of_lt_of_le (hm j q).1 (Turn.size t), (hm j q).2⟩, ⟨L, hL, row_qt hrow t, hat⟩, ha⟩
  case assign =>
    intro m l' M k x X1 K hx h hm hK
    have HKK := hide' hK
    have Hh := hide' (And.intro h (And.intro hm hx))
    clear hK h hm hx
    unfold encL
    gi_wp2
    refine HKK.out _ _ (Turn.refl _ X1) ⟨Hh.out.1, fun j q => ⟨(Hh.out.2.1 j q).1, ?_⟩, Hh.out.2.2, rfl⟩
    rcases (Hh.out.2.1 j q).2 with q' | q'
    · exact (OO.out j (MO.out j q')).2
    · exact .inr (by have := ZV.out.1; omega)
  case body =>
    rintro m l' M k ⟨ro, rc⟩ a' X1 ⟨h, hm, ⟨L, hL, hrow, hat⟩, rfl⟩
    simp only at hrow hat
    have hLl : L.length = sm zs := by rw [hL.len, fz_len zs zs.length (Nat.le_refl _), List.take_length]
    have e3 : X1.cell? ⟨W.heap.size, 0, none⟩ = some (.func (.yield l) #[] #[]) := by
      have := (h.s q3 OQ.out).trans YV.out
      rw [ZV.out.2] at this
      rw [Lib.cell_of_heap this]; rfl
    have hlt3 : W.heap.size < X1.heap.size := by have := h.z; have := ZV.out.1; omega
    have HC : Hid (Calls Try.prog 41 #[.slice ro (sm zs) rc] X1.drew fun e w' => ∃ ro' rc', e = .returned (.slice ro' (sm zs) rc') ∧ w'.ownsRow X1.heap.size 3 1 (.slice ro' (sm zs) rc') (sm zs) (ivs L) ∧ Below X1.heap.size X1 w') := hide' (by
      have hr : X1.ownsRow (V.heap.size + 2) 3 1 (.slice ro L.length rc) L.length (ivs L) := by rw [hLl]; exact hrow
      have c := clone_any ro rc L X1.drew (Ints.of_row (World.ownsRow.drew hr)) (by rw [hLl]; have := HSM.out.2; omega)
      rw [hLl] at c
      exact c.mono fun e w' ⟨a, b, h1, h2, h3⟩ => ⟨a, b, h1, h2, ((Below.refl X1.heap.size X1).drew).trans h3⟩)
    have HY : Hid (∀ ro2 rc2 X2, X2.ownsRow X1.heap.size 3 1 (.slice ro2 (sm zs) rc2) (sm zs) (ivs L) → Below X1.heap.size X1 X2 → YieldAt Fence.wide (m - 1) Try.prog l #[.slice ro2 (sm zs) rc2] X2 fun e X3 => KeepsFrom V.heap.size X1 X3 ∧ ((e = .returned (.bool true) ∧ Bi J O V (fun j => M j ∧ ¬ False) (k + 1) X3 ∧ ∀ j, M j → ¬ False → X3.heap[j]? = X1.heap[j]?) ∨ (e = .returned (.bool false) ∧ Jx (k + 1) X3))) := hide' (fun ro2 rc2 X2 r2 b2 => by
      have hz := ZV.out.1
      have hzX := h.z
      have hOlt : ∀ j, O j → j < X1.heap.size := fun j q => Nat.lt_of_lt_of_le (OO.out j q).1 hzX
      have hAn : ∀ j, At ro2 j → X1.heap.size ≤ j := fun j q => (r2.lt j (at_own q)).1
      obtain ⟨fn, tmps, assign, body, hy, hR⟩ := HJ.out.2.2 (m - 1) (fun j => (M j ∨ O j) ∨ At ro2 j) k (ro2, rc2) X2 ⟨L, hL, row_lower r2 (by omega), fun j q => .inr q⟩
        (HJ.out.1 _ _ k X1 X2 h.j (QM.of (QT.none (turn_below (S := fun _ => False) b2))) (fun j q => by
          rcases q with q | q
          · exact .inl q
          · exact .inr (hAn j q)))
        (fun j q => by
          have hs := b2.size
          rcases q with (q | q) | q
          · exact ⟨by have := (hm j q).1; omega, (hm j q).2⟩
          · exact ⟨by have := hOlt j q; omega, (OO.out j q).2⟩
          · exact ⟨(r2.lt j (at_own q)).2, .inr (by have := hAn j q; omega)⟩)
      refine ⟨fn, tmps, assign, body, hy, hR.mono ?_⟩
      rintro e X3 ⟨hk3, hp⟩
      refine ⟨(keeps_of_turn (turn_below (S := fun _ => False) b2)).trans (keeps_up hk3 (by omega)), ?_⟩
      rcases hp with ⟨he, hJ3, hs3⟩ | ⟨he, hX3⟩
      · have hnA : ∀ j, j < X1.heap.size → ¬ At ro2 j := fun j hj q => by have := hAn j q; omega
        refine .inl ⟨he, ⟨HJ.out.1 _ _ (k + 1) X3 X3 hJ3 (QM.of (QT.refl _ _)) (fun j q => ?_), fun j q => ?_, Nat.le_trans (Nat.le_trans hzX b2.size) hk3.size⟩, fun j q _ => ?_⟩
        · rcases q with q | q
          · exact .inl ⟨.inl (.inl q.1), hnA j (hm j q.1).1⟩
          · exact .inl ⟨.inl (.inr q), hnA j (hOlt j q)⟩
        · exact (hs3 j (.inl (.inr q)) (hnA j (hOlt j q))).trans ((b2.block j (hOlt j q)).trans (h.s j q))
        · exact (hs3 j (.inl (.inl q)) (hnA j (hm j q).1)).trans (b2.block j (hm j q).1)
      · exact .inr ⟨he, hX3⟩)
    have HA := hide' hat
    clear h hm hL hrow hLl hat
    gi_wp2
    gi_region_with ((first | (have G := hR; refine ⟨(fun q => by simp [Fence.wide] at q), (round_in hR).mono ?_⟩; rintro e X3 ⟨hk3, hp⟩; obtain ⟨r, rfl, hp2⟩ := yl hp; clear hp) | (refine ⟨trivial, (fun q => by simp [Fence.wide] at q), (CallsIn.inRound l' (callsIn_wide.2 HC.out)).mono ?_⟩; rintro e X2 ⟨ro2, rc2, rfl, r2, b2⟩; obtain ⟨fn, tmps, assign, body, hy, hR⟩ := HY.out ro2 rc2 X2 r2 b2; have e3 := (b2.cell (p := ⟨W.heap.size, 0, none⟩) hlt3).trans e3; clear r2 b2)))
    all_goals
      rcases hp2 with ⟨rfl, hB3, hs3⟩ | ⟨rfl, hX3⟩
      · have G3 := hide' (And.intro hk3 (And.intro hB3 hs3))
        clear hk3 hB3 hs3 hR hy G HY HC
        gi_wp2
        exact G3.out
      · have G3 := hide' (And.intro hk3 hX3)
        clear hk3 hX3 hR hy G HY HC
        gi_wp2
        exact ⟨G3.out.1, rfl, G3.out.2⟩
  case stop =>
    rintro c k Xs ⟨rfl, hX⟩ hD
    have HX := hide' (And.intro hX hD)
    clear hX hD
    refine wpIn_wide.2 ?_
    go_wp2
    refine ⟨by simp, .inl ⟨_, _, rfl, run_takeDeferred HX.out.2, ?_⟩⟩
    exact ⟨_, results_none rfl _ _ _, ⟨_, rfl⟩, .inr ⟨_, HJ.out.2.1 _ _ _ HX.out.1 (QT.putObj _ HX.out.2 rfl (by have := ZV.out.1; omega))⟩⟩
  intro M k Vd hfin hI hD
  have HX := hide' (And.intro hI (And.intro hD hfin))
  clear hI hD hfin
  go_wp2
  refine ⟨by simp, .inl ⟨_, _, rfl, run_takeDeferred HX.out.2.1, ?_⟩⟩
  exact ⟨_, results_none rfl _ _ _, ⟨_, rfl⟩, .inl ⟨_, k, HX.out.2.2, HJ.out.1 _ _ _ _ _ HX.out.1.j (QM.of (QT.putObj _ HX.out.2.1 rfl (by have := ZV.out.1; omega))) (fun j q => .inl q)⟩⟩
set_option maxRecDepth 100000 in
set_option maxHeartbeats 1000000 in
/-- 16.7: an iterator -/
theorem mixes_any (a : Option Addr) (c : Nat) (zs : List Int) (w : World) (hI : Ints w a zs) (hm : mxb zs = true) : Calls Try.prog 31 #[.slice a zs.length c] w fun e w' => ∃ cb ca cc, e = .returned (.func (.func 53) #[] #[.pointer (some ⟨cb, 0, none⟩)]) ∧ Bx cb ca cc zs w' ∧ Below w.heap.size w w' ∧ (∀ j, BM cb ca zs j → w.heap.size ≤ j) := by
  have H1 := hide' (mixable_any a c zs w hI)
  rw [hm] at H1
  have h64 := (of_decide_eq_true hm).1
  have H2 := hide' (clone_any a c zs w hI (by omega))
  clear hI hm h64
  go_enter Try.func31, Try.ntmps31
  go_wp2_with fail
  refine H1.out.mono ?_
  rintro e w1 ⟨rfl, rfl⟩
  go_wp2_with fail
  refine H2.out.mono ?_
  rintro e w2 ⟨ro, rc, rfl, r2, b2⟩
  have K : Hid (Bx w2.heap.size ro rc zs (w2.alloc (.cells #[.slice ro zs.length rc] 23)) ∧ Below w1.heap.size w1 (w2.alloc (.cells #[.slice ro zs.length rc] 23)) ∧ ∀ j, BM w2.heap.size ro zs j → w1.heap.size ≤ j) := hide' (by
    refine ⟨⟨heap_alloc_new _ _, (Ints.of_row r2).below ((Below.refl _ _).alloc (Nat.le_refl _) _)⟩, b2.trans ((Below.refl _ _).alloc b2.size _), fun j q => ?_⟩
    rcases q with q | ⟨_, q⟩
    · rw [q]; exact b2.size
    · exact (r2.lt j (at_own q)).1)
  clear r2 b2 H1 H2
  go_wp2_with fail
  go_ret
  exact ⟨_, _, _, rfl, K.out.1, K.out.2.1, K.out.2.2⟩
end X
end Go.Proofs.Ytbgjggblaeadlaa
