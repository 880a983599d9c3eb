import Derived.Test.YtihdagehenmolaaJrP
set_option linter.unusedVariables false
set_option linter.unusedSimpArgs false
namespace Go.Proofs.Ytihdagehenmolaa
open Go.RowKit
namespace A
open M K J
theorem few {l : List UInt8} (hl : l.length ≤ 1048576) : ∀ es r, (∀ e ∈ es, En.ok e) → l = recs es ++ r → es.length * 24 ≤ 140737488355328 := fun es r ho e => by
  have h1 := recs_len_le es
  have h2 := congrArg List.length e
  rw [List.length_append] at h2
  omega
theorem rds_len {l : List UInt8} {es : List En} (h : Rds l es) (hl : l.length ≤ 1048576) : es.length ≤ 1048576 := by
  obtain ⟨_, r, e, _⟩ := h
  have h1 := recs_len_le es
  have h2 := congrArg List.length e
  rw [List.length_append] at h2
  omega
theorem read_is {l : List UInt8} {es : List En} (h : Rds l es) (hl : l.length ≤ 1048576) {N : Nat} (hN : N = (recs es).length) {T : ByteArray} (hT : T = sb l) (W : World) : Calls Try.prog 15 #[.string T] W fun e w' => ∃ ao cap, e = .returned (.tuple #[.slice ao es.length cap, .int .i64 (N : Int)]) ∧ Es W.heap.size ao cap es w' ∧ Below W.heap.size W w' := by
  rw [hT, hN]
  refine (read_any l (by omega) W).mono ?_
  rintro e w' ⟨es', ao, cap, rfl, h', o, b⟩
  have := h.uniq h'
  subst this
  exact ⟨ao, cap, rfl, o, b⟩
theorem ab_a {α : Type} (x y : α) {k : Nat} (h2 : k ≠ 2) (h3 : k ≠ 3) : x = ab x y k := by simp [ab, h2, h3]
theorem ab_b2 {α : Type} (x y : α) : y = ab x y 2 := by simp [ab]
theorem ab_b3 {α : Type} (x y : α) : y = ab x y 3 := by simp [ab]
set_option maxRecDepth 100000 in
set_option maxHeartbeats 4000000 in
theorem read_law (x y : List UInt8) (hx : x.length ≤ 1048576) (hy : y.length ≤ 1048576) (w : World) : Calls Try.prog 5 #[.string (sb x), .string (sb y)] w fun r w' => r = .returned (.bool true) ∧ Below w.heap.size w w' := by
  have C1 := hide' (rread_few x (by omega) (few hx) w)
  have C2 : Hid (∀ W, _) := hide' (fun W => rread_few y (by omega) (few hy) W)
  obtain ⟨Tx, hTx⟩ : ∃ T, T = sb x := ⟨_, rfl⟩
  obtain ⟨Ty, hTy⟩ : ∃ T, T = sb y := ⟨_, rfl⟩
  rw [← hTx] at C1 ⊢
  rw [← hTy] at C2 ⊢
  have HX := hide' (And.intro hx (And.intro hy (And.intro hTx hTy)))
  have W1 : Hid (∀ k : Nat, k < 6 → wrap64 ((k : Int) + 1) = ((k + 1 : Nat) : Int)) := hide' (fun k hk => wsucN k (by omega))
  clear hx hy hTx hTy
  go_enter Try.func5, Try.ntmps5
  go_wp2_with fail
  refine C1.out.mono ?_
  rintro e w1 ⟨A1, ao, ca, rfl, hA, eA, bA⟩
  obtain ⟨NA, hNA⟩ : ∃ n, n = (recs A1).length := ⟨_, rfl⟩
  rw [← hNA]
  have KA := hide' (And.intro hA (And.intro eA (And.intro bA hNA)))
  have C3 := hide' (C2.out w1)
  clear hA eA bA hNA C1 C2
  go_wp2_with fail
  refine C3.out.mono ?_
  rintro e w2 ⟨B1, bo, cb, rfl, hB, eB, bB⟩
  obtain ⟨NB, hNB⟩ : ∃ n, n = (recs B1).length := ⟨_, rfl⟩
  rw [← hNB]
  have KB := hide' (And.intro hB (And.intro eB (And.intro bB hNB)))
  clear hB eB bB hNB C3
  have RD : Hid ((∀ W, _) ∧ (∀ W, _)) := hide' (And.intro (fun W => read_is KA.out.1 HX.out.1 KA.out.2.2.2 HX.out.2.2.1 W) (fun W => read_is KB.out.1 HX.out.2.1 KB.out.2.2.2 HX.out.2.2.2 W))
  go_wp2_with fail
  go_loopw [9, 10, 11] (fun g v i wx => ∃ (k : Nat) (G : Nat → Sg) (ga : Option Addr) (gc : Nat) (va : Option Addr) (vc : Nat), g = .slice ga k gc ∧ v = .slice va k vc ∧ i = .int .i64 (k : Int) ∧ k ≤ 6 ∧ Jr w2 A1 B1 ⟨ao, A1.length, ca⟩ ⟨bo, B1.length, cb⟩ k k G ga gc va vc wx) (fun _ _ i _ => 6 - (intOf i).toNat)
  case atStart => exact ⟨0, _, none, 0, none, 0, rfl, rfl, rfl, by omega, Jr.zero _ _ _ _ _⟩
  case round =>
    obtain ⟨k, G, ga, gc, va, vc, rfl, rfl, rfl, hk, hJ⟩ := hrel
    have HJ := hide' hJ
    clear hJ
    by_cases hlt : k < 6
    · have hlt' : (k : Int) < 6 := by omega
      have Hlt := hide' hlt
      have Hms := hide' (msr' (n := 6) hlt _ rfl)
      have ek := hide' (W1.out k hlt)
      by_cases h2 : k = 2
      · subst h2
        have hk2 : ((2 : Nat) : Int) = 2 := rfl
        have D1 := hide' (RD.out.2 wr)
        clear RD
        go_wp2_with fail
        refine D1.out.mono ?_
        rintro e w3 ⟨o3, c3, rfl, e3, b3⟩
        have K3 := hide' (And.intro e3 b3)
        clear e3 b3 D1
        go_wp2_with (at_builtin; refine stay_app _ _ rfl ?_)
        unfold Stay
        refine wpList_mor (e := 29) (m := 1) Try.underlying32 info29 rfl (by omega) w3 rfl _ _ rfl (row_below HJ.out.got K3.out.2) (hide' (by have := Hlt.out; omega)) (.inr ⟨by omega, by have := Hlt.out; omega⟩) (Nat.le_trans HJ.out.bel.size K3.out.2.size) [.slice o3 B1.length c3] rfl (by simp [Value.oneCell']) 1 (by rfl) (by rfl) ?_
        intro g4 c4 w4 r4 t4 p4
        have K4 := hide' (HJ.out.tell K3.out.2 K3.out.1 (ab_b2 _ _) r4 t4 p4)
        clear r4 t4 p4 HJ K3
        go_wp2_with (at_builtin; refine stay_app _ _ rfl ?_)
        unfold Stay
        refine wpList_mor (e := 29) (m := 1) Try.underlying32 info29 rfl (by omega) w4 rfl _ _ rfl K4.out.want (hide' (by have := Hlt.out; omega)) (.inr ⟨by omega, by have := Hlt.out; omega⟩) K4.out.bel.size [.slice bo B1.length cb] rfl (by simp [Value.oneCell']) 1 (by rfl) (by rfl) ?_
        intro g5 c5 w5 r5 t5 p5
        have K5 := hide' (K4.out.must (l := ⟨bo, B1.length, cb⟩) (ab_b2 _ _) r5 t5 p5)
        clear r5 t5 p5 K4
        go_wp2
        exact ⟨⟨_, _, _, _, _, _, rfl, rfl, by first | rfl | rw [ek.out], Hlt.out, K5.out⟩, by first | exact Hms.out | (rw [ek.out]; exact Hms.out) | (rw [← ek.out]; exact Hms.out)⟩
      by_cases h3 : k = 3
      · subst h3
        have D1 := hide' (RD.out.2 wr)
        clear RD
        go_wp2_with fail
        refine D1.out.mono ?_
        rintro e w3 ⟨o3, c3, rfl, e3, b3⟩
        have K3 := hide' (And.intro e3 b3)
        clear e3 b3 D1
        go_wp2_with (at_builtin; refine stay_app _ _ rfl ?_)
        unfold Stay
        refine wpList_mor (e := 29) (m := 1) Try.underlying32 info29 rfl (by omega) w3 rfl _ _ rfl (row_below HJ.out.got K3.out.2) (hide' (by have := Hlt.out; omega)) (.inr ⟨by omega, by have := Hlt.out; omega⟩) (Nat.le_trans HJ.out.bel.size K3.out.2.size) [.slice o3 B1.length c3] rfl (by simp [Value.oneCell']) 1 (by rfl) (by rfl) ?_
        intro g4 c4 w4 r4 t4 p4
        have K4 := hide' (HJ.out.tell K3.out.2 K3.out.1 (ab_b3 _ _) r4 t4 p4)
        clear r4 t4 p4 HJ K3
        go_wp2_with (at_builtin; refine stay_app _ _ rfl ?_)
        unfold Stay
        refine wpList_mor (e := 29) (m := 1) Try.underlying32 info29 rfl (by omega) w4 rfl _ _ rfl K4.out.want (hide' (by have := Hlt.out; omega)) (.inr ⟨by omega, by have := Hlt.out; omega⟩) K4.out.bel.size [.slice bo B1.length cb] rfl (by simp [Value.oneCell']) 1 (by rfl) (by rfl) ?_
        intro g5 c5 w5 r5 t5 p5
        have K5 := hide' (K4.out.must (l := ⟨bo, B1.length, cb⟩) (ab_b3 _ _) r5 t5 p5)
        clear r5 t5 p5 K4
        go_wp2
        exact ⟨⟨_, _, _, _, _, _, rfl, rfl, by first | rfl | rw [ek.out], Hlt.out, K5.out⟩, by first | exact Hms.out | (rw [ek.out]; exact Hms.out) | (rw [← ek.out]; exact Hms.out)⟩
      · have h2' : ((k : Int) == 2) = false := by simp; omega
        have h3' : ((k : Int) == 3) = false := by simp; omega
        have H23 := hide' (And.intro h2 h3)
        clear hk hlt h2 h3
        have D1 := hide' (RD.out.1 wr)
        clear RD
        go_wp2_with fail
        refine D1.out.mono ?_
        rintro e w3 ⟨o3, c3, rfl, e3, b3⟩
        have K3 := hide' (And.intro e3 b3)
        clear e3 b3 D1
        go_wp2_with (at_builtin; refine stay_app _ _ rfl ?_)
        unfold Stay
        refine wpList_mor (e := 29) (m := 1) Try.underlying32 info29 rfl (by omega) w3 rfl _ _ rfl (row_below HJ.out.got K3.out.2) (hide' (by have := Hlt.out; omega)) (.inr ⟨by omega, by have := Hlt.out; omega⟩) (Nat.le_trans HJ.out.bel.size K3.out.2.size) [.slice o3 A1.length c3] rfl (by simp [Value.oneCell']) 1 (by rfl) (by rfl) ?_
        intro g4 c4 w4 r4 t4 p4
        have K4 := hide' (HJ.out.tell K3.out.2 K3.out.1 (ab_a _ _ H23.out.1 H23.out.2) r4 t4 p4)
        clear r4 t4 p4 HJ K3
        go_wp2_with (at_builtin; refine stay_app _ _ rfl ?_)
        unfold Stay
        refine wpList_mor (e := 29) (m := 1) Try.underlying32 info29 rfl (by omega) w4 rfl _ _ rfl K4.out.want (hide' (by have := Hlt.out; omega)) (.inr ⟨by omega, by have := Hlt.out; omega⟩) K4.out.bel.size [.slice ao A1.length ca] rfl (by simp [Value.oneCell']) 1 (by rfl) (by rfl) ?_
        intro g5 c5 w5 r5 t5 p5
        have K5 := hide' (K4.out.must (l := ⟨ao, A1.length, ca⟩) (ab_a _ _ H23.out.1 H23.out.2) r5 t5 p5)
        clear r5 t5 p5 K4
        go_wp2
        exact ⟨⟨_, _, _, _, _, _, rfl, rfl, by first | rfl | rw [ek.out], Hlt.out, K5.out⟩, by first | exact Hms.out | (rw [ek.out]; exact Hms.out) | (rw [← ek.out]; exact Hms.out)⟩
    · have hlt' : ¬ (k : Int) < 6 := by omega
      obtain rfl : k = 6 := by omega
      have lt_a : ∀ j, At ao j → j < w2.heap.size := fun j hj => by
        obtain ⟨_, _, cs, r, h⟩ := row_kind KA.out.2.1.row hj
        exact Nat.lt_of_lt_of_le (lt_of_heap h) KB.out.2.2.1.size
      have lt_b : ∀ j, At bo j → j < w2.heap.size := fun j hj => by
        obtain ⟨_, _, cs, r, h⟩ := row_kind KB.out.2.1.row hj
        exact lt_of_heap h
      have ra : Rw 2 En.arr w2 ao A1 := (KA.out.2.1.rw' ha_e).below KB.out.2.2.1
      have rb : Rw 2 En.arr w2 bo B1 := KB.out.2.1.rw' ha_e
      have HP := hide' (HJ.out.apart ra rfl rb rfl (rds_len KA.out.1 HX.out.1) (rds_len KB.out.1 HX.out.2.1) lt_a lt_b)
      have Hra := hide' ra
      clear lt_a lt_b ra rb hk hlt
      go_wp2_with fail
      refine HP.out.mono ?_
      rintro e w6 ⟨rfl, b6⟩
      have K6 := hide' b6
      have D1 := hide' (RD.out.1 w6)
      clear b6 HP RD HJ
      go_wp2_with fail
      refine D1.out.mono ?_
      rintro e w7 ⟨o7, c7, rfl, e7, b7⟩
      have K7 : Hid (Below w.heap.size w w7) := hide' ((KA.out.2.2.1.trans (KB.out.2.2.1.mono KA.out.2.2.1.size)).trans ((K6.out.mono (Nat.le_trans KA.out.2.2.1.size KB.out.2.2.1.size)).trans (b7.mono (Nat.le_trans (Nat.le_trans KA.out.2.2.1.size KB.out.2.2.1.size) K6.out.size))))
      have D2 := hide' (rsame_any c7 ca (e7.rw' ha_e) ((Hra.out.below K6.out).below b7) (by have := rds_len KA.out.1 HX.out.1; omega))
      clear e7 b7 D1
      go_wp2_with fail
      refine D2.out.mono ?_
      rintro e w8 ⟨rfl, b8⟩
      have K8 := hide' (K7.out.trans (b8.mono K7.out.size))
      clear b8 D2
      go_wp2
      go_ret
      exact ⟨rfl, K8.out⟩
end A
end Go.Proofs.Ytihdagehenmolaa
