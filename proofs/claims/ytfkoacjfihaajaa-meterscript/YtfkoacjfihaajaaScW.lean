import Derived.Test.YtfkoacjfihaajaaScS
set_option linter.unusedVariables false
set_option linter.unusedSimpArgs false
namespace Go.Proofs.Ytfkoacjfihaajaa
open Go.RowKit
namespace M
open Fl
/-- two pairs that lie apart -/
def Tx (w0 : World) (m1 r1 m2 r2 h K1 K2 : Nat) (w : World) : Prop := ∃ l1 ao1 cap1 ns1 l2 ao2 cap2 ns2, Pr w0.heap.size m1 r1 h l1 ao1 cap1 ns1 w ∧ Pr w0.heap.size m2 r2 h l2 ao2 cap2 ns2 w ∧ (∀ j, PB m1 r1 ao1 j → ¬ PB m2 r2 ao2 j) ∧ Below w0.heap.size w0 w ∧ ns1.length ≤ K1 ∧ ns2.length ≤ K2
variable {w0 w w' : World} {m1 r1 m2 r2 h K1 K2 : Nat}
theorem Tx.bel (t : Tx w0 m1 r1 m2 r2 h K1 K2 w) : Below w0.heap.size w0 w := by
  obtain ⟨_, _, _, _, _, _, _, _, _, _, _, b, _⟩ := t; exact b
theorem Tx.mono {A B : Nat} (t : Tx w0 m1 r1 m2 r2 h K1 K2 w) (hA : K1 ≤ A) (hB : K2 ≤ B) : Tx w0 m1 r1 m2 r2 h A B w := by
  obtain ⟨l1, ao1, cap1, ns1, l2, ao2, cap2, ns2, p1, p2, ap, b, n1, n2⟩ := t
  exact ⟨l1, ao1, cap1, ns1, l2, ao2, cap2, ns2, p1, p2, ap, b, by omega, by omega⟩
theorem Tx.swap (t : Tx w0 m1 r1 m2 r2 h K1 K2 w) : Tx w0 m2 r2 m1 r1 h K2 K1 w := by
  obtain ⟨l1, ao1, cap1, ns1, l2, ao2, cap2, ns2, p1, p2, ap, b, n1, n2⟩ := t
  exact ⟨l2, ao2, cap2, ns2, l1, ao1, cap1, ns1, p2, p1, fun j h1 h2 => ap j h2 h1, b, n2, n1⟩
theorem Tx.one (t : Tx w0 m1 r1 m2 r2 h K1 K2 w) (x : S3) (ht : -9223372036854775808 ≤ x.t ∧ x.t ≤ 9223372036854775807) (hn : -9223372036854775808 ≤ x.n ∧ x.n ≤ 9223372036854775807) (hl : K1 ≤ 6000000000000) :
    Calls Try.prog 20 #[.pointer (some ⟨m1, 0, none⟩), .pointer (some ⟨r1, 0, none⟩), .agg #[.int .i64 x.d, .int .i64 x.t, .int .i64 x.n]] w fun e w' => e = .returned (.bool true) ∧ Tx w0 m1 r1 m2 r2 h (K1 + 1) K2 w' := by
  obtain ⟨l1, ao1, cap1, ns1, l2, ao2, cap2, ns2, p1, p2, ap, b, n1, n2⟩ := t
  refine (step_any p1 x ht hn (by omega)).mono (fun e w' ⟨a, l', ao', cap', ns', q1, q2, q3, q4⟩ => ⟨a, ?_⟩)
  refine ⟨l', ao', cap', ns', l2, ao2, cap2, ns2, q1, p2.kept q2 (fun j hj q => ap j q hj), fun j hj q => ?_, b.trans (q2.below (fun j hj => (p1.lt hj).1) b.size), by omega, n2⟩
  rcases q3 j hj with z | z
  · exact ap j z q
  · have := (p2.lt q).2; omega
theorem Tx.two (t : Tx w0 m1 r1 m2 r2 h K1 K2 w) (x : S3) (ht : -9223372036854775808 ≤ x.t ∧ x.t ≤ 9223372036854775807) (hn : -9223372036854775808 ≤ x.n ∧ x.n ≤ 9223372036854775807) (hl : K2 ≤ 6000000000000) :
    Calls Try.prog 20 #[.pointer (some ⟨m2, 0, none⟩), .pointer (some ⟨r2, 0, none⟩), .agg #[.int .i64 x.d, .int .i64 x.t, .int .i64 x.n]] w fun e w' => e = .returned (.bool true) ∧ Tx w0 m1 r1 m2 r2 h K1 (K2 + 1) w' :=
  (t.swap.one x ht hn hl).mono (fun e w' ⟨a, b⟩ => ⟨a, b.swap⟩)
theorem pr_new {B cm cr h : Nat} (hm : Mt cm h 0 0 w) (hr : w.heap[cr]? = some (.cells #[.int .i64 (h : Nat), .slice none 0 0] 71 (0, 0))) (hb : B ≤ cm) (hb2 : B ≤ cr) (hh : 1 ≤ h) : Pr B cm cr h 0 none 0 [] w :=
  ⟨hm, ⟨hr, own_nil 2 76 narr B w⟩, Up.nil, hb, hb2, hh⟩
theorem pb_none {cm cr j : Nat} (h : PB cm cr none j) : j = cm ∨ j = cr := by
  rcases h with h | h | ⟨_, e, _⟩
  · exact .inl h
  · exact .inr h
  · cases e
set_option maxRecDepth 100000 in
set_option maxHeartbeats 1000000 in
theorem script_no {x0 : Int} (a1 : Option Addr) (n1 c1 : Nat) (a2 : Option Addr) (n2 c2 : Nat) (w : World) (hx : x0 < 1) :
    Calls Try.prog 4 #[.int .i64 x0, .slice a1 n1 c1, .slice a2 n2 c2] w fun e w' => e = .returned (.bool true) ∧ Below w.heap.size w w' := by
  have C1 := hide' (new_no w hx)
  have C2 := hide' (rnew_no w hx)
  clear hx
  go_enter Try.func4, Try.ntmps4
  go_wp2_with fail
  refine C1.out.mono ?_
  rintro e w1 ⟨rfl, hw⟩
  replace hw := hw.symm
  subst hw
  go_wp2_with fail
  refine C2.out.mono ?_
  rintro e w1 ⟨rfl, hw⟩
  replace hw := hw.symm
  subst hw
  go_wp2_with fail
  refine C1.out.mono ?_
  rintro e w1 ⟨rfl, hw⟩
  replace hw := hw.symm
  subst hw
  go_wp2_with fail
  refine C2.out.mono ?_
  rintro e w1 ⟨rfl, hw⟩
  replace hw := hw.symm
  subst hw
  go_wp2
  go_ret
  exact ⟨rfl, Below.refl _ _⟩
set_option maxRecDepth 100000 in
set_option maxHeartbeats 4000000 in
theorem script_walk (h : Nat) (a1 : Option Addr) (c1 : Nat) (l1 : List S3) (a2 : Option Addr) (c2 : Nat) (l2 : List S3) (w : World) (hh : 1 ≤ h) (hI1 : Rw 3 S3.arr w a1 l1) (hI2 : Rw 3 S3.arr w a2 l2) (hP1 : ∀ q ∈ l1, (-9223372036854775808 ≤ q.t ∧ q.t ≤ 9223372036854775807) ∧ (-9223372036854775808 ≤ q.n ∧ q.n ≤ 9223372036854775807)) (hP2 : ∀ q ∈ l2, (-9223372036854775808 ≤ q.t ∧ q.t ≤ 9223372036854775807) ∧ (-9223372036854775808 ≤ q.n ∧ q.n ≤ 9223372036854775807)) (hs1 : l1.length ≤ 5864062014634) (hs2 : l2.length ≤ 5864062014634) :
    Calls Try.prog 4 #[.int .i64 (h : Nat), .slice a1 l1.length c1, .slice a2 l2.length c2] w fun e w' => e = .returned (.bool true) ∧ Below w.heap.size w w' := by
  have HI1 := hide' (fun w' (b : Below w.heap.size w w') => hI1.below b)
  have HI2 := hide' (fun w' (b : Below w.heap.size w w') => hI2.below b)
  have HP := hide' (And.intro hP1 hP2)
  obtain ⟨N, hN⟩ : ∃ N, N = max l1.length l2.length := ⟨_, rfl⟩
  have HN := hide' (show N = max l1.length l2.length ∧ N ≤ 5864062014634 by omega)
  have C1 := hide' (fun w => new_any h w hh)
  have C2 := hide' (fun w => rnew_any h w hh)
  have HH := hide' hh
  clear hh hI1 hI2 hP1 hP2 hs1 hs2 hN
  go_enter Try.func4, Try.ntmps4
  go_wp2_with fail
  refine (C1.out _).mono ?_
  rintro e v1 ⟨rfl, e1⟩
  have A1 : Hid (Mt w.heap.size h 0 0 v1 ∧ Below w.heap.size w v1) := hide' ⟨by rw [e1]; exact heap_alloc_new _ _, by rw [e1]; exact (Below.refl _ _).alloc (Nat.le_refl _) _⟩
  clear e1
  obtain ⟨m1, hm1⟩ : ∃ c, c = w.heap.size := ⟨_, rfl⟩
  have Hm1 := hide' hm1
  rw [← hm1]
  clear hm1
  go_wp2_with fail
  refine (C2.out _).mono ?_
  rintro e v2 ⟨rfl, e2⟩
  have A2 : Hid (v2.heap[v1.heap.size]? = some (.cells #[.int .i64 (h : Nat), .slice none 0 0] 71 (0, 0)) ∧ Below v1.heap.size v1 v2) := hide' ⟨by rw [e2]; exact heap_alloc_new _ _, by rw [e2]; exact (Below.refl _ _).alloc (Nat.le_refl _) _⟩
  clear e2
  obtain ⟨r1, hr1⟩ : ∃ c, c = v1.heap.size := ⟨_, rfl⟩
  have Hr1 := hide' hr1
  rw [← hr1]
  clear hr1
  go_wp2_with fail
  refine (C1.out _).mono ?_
  rintro e v3 ⟨rfl, e3⟩
  have A3 : Hid (Mt v2.heap.size h 0 0 v3 ∧ Below v2.heap.size v2 v3) := hide' ⟨by rw [e3]; exact heap_alloc_new _ _, by rw [e3]; exact (Below.refl _ _).alloc (Nat.le_refl _) _⟩
  clear e3
  obtain ⟨m2, hm2⟩ : ∃ c, c = v2.heap.size := ⟨_, rfl⟩
  have Hm2 := hide' hm2
  rw [← hm2]
  clear hm2
  go_wp2_with fail
  refine (C2.out _).mono ?_
  rintro e v4 ⟨rfl, e4⟩
  have A4 : Hid (v4.heap[v3.heap.size]? = some (.cells #[.int .i64 (h : Nat), .slice none 0 0] 71 (0, 0)) ∧ Below v3.heap.size v3 v4) := hide' ⟨by rw [e4]; exact heap_alloc_new _ _, by rw [e4]; exact (Below.refl _ _).alloc (Nat.le_refl _) _⟩
  clear e4
  obtain ⟨r2, hr2⟩ : ∃ c, c = v3.heap.size := ⟨_, rfl⟩
  have Hr2 := hide' hr2
  rw [← hr2]
  clear hr2
  have T0 : Hid (Tx w m1 r1 m2 r2 h 0 0 v4) := by
    apply hide'
    obtain ⟨q1, b1⟩ := A1.out
    obtain ⟨q2, b2⟩ := A2.out
    obtain ⟨q3, b3⟩ := A3.out
    obtain ⟨q4, b4⟩ := A4.out
    have g1 := q1.lt
    have g2 := lt_of_heap q2
    have g3 := q3.lt
    have g4 := lt_of_heap q4
    have x1 := ((q1.below b2).below b3).below b4
    have x2 : v4.heap[v1.heap.size]? = some (.cells #[.int .i64 (h : Nat), .slice none 0 0] 71 (0, 0)) := (b4.block _ (Nat.lt_of_lt_of_le g2 b3.size)).trans ((b3.block _ g2).trans q2)
    have x3 := q3.below b4
    have e1 := Hm1.out
    have e2 := Hr1.out
    have e3 := Hm2.out
    have e4 := Hr2.out
    have z1 := b1.size
    have z2 := b2.size
    have z3 := b3.size
    rw [← e1] at x1
    rw [← e2] at x2
    rw [← e3] at x3
    rw [← e4] at q4
    refine ⟨0, none, 0, [], 0, none, 0, [], pr_new x1 x2 (by omega) (by omega) HH.out, pr_new x3 q4 (by omega) (by omega) HH.out, fun j h1 h2 => ?_, b1.trans ((b2.mono z1).trans ((b3.mono (by omega)).trans (b4.mono (by omega)))), Nat.le_refl _, Nat.le_refl _⟩
    rcases pb_none h1 with h1 | h1 <;> rcases pb_none h2 with h2 | h2 <;> omega
  clear A1 A2 A3 A4 Hm1 Hr1 Hm2 Hr2 C1 C2
  go_wp2_with fail
  go_loopw [15] (fun i wx => ∃ k : Nat, i = .int .i64 (k : Int) ∧ k ≤ N ∧ Tx w m1 r1 m2 r2 h k k wx) (fun i _ => N - (intOf i).toNat)
  case atStart => exact ⟨0, rfl, Nat.zero_le _, T0.out⟩
  case round =>
    obtain ⟨k, rfl, hk, hT⟩ := hrel
    clear T0
    by_cases hlt : k < N
    · have Hlt := hide' hlt
      have HT := hide' hT
      have ek := hide' (wsucN k (by have := HN.out.2; omega))
      have Hms := hide' (msr' hlt _ rfl)
      have hk2 : k ≤ 6000000000000 := by have := HN.out.2; omega
      have F1 : Hid (¬ k < l1.length ∨ ∃ (x : S3) (pb po : Nat), k < l1.length ∧ a1 = some ⟨pb, po, none⟩ ∧ ((-9223372036854775808 ≤ x.t ∧ x.t ≤ 9223372036854775807) ∧ (-9223372036854775808 ≤ x.n ∧ x.n ≤ 9223372036854775807)) ∧ ∀ w', Below w.heap.size w w' → w'.cell? ⟨pb, po + k * 3, none⟩ = some (.int .i64 x.d) ∧ w'.cell? ⟨pb, po + k * 3 + 1, none⟩ = some (.int .i64 x.t) ∧ w'.cell? ⟨pb, po + k * 3 + 2, none⟩ = some (.int .i64 x.n)) := by
        apply hide'
        by_cases g : k < l1.length
        · obtain ⟨x, hx⟩ : ∃ x, l1[k]? = some x := ⟨_, List.getElem?_eq_getElem g⟩
          rcases HI1.out _ (Below.refl _ _) with q | ⟨pb, po, rfl, hpb, hpc⟩
          · rw [q] at g; simp at g
          · refine .inr ⟨x, pb, po, g, rfl, HP.out.1 x (List.mem_of_getElem? hx), fun w' b => ?_⟩
            rcases HI1.out w' b with q | ⟨pb', po', e, _, hpc'⟩
            · rw [q] at g; simp at g
            · cases e
              exact S3.cells (hpc' k x hx)
        · exact .inl g
      have F2 : Hid (¬ k < l2.length ∨ ∃ (x : S3) (pb po : Nat), k < l2.length ∧ a2 = some ⟨pb, po, none⟩ ∧ ((-9223372036854775808 ≤ x.t ∧ x.t ≤ 9223372036854775807) ∧ (-9223372036854775808 ≤ x.n ∧ x.n ≤ 9223372036854775807)) ∧ ∀ w', Below w.heap.size w w' → w'.cell? ⟨pb, po + k * 3, none⟩ = some (.int .i64 x.d) ∧ w'.cell? ⟨pb, po + k * 3 + 1, none⟩ = some (.int .i64 x.t) ∧ w'.cell? ⟨pb, po + k * 3 + 2, none⟩ = some (.int .i64 x.n)) := by
        apply hide'
        by_cases g : k < l2.length
        · obtain ⟨x, hx⟩ : ∃ x, l2[k]? = some x := ⟨_, List.getElem?_eq_getElem g⟩
          rcases HI2.out _ (Below.refl _ _) with q | ⟨pb, po, rfl, hpb, hpc⟩
          · rw [q] at g; simp at g
          · refine .inr ⟨x, pb, po, g, rfl, HP.out.2 x (List.mem_of_getElem? hx), fun w' b => ?_⟩
            rcases HI2.out w' b with q | ⟨pb', po', e, _, hpc'⟩
            · rw [q] at g; simp at g
            · cases e
              exact S3.cells (hpc' k x hx)
        · exact .inl g
      have Hk2 := hide' hk2
      have HNN := HN.out.1
      rcases F1.out with g1 | ⟨x, pb, po, g1, ea1, bx, hc⟩
      · rcases F2.out with g2 | ⟨y, pb2, po2, g2, ea2, by', hc2⟩
        · omega
        · have g1' : ¬ ((k : Int) < (l1.length : Int)) := by omega
          have g2' : (k : Int) < (l2.length : Int) := by omega
          obtain ⟨y0, y1, y2⟩ := hc2 _ hT.bel
          have S2 := hide' (HT.out.two y by'.1 by'.2 Hk2.out)
          clear hT hc2 hk hlt hk2 HNN F1 F2 by' g1 g2
          subst ea2
          go_wp2_with fail
          refine S2.out.mono ?_
          rintro e w5 ⟨rfl, q5⟩
          have K := hide' (q5.mono (A := k + 1) (B := k + 1) (by omega) (by omega))
          clear q5 S2
          go_wp2
          exact ⟨⟨k + 1, by first | rfl | (rw [ek.out]), Hlt.out, K.out⟩, by first | exact Hms.out | (rw [ek.out]; exact Hms.out)⟩
      · obtain ⟨y0, y1, y2⟩ := hc _ hT.bel
        have g1' : (k : Int) < (l1.length : Int) := by omega
        have S1 := hide' (HT.out.one x bx.1 bx.2 Hk2.out)
        rcases F2.out with g2 | ⟨y, pb2, po2, g2, ea2, by', hc2⟩
        · have g2' : ¬ ((k : Int) < (l2.length : Int)) := by omega
          clear hT hc hk hlt hk2 HNN F1 F2 bx g1 g2
          subst ea1
          go_wp2_with fail
          refine S1.out.mono ?_
          rintro e w5 ⟨rfl, q5⟩
          have K := hide' (q5.mono (A := k + 1) (B := k + 1) (by omega) (by omega))
          clear q5 S1
          go_wp2
          exact ⟨⟨k + 1, by first | rfl | (rw [ek.out]), Hlt.out, K.out⟩, by first | exact Hms.out | (rw [ek.out]; exact Hms.out)⟩
        · have g2' : (k : Int) < (l2.length : Int) := by omega
          have HC2 := hide' hc2
          have HBy := hide' by'
          clear hT hc hc2 hk hlt hk2 HNN F1 F2 bx by' g1 g2
          subst ea1
          subst ea2
          go_wp2_with fail
          refine S1.out.mono ?_
          rintro e w5 ⟨rfl, q5⟩
          obtain ⟨z0, z1, z2⟩ := HC2.out w5 q5.bel
          have S2 := hide' (q5.two y HBy.out.1 HBy.out.2 Hk2.out)
          clear q5 S1 HC2 HBy y0 y1 y2
          go_wp2_with fail
          refine S2.out.mono ?_
          rintro e w6 ⟨rfl, q6⟩
          have K := hide' q6
          clear q6 S2
          go_wp2
          exact ⟨⟨k + 1, by first | rfl | (rw [ek.out]), Hlt.out, K.out⟩, by first | exact Hms.out | (rw [ek.out]; exact Hms.out)⟩
    · have g1' : ¬ ((k : Int) < (l1.length : Int)) := by have := HN.out.1; omega
      have g2' : ¬ ((k : Int) < (l2.length : Int)) := by have := HN.out.1; omega
      have HB := hide' hT.bel
      clear hT hlt hk
      go_wp2
      go_ret
      exact ⟨rfl, HB.out⟩
theorem script_any (x0 : Int) (a1 : Option Addr) (c1 : Nat) (l1 : List S3) (a2 : Option Addr) (c2 : Nat) (l2 : List S3) (w : World) (hI1 : Rw 3 S3.arr w a1 l1) (hI2 : Rw 3 S3.arr w a2 l2) (hP1 : ∀ q ∈ l1, (-9223372036854775808 ≤ q.t ∧ q.t ≤ 9223372036854775807) ∧ (-9223372036854775808 ≤ q.n ∧ q.n ≤ 9223372036854775807)) (hP2 : ∀ q ∈ l2, (-9223372036854775808 ≤ q.t ∧ q.t ≤ 9223372036854775807) ∧ (-9223372036854775808 ≤ q.n ∧ q.n ≤ 9223372036854775807)) (hs1 : l1.length ≤ 5864062014634) (hs2 : l2.length ≤ 5864062014634) :
    Calls Try.prog 4 #[.int .i64 x0, .slice a1 l1.length c1, .slice a2 l2.length c2] w fun e w' => e = .returned (.bool true) ∧ Below w.heap.size w w' := by
  by_cases h : x0 < 1
  · exact script_no a1 _ c1 a2 _ c2 w h
  · obtain ⟨H, rfl⟩ : ∃ H : Nat, x0 = (H : Int) := ⟨x0.toNat, by omega⟩
    exact script_walk H a1 c1 l1 a2 c2 l2 w (by omega) hI1 hI2 hP1 hP2 hs1 hs2
end M
end Go.Proofs.Ytfkoacjfihaajaa
