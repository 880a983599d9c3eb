import Derived.Test.YtjmkofdnlhfaiaaRaH
set_option linter.unusedVariables false
set_option linter.unusedSimpArgs false
namespace Go.Proofs.Ytjmkofdnlhfaiaa
open Go.RowKit
namespace C
/-- what lies at a place of a list of calls -/
theorem act_cells {w0 : World} {a : Option Addr} {xs : List Act} (h : Acs w0 a xs) {k : Nat} {z : Act} (hz : xs[k]? = some z) : ∃ b off, a = some ⟨b, off, none⟩ ∧ ∀ w', Below w0.heap.size w0 w' → w'.cell? ⟨b, off + k * 6, none⟩ = some (.int .i64 z.d) ∧ w'.cell? ⟨b, off + k * 6 + 1, none⟩ = some (.int .i64 z.tag) ∧ w'.cell? ⟨b, off + k * 6 + 2, none⟩ = some (.int .i64 z.t.s) ∧ w'.cell? ⟨b, off + k * 6 + 3, none⟩ = some (.int .i64 z.t.o) ∧ w'.cell? ⟨b, off + k * 6 + 4, none⟩ = some (.int .i64 z.t.a) ∧ w'.cell? ⟨b, off + k * 6 + 5, none⟩ = some (.bool z.al) := by
  obtain ⟨b, off, rfl, hb, _⟩ := h.at hz
  refine ⟨b, off, rfl, fun w' bel => ?_⟩
  obtain ⟨b', off', e, _, hr⟩ := (h.below bel).at hz
  cases e
  exact ⟨hr 0 _ rfl, hr 1 _ rfl, hr 2 _ rfl, hr 3 _ rfl, hr 4 _ rfl, hr 5 _ rfl⟩
set_option maxRecDepth 100000 in
set_option maxHeartbeats 8000000 in
theorem acts_walk (p1 p2 q1 q2 : Int) (a1 : Option Addr) (c1 : Nat) (l1 : List Act) (a2 : Option Addr) (c2 : Nat) (l2 : List Act) (w : World) (hI1 : Acs w a1 l1) (hI2 : Acs w a2 l2) (hs1 : l1.length ≤ 3000000000000) (hs2 : l2.length ≤ 3000000000000) :
    Calls Try.prog 5 #[.agg #[.int .i64 p1, .int .i64 p2], .agg #[.int .i64 q1, .int .i64 q2], .slice a1 l1.length c1, .slice a2 l2.length c2] w fun e w' => e = .returned (.bool true) ∧ Below w.heap.size w w' := by
  have HI1 := hide' hI1
  have HI2 := hide' hI2
  obtain ⟨N, hN⟩ : ∃ N, N = max l1.length l2.length := ⟨_, rfl⟩
  have HN := hide' (show N = max l1.length l2.length ∧ N ≤ 3000000000000 by omega)
  obtain ⟨W0, hW0⟩ : ∃ W0, W0 = (w.alloc (.cells #[.int .i64 p1, .int .i64 p2] 37)).alloc (.cells #[.int .i64 q1, .int .i64 q2] 37) := ⟨_, rfl⟩
  have HW0 := hide' hW0
  have hb0 : Below w.heap.size w W0 := by rw [hW0]; exact ((Below.refl _ _).alloc (Nat.le_refl _) _).alloc (by simp) _
  have hbb : W0.heap[w.heap.size + 1]? = some (.cells #[.int .i64 q1, .int .i64 q2] 37 (0, 0)) := by
    rw [hW0]
    have := heap_alloc_new (w.alloc (.cells #[.int .i64 p1, .int .i64 p2] 37)) (.cells #[.int .i64 q1, .int .i64 q2] 37)
    rw [show (w.alloc (.cells #[.int .i64 p1, .int .i64 p2] 37)).heap.size = w.heap.size + 1 by simp] at this
    exact this
  have hba : W0.heap[w.heap.size]? = some (.cells #[.int .i64 p1, .int .i64 p2] 37 (0, 0)) := by
    rw [hW0]
    exact (Below.heap_alloc _ _ _ (by simp)).trans (heap_alloc_new w _)
  have HB0 := hide' (And.intro hb0 hbb)
  obtain ⟨xa, hxa⟩ : ∃ xa, xa = w.heap.size := ⟨_, rfl⟩
  obtain ⟨xb, hxb⟩ : ∃ xb, xb = w.heap.size + 1 := ⟨_, rfl⟩
  have HX := hide' (And.intro hxa hxb)
  have H1 := hide' (made_any p1 p2 W0)
  have H2 := hide' (fun w => made_any q1 q2 w)
  clear hI1 hI2 hs1 hs2 hN hW0 hb0 hbb hba hxa hxb
  go_enter Try.func5, Try.ntmps5
  go_wp2_with fail
  rw [← HW0.out]
  refine H1.out.mono ?_
  rintro e w1 ⟨pc, pr, rfl, M1⟩
  obtain ⟨W1, hW1⟩ : ∃ W1, W1 = w1.alloc (.cells #[.pointer pc, .pointer pr] 40) := ⟨_, rfl⟩
  have HW1 := hide' hW1
  have B1 : Hid (Below W0.heap.size W0 W1) := hide' (by rw [hW1]; exact M1.out.1.alloc M1.out.1.size _)
  have hb1 : W1.heap[w.heap.size + 1]? = some (.cells #[.int .i64 q1, .int .i64 q2] 37 (0, 0)) := (B1.out.block _ (lt_of_heap HB0.out.2)).trans HB0.out.2
  have y0 : (w1.alloc (.cells #[.pointer pc, .pointer pr] 40)).cell? ⟨w.heap.size + 1, 0, none⟩ = some (.int .i64 q1) := by rw [← hW1, Lib.cell_of_heap hb1]; rfl
  have y1 : (w1.alloc (.cells #[.pointer pc, .pointer pr] 40)).cell? ⟨w.heap.size + 1, 1, none⟩ = some (.int .i64 q2) := by rw [← hW1, Lib.cell_of_heap hb1]; rfl
  have HT1 : Hid (Bo2 w1.heap.size pc pr W1 ∧ ∃ D, Sid w.heap.size 0 pc pr D W1 ∧ ∀ j, D j → j < w1.heap.size) := hide' (by
    obtain ⟨D, s1, _⟩ := Mk.sid (B0 := w.heap.size) M1.out.2 HB0.out.1.size
    exact ⟨by rw [hW1]; exact heap_alloc_new _ _, D, by rw [hW1]; exact s1.below ((Below.refl _ _).alloc (Nat.le_refl _) _), fun j hj => (s1.lo hj).2⟩)
  obtain ⟨bx, hbx⟩ : ∃ bx, bx = w1.heap.size := ⟨_, rfl⟩
  have HBX : Hid (bx = w1.heap.size ∧ W1.heap.size = w1.heap.size + 1) := hide' ⟨hbx, by rw [hW1]; simp⟩
  clear hW1 hb1 H1 hbx
  go_wp2_with fail
  rw [← HW1.out, ← HBX.out.1]
  clear y0 y1
  refine (H2.out _).mono ?_
  rintro e w2 ⟨pc', pr', rfl, M2⟩
  obtain ⟨W2, hW2⟩ : ∃ W2, W2 = w2.alloc (.cells #[.pointer pc', .pointer pr'] 40) := ⟨_, rfl⟩
  have HW2 := hide' hW2
  obtain ⟨by0, hby⟩ : ∃ b, b = w2.heap.size := ⟨_, rfl⟩
  have HBY := hide' hby
  have T0 : Hid (Tw w bx by0 pc pr pc' pr' 0 0 W2) := hide' (by
    have k2 : Below W1.heap.size W1 W2 := by rw [hW2]; exact M2.out.1.alloc M2.out.1.size _
    obtain ⟨t1, D1, s1, d1⟩ := HT1.out
    obtain ⟨D2, s2, d2⟩ := Mk.sid (B0 := w.heap.size) M2.out.2 (Nat.le_trans HB0.out.1.size B1.out.size)
    refine ⟨D1, D2, s1.below k2, by rw [hW2]; exact s2.below ((Below.refl _ _).alloc (Nat.le_refl _) _), fun j h1 h2 => ?_, HB0.out.1.trans ((B1.out.trans (k2.mono B1.out.size)).mono HB0.out.1.size), ?_, ?_⟩
    · have e1 := d1 j h1
      have e2 := d2 j h2
      have e3 := HBX.out.2
      omega
    · rw [HBX.out.1]
      exact (k2.block _ (lt_of_heap t1)).trans t1
    · rw [hby, hW2]; exact heap_alloc_new _ _)
  clear hW2 hby H2 HT1 B1 M1 M2 HB0
  have HX1 : Hid ((pc = none ∧ pr = none) ∨ ∃ c r : Nat, pc = some ⟨c, 0, none⟩ ∧ pr = some ⟨r, 0, none⟩) := hide' (by
    obtain ⟨D1, D2, a, _⟩ := T0.out
    rcases a with ⟨h1, h2, _⟩ | ⟨B, c, g, n, v, b, r, hb, s, lo, h1, h2, _⟩
    · exact .inl ⟨h1, h2⟩
    · exact .inr ⟨c, r, h1, h2⟩)
  have HY1 : Hid ((pc' = none ∧ pr' = none) ∨ ∃ c r : Nat, pc' = some ⟨c, 0, none⟩ ∧ pr' = some ⟨r, 0, none⟩) := hide' (by
    obtain ⟨D1, D2, _, a, _⟩ := T0.out
    rcases a with ⟨h1, h2, _⟩ | ⟨B, c, g, n, v, b, r, hb, s, lo, h1, h2, _⟩
    · exact .inl ⟨h1, h2⟩
    · exact .inr ⟨c, r, h1, h2⟩)
  have hX := HX1.out
  rcases hX with ⟨rfl, rfl⟩ | ⟨c, r, rfl, rfl⟩
  · rcases HY1.out with ⟨rfl, rfl⟩ | ⟨c', r', rfl, rfl⟩
    · clear HX1 HY1
      go_wp2_with fail
      rw [← HW2.out, ← HBY.out]
      go_loopw [13] (fun i wx => ∃ k : Nat, i = .int .i64 (k : Int) ∧ k ≤ N ∧ Tw w bx by0 none none none none k k wx) (fun i _ => N - (intOf i).toNat)
      case atStart => exact ⟨0, rfl, Nat.zero_le _, T0.out⟩
      case round => as_aux_lemma =>
        obtain ⟨k, rfl, hk, hT⟩ := hrel
        clear T0
        have x1 := hT.bx.c1
        have yy1 := hT.by'.c1
        have x0 := hT.bx.c0
        have yy0 := hT.by'.c0
        by_cases hlt : k < N
        · have Hlt := hide' hlt
          have HT := hide' hT
          have ek := hide' (wsucN k (by have := HN.out.2; omega))
          have Hms := hide' (msr' hlt _ rfl)
          have Hk2 := hide' (show k < 9007199254740990 by have := HN.out.2; omega)
          have HNN := HN.out.1
          by_cases g1 : k < l1.length
          · have g1' : (k : Int) < (l1.length : Int) := by omega
            by_cases g2 : k < l2.length
            · have g2' : (k : Int) < (l2.length : Int) := by omega
              clear hT hlt hk HNN g1 g2
              have K := hide' (HT.out.mono (A := k + 1) (C := k + 1) (by omega) (by omega))
              go_wp2
              exact ⟨⟨k + 1, by first | rfl | (rw [ek.out]), Hlt.out, K.out⟩, by first | exact Hms.out | (rw [ek.out]; exact Hms.out)⟩
            · have g2' : ¬ ((k : Int) < (l2.length : Int)) := by omega
              clear hT hlt hk HNN g1 g2
              have K := hide' (HT.out.mono (A := k + 1) (C := k + 1) (by omega) (by omega))
              go_wp2
              exact ⟨⟨k + 1, by first | rfl | (rw [ek.out]), Hlt.out, K.out⟩, by first | exact Hms.out | (rw [ek.out]; exact Hms.out)⟩
          · have g1' : ¬ ((k : Int) < (l1.length : Int)) := by omega
            by_cases g2 : k < l2.length
            · have g2' : (k : Int) < (l2.length : Int) := by omega
              clear hT hlt hk HNN g1 g2
              have K := hide' (HT.out.mono (A := k + 1) (C := k + 1) (by omega) (by omega))
              go_wp2
              exact ⟨⟨k + 1, by first | rfl | (rw [ek.out]), Hlt.out, K.out⟩, by first | exact Hms.out | (rw [ek.out]; exact Hms.out)⟩
            · omega
        · have g1' : ¬ ((k : Int) < (l1.length : Int)) := by have := HN.out.1; omega
          have g2' : ¬ ((k : Int) < (l2.length : Int)) := by have := HN.out.1; omega
          have hK : k < 9007199254740980 := by have := HN.out.2; omega
          have HK := hide' hK
          have q0 := hide' hT
          clear hT hlt hk hK
          have HB := hide' q0.out.bel
          go_wp2
          go_ret
          exact ⟨rfl, HB.out⟩
    · clear HX1 HY1
      go_wp2_with fail
      rw [← HW2.out, ← HBY.out]
      go_loopw [13] (fun i wx => ∃ k : Nat, i = .int .i64 (k : Int) ∧ k ≤ N ∧ Tw w bx by0 none none (some ⟨c', 0, none⟩) (some ⟨r', 0, none⟩) k k wx) (fun i _ => N - (intOf i).toNat)
      case atStart => exact ⟨0, rfl, Nat.zero_le _, T0.out⟩
      case round => as_aux_lemma =>
        obtain ⟨k, rfl, hk, hT⟩ := hrel
        clear T0
        have x1 := hT.bx.c1
        have yy1 := hT.by'.c1
        have x0 := hT.bx.c0
        have yy0 := hT.by'.c0
        by_cases hlt : k < N
        · have Hlt := hide' hlt
          have HT := hide' hT
          have ek := hide' (wsucN k (by have := HN.out.2; omega))
          have Hms := hide' (msr' hlt _ rfl)
          have Hk2 := hide' (show k < 9007199254740990 by have := HN.out.2; omega)
          have HNN := HN.out.1
          by_cases g1 : k < l1.length
          · have g1' : (k : Int) < (l1.length : Int) := by omega
            by_cases g2 : k < l2.length
            · have g2' : (k : Int) < (l2.length : Int) := by omega
              obtain ⟨z2, hz2⟩ : ∃ z, l2[k]? = some z := ⟨_, List.getElem?_eq_getElem g2⟩
              obtain ⟨b2, off2, ea2, hc2⟩ := act_cells HI2.out hz2
              have HC2 := hide' hc2
              have hbel := hT.bel
              clear hT hlt hk HNN g1 g2 hz2 hc2
              subst ea2
              obtain ⟨d0, d1, d2, d3, d4, d5⟩ := HC2.out _ hbel
              have S2 := hide' ((HT.out.below (Below.refl _ _).drew).two (by simp) (by have := Hk2.out; omega) z2)
              go_wp2_with fail
              go_region_held3 (fun w' => w'.cell? ⟨by0, 0, none⟩ = some (.pointer (some ⟨c', 0, none⟩)) ∧ w'.cell? ⟨by0, 1, none⟩ = some (.pointer (some ⟨r', 0, none⟩)) ∧ w'.cell? ⟨b2, off2 + k * 6, none⟩ = some (.int .i64 z2.d) ∧ w'.cell? ⟨b2, off2 + k * 6 + 1, none⟩ = some (.int .i64 z2.tag) ∧ w'.cell? ⟨b2, off2 + k * 6 + 2, none⟩ = some (.int .i64 z2.t.s) ∧ w'.cell? ⟨b2, off2 + k * 6 + 3, none⟩ = some (.int .i64 z2.t.o) ∧ w'.cell? ⟨b2, off2 + k * 6 + 4, none⟩ = some (.int .i64 z2.t.a) ∧ w'.cell? ⟨b2, off2 + k * 6 + 5, none⟩ = some (.bool z2.al)) (first | exact ⟨yy0, yy1, d0, d1, d2, d3, d4, d5⟩ | exact SS) ((go_at_call 16; refine S2.out.mono ?_; rintro e w52 ⟨rfl, q5'⟩; have SS := And.intro q5'.by'.c0 (And.intro q5'.by'.c1 (HC2.out _ q5'.bel))))
              rename_i hHeld
              clear hHeld SS
              have q5 := hide' q5'
              clear q5' S2 d0 d1 d2 d3 d4 d5 x0 x1 yy0 yy1
              have K := hide' (q5.out.mono (A := k + 1) (C := k + 1) (by omega) (by omega))
              clear q5
              go_wp2
              exact ⟨⟨k + 1, by first | rfl | (rw [ek.out]), Hlt.out, K.out⟩, by first | exact Hms.out | (rw [ek.out]; exact Hms.out)⟩
            · have g2' : ¬ ((k : Int) < (l2.length : Int)) := by omega
              clear hT hlt hk HNN g1 g2
              have K := hide' (HT.out.mono (A := k + 1) (C := k + 1) (by omega) (by omega))
              go_wp2
              exact ⟨⟨k + 1, by first | rfl | (rw [ek.out]), Hlt.out, K.out⟩, by first | exact Hms.out | (rw [ek.out]; exact Hms.out)⟩
          · have g1' : ¬ ((k : Int) < (l1.length : Int)) := by omega
            by_cases g2 : k < l2.length
            · have g2' : (k : Int) < (l2.length : Int) := by omega
              obtain ⟨z2, hz2⟩ : ∃ z, l2[k]? = some z := ⟨_, List.getElem?_eq_getElem g2⟩
              obtain ⟨b2, off2, ea2, hc2⟩ := act_cells HI2.out hz2
              have HC2 := hide' hc2
              have hbel := hT.bel
              clear hT hlt hk HNN g1 g2 hz2 hc2
              subst ea2
              obtain ⟨d0, d1, d2, d3, d4, d5⟩ := HC2.out _ hbel
              have S2 := hide' ((HT.out.below (Below.refl _ _).drew).two (by simp) (by have := Hk2.out; omega) z2)
              go_wp2_with fail
              go_region_held3 (fun w' => w'.cell? ⟨by0, 0, none⟩ = some (.pointer (some ⟨c', 0, none⟩)) ∧ w'.cell? ⟨by0, 1, none⟩ = some (.pointer (some ⟨r', 0, none⟩)) ∧ w'.cell? ⟨b2, off2 + k * 6, none⟩ = some (.int .i64 z2.d) ∧ w'.cell? ⟨b2, off2 + k * 6 + 1, none⟩ = some (.int .i64 z2.tag) ∧ w'.cell? ⟨b2, off2 + k * 6 + 2, none⟩ = some (.int .i64 z2.t.s) ∧ w'.cell? ⟨b2, off2 + k * 6 + 3, none⟩ = some (.int .i64 z2.t.o) ∧ w'.cell? ⟨b2, off2 + k * 6 + 4, none⟩ = some (.int .i64 z2.t.a) ∧ w'.cell? ⟨b2, off2 + k * 6 + 5, none⟩ = some (.bool z2.al)) (first | exact ⟨yy0, yy1, d0, d1, d2, d3, d4, d5⟩ | exact SS) ((go_at_call 16; refine S2.out.mono ?_; rintro e w52 ⟨rfl, q5'⟩; have SS := And.intro q5'.by'.c0 (And.intro q5'.by'.c1 (HC2.out _ q5'.bel))))
              rename_i hHeld
              clear hHeld SS
              have q5 := hide' q5'
              clear q5' S2 d0 d1 d2 d3 d4 d5 x0 x1 yy0 yy1
              have K := hide' (q5.out.mono (A := k + 1) (C := k + 1) (by omega) (by omega))
              clear q5
              go_wp2
              exact ⟨⟨k + 1, by first | rfl | (rw [ek.out]), Hlt.out, K.out⟩, by first | exact Hms.out | (rw [ek.out]; exact Hms.out)⟩
            · omega
        · have g1' : ¬ ((k : Int) < (l1.length : Int)) := by have := HN.out.1; omega
          have g2' : ¬ ((k : Int) < (l2.length : Int)) := by have := HN.out.1; omega
          have hK : k < 9007199254740980 := by have := HN.out.2; omega
          have HK := hide' hK
          have q0 := hide' hT
          clear hT hlt hk hK
          have S := hide' (q0.out.two (by simp) (by have := HK.out; omega) ⟨4, 0, ⟨0, 0, 0⟩, false⟩)
          go_wp2_with fail
          refine S.out.mono ?_
          rintro e v1 ⟨rfl, r1'⟩
          have r1 := hide' r1'
          clear r1' S x0 x1 yy0 yy1
          have x0 := r1.out.bx.c0
          have x1 := r1.out.bx.c1
          have yy0 := r1.out.by'.c0
          have yy1 := r1.out.by'.c1
          have S := hide' (r1.out.two (by simp) (by have := HK.out; omega) ⟨5, 0, ⟨0, 0, 0⟩, false⟩)
          go_wp2_with fail
          refine S.out.mono ?_
          rintro e v2 ⟨rfl, r2'⟩
          have r2 := hide' r2'
          clear r2' S x0 x1 yy0 yy1
          have x0 := r2.out.bx.c0
          have x1 := r2.out.bx.c1
          have yy0 := r2.out.by'.c0
          have yy1 := r2.out.by'.c1
          have HB := hide' r2.out.bel
          go_wp2
          go_ret
          exact ⟨rfl, HB.out⟩
  · rcases HY1.out with ⟨rfl, rfl⟩ | ⟨c', r', rfl, rfl⟩
    · clear HX1 HY1
      go_wp2_with fail
      rw [← HW2.out, ← HBY.out]
      go_loopw [13] (fun i wx => ∃ k : Nat, i = .int .i64 (k : Int) ∧ k ≤ N ∧ Tw w bx by0 (some ⟨c, 0, none⟩) (some ⟨r, 0, none⟩) none none k k wx) (fun i _ => N - (intOf i).toNat)
      case atStart => exact ⟨0, rfl, Nat.zero_le _, T0.out⟩
      case round => as_aux_lemma =>
        obtain ⟨k, rfl, hk, hT⟩ := hrel
        clear T0
        have x1 := hT.bx.c1
        have yy1 := hT.by'.c1
        have x0 := hT.bx.c0
        have yy0 := hT.by'.c0
        by_cases hlt : k < N
        · have Hlt := hide' hlt
          have HT := hide' hT
          have ek := hide' (wsucN k (by have := HN.out.2; omega))
          have Hms := hide' (msr' hlt _ rfl)
          have Hk2 := hide' (show k < 9007199254740990 by have := HN.out.2; omega)
          have HNN := HN.out.1
          by_cases g1 : k < l1.length
          · have g1' : (k : Int) < (l1.length : Int) := by omega
            by_cases g2 : k < l2.length
            · have g2' : (k : Int) < (l2.length : Int) := by omega
              obtain ⟨z1, hz1⟩ : ∃ z, l1[k]? = some z := ⟨_, List.getElem?_eq_getElem g1⟩
              obtain ⟨b1, off1, ea1, hc1⟩ := act_cells HI1.out hz1
              have HC1 := hide' hc1
              have hbel := hT.bel
              clear hT hlt hk HNN g1 g2 hz1 hc1
              subst ea1
              obtain ⟨d0, d1, d2, d3, d4, d5⟩ := HC1.out _ hbel
              have S1 := hide' ((HT.out.below (Below.refl _ _).drew).one (by simp) (by have := Hk2.out; omega) z1)
              go_wp2_with fail
              go_region_held3 (fun w' => w'.cell? ⟨bx, 0, none⟩ = some (.pointer (some ⟨c, 0, none⟩)) ∧ w'.cell? ⟨bx, 1, none⟩ = some (.pointer (some ⟨r, 0, none⟩)) ∧ w'.cell? ⟨b1, off1 + k * 6, none⟩ = some (.int .i64 z1.d) ∧ w'.cell? ⟨b1, off1 + k * 6 + 1, none⟩ = some (.int .i64 z1.tag) ∧ w'.cell? ⟨b1, off1 + k * 6 + 2, none⟩ = some (.int .i64 z1.t.s) ∧ w'.cell? ⟨b1, off1 + k * 6 + 3, none⟩ = some (.int .i64 z1.t.o) ∧ w'.cell? ⟨b1, off1 + k * 6 + 4, none⟩ = some (.int .i64 z1.t.a) ∧ w'.cell? ⟨b1, off1 + k * 6 + 5, none⟩ = some (.bool z1.al)) (first | exact ⟨x0, x1, d0, d1, d2, d3, d4, d5⟩ | exact SS) ((go_at_call 16; refine S1.out.mono ?_; rintro e w51 ⟨rfl, q5'⟩; have SS := And.intro q5'.bx.c0 (And.intro q5'.bx.c1 (HC1.out _ q5'.bel))))
              rename_i hHeld
              clear hHeld SS
              have q5 := hide' q5'
              clear q5' S1 d0 d1 d2 d3 d4 d5 x0 x1 yy0 yy1
              have K := hide' (q5.out.mono (A := k + 1) (C := k + 1) (by omega) (by omega))
              have yy1 := q5.out.by'.c1
              clear q5
              go_wp2
              exact ⟨⟨k + 1, by first | rfl | (rw [ek.out]), Hlt.out, K.out⟩, by first | exact Hms.out | (rw [ek.out]; exact Hms.out)⟩
            · have g2' : ¬ ((k : Int) < (l2.length : Int)) := by omega
              obtain ⟨z1, hz1⟩ : ∃ z, l1[k]? = some z := ⟨_, List.getElem?_eq_getElem g1⟩
              obtain ⟨b1, off1, ea1, hc1⟩ := act_cells HI1.out hz1
              have HC1 := hide' hc1
              have hbel := hT.bel
              clear hT hlt hk HNN g1 g2 hz1 hc1
              subst ea1
              obtain ⟨d0, d1, d2, d3, d4, d5⟩ := HC1.out _ hbel
              have S1 := hide' ((HT.out.below (Below.refl _ _).drew).one (by simp) (by have := Hk2.out; omega) z1)
              go_wp2_with fail
              go_region_held3 (fun w' => w'.cell? ⟨bx, 0, none⟩ = some (.pointer (some ⟨c, 0, none⟩)) ∧ w'.cell? ⟨bx, 1, none⟩ = some (.pointer (some ⟨r, 0, none⟩)) ∧ w'.cell? ⟨b1, off1 + k * 6, none⟩ = some (.int .i64 z1.d) ∧ w'.cell? ⟨b1, off1 + k * 6 + 1, none⟩ = some (.int .i64 z1.tag) ∧ w'.cell? ⟨b1, off1 + k * 6 + 2, none⟩ = some (.int .i64 z1.t.s) ∧ w'.cell? ⟨b1, off1 + k * 6 + 3, none⟩ = some (.int .i64 z1.t.o) ∧ w'.cell? ⟨b1, off1 + k * 6 + 4, none⟩ = some (.int .i64 z1.t.a) ∧ w'.cell? ⟨b1, off1 + k * 6 + 5, none⟩ = some (.bool z1.al)) (first | exact ⟨x0, x1, d0, d1, d2, d3, d4, d5⟩ | exact SS) ((go_at_call 16; refine S1.out.mono ?_; rintro e w51 ⟨rfl, q5'⟩; have SS := And.intro q5'.bx.c0 (And.intro q5'.bx.c1 (HC1.out _ q5'.bel))))
              rename_i hHeld
              clear hHeld SS
              have q5 := hide' q5'
              clear q5' S1 d0 d1 d2 d3 d4 d5 x0 x1 yy0 yy1
              have K := hide' (q5.out.mono (A := k + 1) (C := k + 1) (by omega) (by omega))
              have yy1 := q5.out.by'.c1
              clear q5
              go_wp2
              exact ⟨⟨k + 1, by first | rfl | (rw [ek.out]), Hlt.out, K.out⟩, by first | exact Hms.out | (rw [ek.out]; exact Hms.out)⟩
          · have g1' : ¬ ((k : Int) < (l1.length : Int)) := by omega
            by_cases g2 : k < l2.length
            · have g2' : (k : Int) < (l2.length : Int) := by omega
              clear hT hlt hk HNN g1 g2
              have K := hide' (HT.out.mono (A := k + 1) (C := k + 1) (by omega) (by omega))
              go_wp2
              exact ⟨⟨k + 1, by first | rfl | (rw [ek.out]), Hlt.out, K.out⟩, by first | exact Hms.out | (rw [ek.out]; exact Hms.out)⟩
            · omega
        · have g1' : ¬ ((k : Int) < (l1.length : Int)) := by have := HN.out.1; omega
          have g2' : ¬ ((k : Int) < (l2.length : Int)) := by have := HN.out.1; omega
          have hK : k < 9007199254740980 := by have := HN.out.2; omega
          have HK := hide' hK
          have q0 := hide' hT
          clear hT hlt hk hK
          have S := hide' (q0.out.one (by simp) (by have := HK.out; omega) ⟨4, 0, ⟨0, 0, 0⟩, false⟩)
          go_wp2_with fail
          refine S.out.mono ?_
          rintro e v1 ⟨rfl, r1'⟩
          have r1 := hide' r1'
          clear r1' S x0 x1 yy0 yy1
          have x0 := r1.out.bx.c0
          have x1 := r1.out.bx.c1
          have yy0 := r1.out.by'.c0
          have yy1 := r1.out.by'.c1
          have S := hide' (r1.out.one (by simp) (by have := HK.out; omega) ⟨5, 0, ⟨0, 0, 0⟩, false⟩)
          go_wp2_with fail
          refine S.out.mono ?_
          rintro e v2 ⟨rfl, r2'⟩
          have r2 := hide' r2'
          clear r2' S x0 x1 yy0 yy1
          have x0 := r2.out.bx.c0
          have x1 := r2.out.bx.c1
          have yy0 := r2.out.by'.c0
          have yy1 := r2.out.by'.c1
          have HB := hide' r2.out.bel
          go_wp2
          go_ret
          exact ⟨rfl, HB.out⟩
    · clear HX1 HY1
      go_wp2_with fail
      rw [← HW2.out, ← HBY.out]
      go_loopw [13] (fun i wx => ∃ k : Nat, i = .int .i64 (k : Int) ∧ k ≤ N ∧ Tw w bx by0 (some ⟨c, 0, none⟩) (some ⟨r, 0, none⟩) (some ⟨c', 0, none⟩) (some ⟨r', 0, none⟩) k k wx) (fun i _ => N - (intOf i).toNat)
      case atStart => exact ⟨0, rfl, Nat.zero_le _, T0.out⟩
      case round => as_aux_lemma =>
        obtain ⟨k, rfl, hk, hT⟩ := hrel
        clear T0
        have x1 := hT.bx.c1
        have yy1 := hT.by'.c1
        have x0 := hT.bx.c0
        have yy0 := hT.by'.c0
        by_cases hlt : k < N
        · have Hlt := hide' hlt
          have HT := hide' hT
          have ek := hide' (wsucN k (by have := HN.out.2; omega))
          have Hms := hide' (msr' hlt _ rfl)
          have Hk2 := hide' (show k < 9007199254740990 by have := HN.out.2; omega)
          have HNN := HN.out.1
          by_cases g1 : k < l1.length
          · have g1' : (k : Int) < (l1.length : Int) := by omega
            by_cases g2 : k < l2.length
            · have g2' : (k : Int) < (l2.length : Int) := by omega
              obtain ⟨z1, hz1⟩ : ∃ z, l1[k]? = some z := ⟨_, List.getElem?_eq_getElem g1⟩
              obtain ⟨b1, off1, ea1, hc1⟩ := act_cells HI1.out hz1
              have HC1 := hide' hc1
              obtain ⟨z2, hz2⟩ : ∃ z, l2[k]? = some z := ⟨_, List.getElem?_eq_getElem g2⟩
              obtain ⟨b2, off2, ea2, hc2⟩ := act_cells HI2.out hz2
              have HC2 := hide' hc2
              have hbel := hT.bel
              clear hT hlt hk HNN g1 g2 hz1 hc1 hz2 hc2
              subst ea1
              subst ea2
              obtain ⟨d0, d1, d2, d3, d4, d5⟩ := HC1.out _ hbel
              have S1 := hide' ((HT.out.below (Below.refl _ _).drew).one (by simp) (by have := Hk2.out; omega) z1)
              go_wp2_with fail
              go_region_held3 (fun w' => w'.cell? ⟨bx, 0, none⟩ = some (.pointer (some ⟨c, 0, none⟩)) ∧ w'.cell? ⟨bx, 1, none⟩ = some (.pointer (some ⟨r, 0, none⟩)) ∧ w'.cell? ⟨b1, off1 + k * 6, none⟩ = some (.int .i64 z1.d) ∧ w'.cell? ⟨b1, off1 + k * 6 + 1, none⟩ = some (.int .i64 z1.tag) ∧ w'.cell? ⟨b1, off1 + k * 6 + 2, none⟩ = some (.int .i64 z1.t.s) ∧ w'.cell? ⟨b1, off1 + k * 6 + 3, none⟩ = some (.int .i64 z1.t.o) ∧ w'.cell? ⟨b1, off1 + k * 6 + 4, none⟩ = some (.int .i64 z1.t.a) ∧ w'.cell? ⟨b1, off1 + k * 6 + 5, none⟩ = some (.bool z1.al)) (first | exact ⟨x0, x1, d0, d1, d2, d3, d4, d5⟩ | exact SS) ((go_at_call 16; refine S1.out.mono ?_; rintro e w51 ⟨rfl, q5'⟩; have SS := And.intro q5'.bx.c0 (And.intro q5'.bx.c1 (HC1.out _ q5'.bel))))
              rename_i hHeld
              clear hHeld SS
              have q5 := hide' q5'
              clear q5' S1 d0 d1 d2 d3 d4 d5 x0 x1 yy0 yy1
              obtain ⟨d0, d1, d2, d3, d4, d5⟩ := HC2.out _ q5.out.bel
              have S2 := hide' ((q5.out.below (Below.refl _ _).drew).two (by simp) (by have := Hk2.out; omega) z2)
              have x0 := q5.out.bx.c0
              have x1 := q5.out.bx.c1
              have yy0 := q5.out.by'.c0
              have yy1 := q5.out.by'.c1
              go_wp2_with fail
              go_region_held3 (fun w' => w'.cell? ⟨by0, 0, none⟩ = some (.pointer (some ⟨c', 0, none⟩)) ∧ w'.cell? ⟨by0, 1, none⟩ = some (.pointer (some ⟨r', 0, none⟩)) ∧ w'.cell? ⟨b2, off2 + k * 6, none⟩ = some (.int .i64 z2.d) ∧ w'.cell? ⟨b2, off2 + k * 6 + 1, none⟩ = some (.int .i64 z2.tag) ∧ w'.cell? ⟨b2, off2 + k * 6 + 2, none⟩ = some (.int .i64 z2.t.s) ∧ w'.cell? ⟨b2, off2 + k * 6 + 3, none⟩ = some (.int .i64 z2.t.o) ∧ w'.cell? ⟨b2, off2 + k * 6 + 4, none⟩ = some (.int .i64 z2.t.a) ∧ w'.cell? ⟨b2, off2 + k * 6 + 5, none⟩ = some (.bool z2.al)) (first | exact ⟨yy0, yy1, d0, d1, d2, d3, d4, d5⟩ | exact SS) ((go_at_call 16; refine S2.out.mono ?_; rintro e w52 ⟨rfl, q5'⟩; have SS := And.intro q5'.by'.c0 (And.intro q5'.by'.c1 (HC2.out _ q5'.bel))))
              rename_i hHeld
              clear hHeld SS
              have q5 := hide' q5'
              clear q5' S2 d0 d1 d2 d3 d4 d5 x0 x1 yy0 yy1
              have K := hide' (q5.out.mono (A := k + 1) (C := k + 1) (by omega) (by omega))
              clear q5
              go_wp2
              exact ⟨⟨k + 1, by first | rfl | (rw [ek.out]), Hlt.out, K.out⟩, by first | exact Hms.out | (rw [ek.out]; exact Hms.out)⟩
            · have g2' : ¬ ((k : Int) < (l2.length : Int)) := by omega
              obtain ⟨z1, hz1⟩ : ∃ z, l1[k]? = some z := ⟨_, List.getElem?_eq_getElem g1⟩
              obtain ⟨b1, off1, ea1, hc1⟩ := act_cells HI1.out hz1
              have HC1 := hide' hc1
              have hbel := hT.bel
              clear hT hlt hk HNN g1 g2 hz1 hc1
              subst ea1
              obtain ⟨d0, d1, d2, d3, d4, d5⟩ := HC1.out _ hbel
              have S1 := hide' ((HT.out.below (Below.refl _ _).drew).one (by simp) (by have := Hk2.out; omega) z1)
              go_wp2_with fail
              go_region_held3 (fun w' => w'.cell? ⟨bx, 0, none⟩ = some (.pointer (some ⟨c, 0, none⟩)) ∧ w'.cell? ⟨bx, 1, none⟩ = some (.pointer (some ⟨r, 0, none⟩)) ∧ w'.cell? ⟨b1, off1 + k * 6, none⟩ = some (.int .i64 z1.d) ∧ w'.cell? ⟨b1, off1 + k * 6 + 1, none⟩ = some (.int .i64 z1.tag) ∧ w'.cell? ⟨b1, off1 + k * 6 + 2, none⟩ = some (.int .i64 z1.t.s) ∧ w'.cell? ⟨b1, off1 + k * 6 + 3, none⟩ = some (.int .i64 z1.t.o) ∧ w'.cell? ⟨b1, off1 + k * 6 + 4, none⟩ = some (.int .i64 z1.t.a) ∧ w'.cell? ⟨b1, off1 + k * 6 + 5, none⟩ = some (.bool z1.al)) (first | exact ⟨x0, x1, d0, d1, d2, d3, d4, d5⟩ | exact SS) ((go_at_call 16; refine S1.out.mono ?_; rintro e w51 ⟨rfl, q5'⟩; have SS := And.intro q5'.bx.c0 (And.intro q5'.bx.c1 (HC1.out _ q5'.bel))))
              rename_i hHeld
              clear hHeld SS
              have q5 := hide' q5'
              clear q5' S1 d0 d1 d2 d3 d4 d5 x0 x1 yy0 yy1
              have K := hide' (q5.out.mono (A := k + 1) (C := k + 1) (by omega) (by omega))
              have yy1 := q5.out.by'.c1
              clear q5
              go_wp2
              exact ⟨⟨k + 1, by first | rfl | (rw [ek.out]), Hlt.out, K.out⟩, by first | exact Hms.out | (rw [ek.out]; exact Hms.out)⟩
          · have g1' : ¬ ((k : Int) < (l1.length : Int)) := by omega
            by_cases g2 : k < l2.length
            · have g2' : (k : Int) < (l2.length : Int) := by omega
              obtain ⟨z2, hz2⟩ : ∃ z, l2[k]? = some z := ⟨_, List.getElem?_eq_getElem g2⟩
              obtain ⟨b2, off2, ea2, hc2⟩ := act_cells HI2.out hz2
              have HC2 := hide' hc2
              have hbel := hT.bel
              clear hT hlt hk HNN g1 g2 hz2 hc2
              subst ea2
              obtain ⟨d0, d1, d2, d3, d4, d5⟩ := HC2.out _ hbel
              have S2 := hide' ((HT.out.below (Below.refl _ _).drew).two (by simp) (by have := Hk2.out; omega) z2)
              go_wp2_with fail
              go_region_held3 (fun w' => w'.cell? ⟨by0, 0, none⟩ = some (.pointer (some ⟨c', 0, none⟩)) ∧ w'.cell? ⟨by0, 1, none⟩ = some (.pointer (some ⟨r', 0, none⟩)) ∧ w'.cell? ⟨b2, off2 + k * 6, none⟩ = some (.int .i64 z2.d) ∧ w'.cell? ⟨b2, off2 + k * 6 + 1, none⟩ = some (.int .i64 z2.tag) ∧ w'.cell? ⟨b2, off2 + k * 6 + 2, none⟩ = some (.int .i64 z2.t.s) ∧ w'.cell? ⟨b2, off2 + k * 6 + 3, none⟩ = some (.int .i64 z2.t.o) ∧ w'.cell? ⟨b2, off2 + k * 6 + 4, none⟩ = some (.int .i64 z2.t.a) ∧ w'.cell? ⟨b2, off2 + k * 6 + 5, none⟩ = some (.bool z2.al)) (first | exact ⟨yy0, yy1, d0, d1, d2, d3, d4, d5⟩ | exact SS) ((go_at_call 16; refine S2.out.mono ?_; rintro e w52 ⟨rfl, q5'⟩; have SS := And.intro q5'.by'.c0 (And.intro q5'.by'.c1 (HC2.out _ q5'.bel))))
              rename_i hHeld
              clear hHeld SS
              have q5 := hide' q5'
              clear q5' S2 d0 d1 d2 d3 d4 d5 x0 x1 yy0 yy1
              have K := hide' (q5.out.mono (A := k + 1) (C := k + 1) (by omega) (by omega))
              clear q5
              go_wp2
              exact ⟨⟨k + 1, by first | rfl | (rw [ek.out]), Hlt.out, K.out⟩, by first | exact Hms.out | (rw [ek.out]; exact Hms.out)⟩
            · omega
        · have g1' : ¬ ((k : Int) < (l1.length : Int)) := by have := HN.out.1; omega
          have g2' : ¬ ((k : Int) < (l2.length : Int)) := by have := HN.out.1; omega
          have hK : k < 9007199254740980 := by have := HN.out.2; omega
          have HK := hide' hK
          have q0 := hide' hT
          clear hT hlt hk hK
          have S := hide' (q0.out.one (by simp) (by have := HK.out; omega) ⟨4, 0, ⟨0, 0, 0⟩, false⟩)
          go_wp2_with fail
          refine S.out.mono ?_
          rintro e v1 ⟨rfl, r1'⟩
          have r1 := hide' r1'
          clear r1' S x0 x1 yy0 yy1
          have x0 := r1.out.bx.c0
          have x1 := r1.out.bx.c1
          have yy0 := r1.out.by'.c0
          have yy1 := r1.out.by'.c1
          have S := hide' (r1.out.one (by simp) (by have := HK.out; omega) ⟨5, 0, ⟨0, 0, 0⟩, false⟩)
          go_wp2_with fail
          refine S.out.mono ?_
          rintro e v2 ⟨rfl, r2'⟩
          have r2 := hide' r2'
          clear r2' S x0 x1 yy0 yy1
          have x0 := r2.out.bx.c0
          have x1 := r2.out.bx.c1
          have yy0 := r2.out.by'.c0
          have yy1 := r2.out.by'.c1
          have S := hide' (r2.out.two (by simp) (by have := HK.out; omega) ⟨4, 0, ⟨0, 0, 0⟩, false⟩)
          go_wp2_with fail
          refine S.out.mono ?_
          rintro e v3 ⟨rfl, r3'⟩
          have r3 := hide' r3'
          clear r3' S x0 x1 yy0 yy1
          have x0 := r3.out.bx.c0
          have x1 := r3.out.bx.c1
          have yy0 := r3.out.by'.c0
          have yy1 := r3.out.by'.c1
          have S := hide' (r3.out.two (by simp) (by have := HK.out; omega) ⟨5, 0, ⟨0, 0, 0⟩, false⟩)
          go_wp2_with fail
          refine S.out.mono ?_
          rintro e v4 ⟨rfl, r4'⟩
          have r4 := hide' r4'
          clear r4' S x0 x1 yy0 yy1
          have x0 := r4.out.bx.c0
          have x1 := r4.out.bx.c1
          have yy0 := r4.out.by'.c0
          have yy1 := r4.out.by'.c1
          have HB := hide' r4.out.bel
          go_wp2
          go_ret
          exact ⟨rfl, HB.out⟩
end C
end Go.Proofs.Ytjmkofdnlhfaiaa
