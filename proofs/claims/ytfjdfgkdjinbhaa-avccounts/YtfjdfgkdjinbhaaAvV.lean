import Derived.Test.YtfjdfgkdjinbhaaAvO
set_option linter.unusedVariables false
set_option linter.unusedSimpArgs false
namespace Go.Proofs.Ytfjdfgkdjinbhaa
open Go.RowKit
namespace C
variable {w1 : World} {c g n v : Nat} {b : Nat → Nat} {xs : List Act} {k : Nat} {s : St} {w w' : World}
/-- a ratio of counts: what the law asks of it -/
def RatF (h A r : Nat) : Prop := (h = 0 ∧ r = 0) ∨ (0 < h ∧ h < A ∧ 0 < r ∧ r < Fp.one) ∨ (0 < h ∧ h = A ∧ r = Fp.one)
theorem ratF (h m : Nat) (hl : h + m < 9007199254740992) : RatF h (h + m) (rat h (h + m)) := by
  rcases Nat.eq_zero_or_pos h with e | e
  · subst e
    refine .inl ⟨rfl, ?_⟩
    unfold rat
    split
    · rfl
    · show (Ieee.double.div (FloatKind.f64.nearest ((0 : Nat) : Int)) (FloatKind.f64.nearest ((0 + m : Nat) : Int))).getD 0 = 0
      rw [Fp.div_zero (by omega) hl]; rfl
  · have hd := rat_div (a := h) (q := h + m) (by omega) hl (by omega)
    replace hd : Ieee.double.div (FloatKind.f64.nearest (h : Int)) (FloatKind.f64.nearest ((h + m : Nat) : Int)) = some (rat h (h + m)) := hd
    rcases Nat.eq_zero_or_pos m with e2 | e2
    · subst e2
      rw [Nat.add_zero, Fp.div_same e (by omega)] at hd
      exact .inr (.inr ⟨e, by omega, by rw [Nat.add_zero]; exact (Option.some.inj hd).symm⟩)
    · obtain ⟨r, h1, h2, h3⟩ := Fp.div_mid e (show h < h + m by omega) hl
      rw [h1] at hd
      rw [← Option.some.inj hd]
      exact .inr (.inl ⟨e, by omega, h2, h3⟩)
/-- Stats in a box -/
def Sb (x hi mi ev he : Nat) (w : World) : Prop := w.heap[x]? = some (.cells #[.int .i64 (hi : Nat), .int .i64 (mi : Nat), .int .i64 (ev : Nat), .int .i64 (he : Nat)] 31 (0, 0))
theorem Sb.below {x hi mi ev he : Nat} (h : Sb x hi mi ev he w) (q : Below w.heap.size w w') : Sb x hi mi ev he w' := (q.block x (lt_of_heap h)).trans h
theorem Sb.turn {x hi mi ev he B : Nat} (h : Sb x hi mi ev he w) (hc : Ca B c g n v b s w) (t : Turn (Own c g n b) w w') : Sb x hi mi ev he w' := (t.block x (lt_of_heap h) (hc.not h (by decide))).trans h
theorem lst_has {x : Act} (hx : xs[k]? = some x) (hd : x.d = 2) : ∃ y, lst xs x.t = some y := by
  have hl := (List.getElem?_eq_some_iff.1 hx).1
  have : (lst (xs.take (k + 1)) x.t).isSome = true := by rw [take_more hx, lst_add, if_pos (isP_of hd rfl)]; rfl
  have := lst_mono (xs.length - (k + 1)) this
  rw [show k + 1 + (xs.length - (k + 1)) = xs.length by omega, List.take_length] at this
  cases hq : lst xs x.t with
  | none => rw [hq] at this; cases this
  | some y => exact ⟨y, rfl⟩
/-- behind k questions of the last loop -/
structure P3 (w1 : World) (c g n v : Nat) (b : Nat → Nat) (xs : List Act) (s0 : St) (k : Nat) (s : St) (L : List Tr) (w : World) : Prop where
  ca : Ca w1.heap.size c g n v b s w
  bel : Below w1.heap.size w1 w
  tv : Tv n v s xs
  sd : ∀ t, Sd n v s t ↔ Sd n v s0 t
  cn : s.hi + s.mi ≤ xs.length + k
  tl : Tl n v s0 xs k L
variable {s0 : St} {L : List Tr}
theorem P3.below (h : P3 w1 c g n v b xs s0 k s L w) (q : Below w.heap.size w w') : P3 w1 c g n v b xs s0 k s L w' := ⟨h.ca.below q, h.bel.trans (q.mono h.bel.size), h.tv, h.sd, h.cn, h.tl⟩
theorem P3.same (h : P3 w1 c g n v b xs s0 k s L w) {x : Act} (hx : xs[k]? = some x) (hc : x.d = 2 → (lst (xs.take k) x.t).isSome = true ∨ ¬ Sd n v s0 x.t) : P3 w1 c g n v b xs s0 (k + 1) s L w := ⟨h.ca, h.bel, h.tv, h.sd, by have := h.cn; omega, h.tl.same hx hc⟩
theorem P3.asked (h : P3 w1 c g n v b xs s0 k s L w) {t : Tr} {z : Act} (hz : lst xs t = some z) : ((gta n v s z.tag t).2.1 = true ↔ Sd n v s0 t) ∧ ((gta n v s z.tag t).2.1 = true → (gta n v s z.tag t).1 = z.al) := by
  have := h.tv.ask h.ca.n1 hz
  exact ⟨by rw [this.1]; exact h.sd t, this.2.1⟩
theorem P3.step (h : P3 w1 c g n v b xs s0 k s L w) {t : Tr} {z : Act} {L' : List Tr} (hz : lst xs t = some z) (hc : Ca w1.heap.size c g n v b (gta n v s z.tag t).2.2 w') (ht : Turn (Own c g n b) w w') (hl : Tl n v s0 xs (k + 1) L') : P3 w1 c g n v b xs s0 (k + 1) (gta n v s z.tag t).2.2 L' w' := by
  have := h.tv.ask h.ca.n1 hz
  refine ⟨hc, Own.below h.ca h.bel ht, h.tv.get z.tag t, fun t' => by rw [this.2.2]; exact h.sd t', ?_, hl⟩
  have := (gta_cnt (n := n) (v := v) (s := s) z.tag t).1
  have := h.cn
  omega
theorem P3.fin (h : P3 w1 c g n v b xs s0 k s L w) (hk : xs.length ≤ k) (tv : Tv n v s0 xs) : L.length = hsm s0.f v n := h.tl.fin hk tv h.ca.n1
set_option maxRecDepth 100000 in
set_option maxHeartbeats 4000000 in
theorem counts_walk (z0 z1 : Int) (a : Option Addr) (cap : Nat) (xs : List Act) (w : World) (hI : Acs w a xs) (hl : xs.length ≤ 3000000000000) :
    Calls Try.prog 7 #[.int .i64 z0, .int .i64 z1, .slice a xs.length cap] w fun e w' => e = .returned (.bool true) ∧ Below w.heap.size w w' := by
  have HA := hide' (alive_any w)
  have HW0 := hide' (fun w => which_any z0 256 w (by omega) (by omega))
  have HW1 := hide' (fun w => which_any z1 8 w (by omega) (by omega))
  have HI := hide' hI
  have HL := hide' hl
  clear hI hl
  go_enter Try.func7, Try.ntmps7
  go_wp2_with fail
  refine HA.out.mono ?_
  rintro e w1 ⟨rfl, b1⟩
  have HB1 := hide' b1
  clear HA b1
  go_wp2_with fail
  refine (HW0.out w1).mono ?_
  rintro e wa ⟨n, rfl, hn⟩
  have hwa := hn.out.2.2.2.symm
  subst hwa
  clear HW0
  go_wp2_with fail
  refine (HW1.out w1).mono ?_
  rintro e wa ⟨v, rfl, hv⟩
  have hwa := hv.out.2.2.2.symm
  subst hwa
  clear HW1
  have Hn : Hid (1 ≤ n ∧ n ≤ 256) := hide' ⟨hn.out.1, hn.out.2.1⟩
  have Hv : Hid (1 ≤ v ∧ v ≤ 8) := hide' ⟨hv.out.1, hv.out.2.1⟩
  have HN := hide' (new_any (n : Int) (v : Int) n v w1 rfl rfl Hn.out Hv.out)
  clear hn hv
  go_wp2_with fail
  refine HN.out.mono ?_
  rintro e w2 ⟨c, rfl, g, b, h2, b2⟩
  have HT : Hid (TS w1 c g n v b xs 0 st0 w2) := hide' (ts0 h2 b2)
  clear HN h2 b2
  go_wp2_with fail
  go_loopw [12, 13, 14] (fun y1 y2 i wx => ∃ k : Nat, k ≤ xs.length ∧ ∃ (s : St) (A : Nat), y1 = .int .i64 (s.hi : Nat) ∧ y2 = .int .i64 (A : Int) ∧ i = .int .i64 (k : Int) ∧ Hid (A = s.hi + s.mi) ∧ Hid (TS w1 c g n v b xs k s wx)) (fun _ _ i _ => xs.length - (intOf i).toNat)
  case atStart => exact ⟨0, by omega, st0, 0, rfl, rfl, rfl, hide' rfl, HT⟩
  case round =>
    clear HT
    obtain ⟨k, hk, s, A, rfl, rfl, rfl, HAs, HT⟩ := hrel
    by_cases hlt : k < xs.length
    · have hlt' : (k : Int) < (xs.length : Int) := by omega
      obtain ⟨x, hx⟩ : ∃ x, xs[k]? = some x := ⟨_, List.getElem?_eq_getElem hlt⟩
      have HX := hide' hx
      have HIr := hide' ((HI.out.below HB1.out).below HT.out.bel)
      obtain ⟨ab, off, rfl, hab, hra⟩ := HIr.out.at hx
      have HRa := hide' hra
      have Hw := hide' (wsucN k (by have := HL.out; omega))
      have Hw1 := hide' (wsucN s.hi (by have := HT.out.cn; have := HL.out; omega))
      have Hw2 := hide' (wsucN A (by have := HT.out.cn; have := HL.out; have := HAs.out; omega))
      clear hx hab hra
      go_wp2_with (with_reducible refine stay_load 45 _ rfl ?_)
      unfold Stay
      refine wpList_load_mid rfl 45 _ rfl ab (off + k * 6) rfl [.int .i64 x.d, .int .i64 x.tag, .int .i64 x.t.s, .int .i64 x.t.o, .int .i64 x.t.a, .bool x.al] _ HRa.out Try.underlying45 rfl (by kernel_rfl) ?_
      obtain ⟨w3, hw3⟩ : ∃ w3, w3 = wr.alloc (.cells #[.int .i64 x.d, .int .i64 x.tag, .int .i64 x.t.s, .int .i64 x.t.o, .int .i64 x.t.a, .bool x.al] 45) := ⟨_, rfl⟩
      have hb3 : Below wr.heap.size wr w3 := by rw [hw3]; exact (Below.refl _ _).alloc (Nat.le_refl _) _
      obtain ⟨xb, hxb⟩ : ∃ xb, xb = wr.heap.size := ⟨_, rfl⟩
      have H3 : Hid (TS w1 c g n v b xs k s w3 ∧ Ab xb x w3) := hide' ⟨HT.out.below hb3, by rw [hw3, hxb]; exact heap_alloc_new _ _⟩
      have HW3 := hide' hw3
      have Hxb := hide' hxb
      clear hw3 hb3 hxb HT HIr HRa
      go_wp2_with (with_reducible refine stay_load 3 _ rfl ?_)
      unfold Stay
      rw [← Hxb.out, ← HW3.out]
      clear HW3 Hxb
      have g0 := H3.out.2.c0
      have g1 := H3.out.2.c1
      have g2 := H3.out.2.c2
      have g3 := H3.out.2.c3
      have g4 := H3.out.2.c4
      have g5 := H3.out.2.c5
      by_cases hd2 : x.d = 2
      · have HP : Hid (Calls Try.prog 18 #[.pointer (some ⟨c, 0, none⟩), .int .i64 x.tag, .int .i64 x.t.s, .int .i64 x.t.o, .int .i64 x.t.a, .bool x.al] w3 fun e w' => e = .returned (.tuple #[]) ∧ Hid (TS w1 c g n v b xs (k + 1) (pta n v s x.tag x.t x.al) w') ∧ w'.cell? ⟨xb, 0, none⟩ = some (.int .i64 2)) := hide' ((put_any x.tag x.t x.al H3.out.1.ca (by have := H3.out.1.ce; have := HL.out; omega)).mono fun e w' ⟨he, hc, ht⟩ => ⟨he, hide' (H3.out.1.put HX.out hd2 hc ht), by
          rw [← hd2]
          exact (H3.out.2.turn H3.out.1.ca ht).c0⟩)
        have Hpc := hide' (pta_cnt (n := n) (v := v) (s := s) x.tag x.t x.al)
        rw [hd2] at g0
        clear H3
        go_wp2_with fail
        refine HP.out.mono ?_
        rintro e w4 ⟨rfl, H4, q0⟩
        clear HP g0 g1 g2 g3 g4 g5
        go_wp2
        exact ⟨⟨k + 1, by omega, _, A, by rw [Hpc.out.1], rfl, by rw [Hw.out], hide' (by rw [Hpc.out.1, Hpc.out.2.1]; exact HAs.out), H4⟩, msr' hlt _ (Hw.out.trans (by omega))⟩
      · by_cases hd1 : x.d = 1
        · have HG : Hid (Calls Try.prog 19 #[.pointer (some ⟨c, 0, none⟩), .int .i64 x.tag, .int .i64 x.t.s, .int .i64 x.t.o, .int .i64 x.t.a] w3 fun e w' => e = .returned (.tuple #[.bool (gta n v s x.tag x.t).1, .bool (gta n v s x.tag x.t).2.1]) ∧ Hid (TS w1 c g n v b xs (k + 1) (gta n v s x.tag x.t).2.2 w')) := hide' ((get_any x.tag x.t H3.out.1.ca (by have := H3.out.1.cn; have := HL.out; omega) (by have := H3.out.1.cn; have := HL.out; omega)).mono fun e w' ⟨he, hc, ht⟩ => ⟨he, hide' (H3.out.1.get HX.out hd2 x.tag x.t hc ht)⟩)
          have Hgc := hide' (gta_cnt (n := n) (v := v) (s := s) x.tag x.t)
          rw [hd1] at g0
          clear H3 hd2 hd1
          generalize gta n v s x.tag x.t = G at *
          obtain ⟨x1, is, s1⟩ := G
          simp only at HG Hgc
          cases is with
          | true =>
            go_wp2_with fail
            refine HG.out.mono ?_
            rintro e w4 ⟨rfl, H4⟩
            clear HG g0 g1 g2 g3 g4 g5
            go_wp2
            exact ⟨⟨k + 1, by omega, s1, A + 1, by rw [Hw1.out, Hgc.out.2.2]; rfl, by rw [Hw2.out], by rw [Hw.out], hide' (by rw [Hgc.out.1, HAs.out]), H4⟩, msr' hlt _ (Hw.out.trans (by omega))⟩
          | false =>
            go_wp2_with fail
            refine HG.out.mono ?_
            rintro e w4 ⟨rfl, H4⟩
            clear HG g0 g1 g2 g3 g4 g5
            go_wp2
            exact ⟨⟨k + 1, by omega, s1, A + 1, by rw [Hgc.out.2.2]; rfl, by rw [Hw2.out], by rw [Hw.out], hide' (by rw [Hgc.out.1, HAs.out]), H4⟩, msr' hlt _ (Hw.out.trans (by omega))⟩
        · clear g1 g2 g3 g4 g5
          have HE := hide' (H3.out.1.other HX.out hd2)
          clear H3
          go_wp2
          exact ⟨⟨k + 1, by omega, s, A, rfl, rfl, by rw [Hw.out], HAs, HE⟩, msr' hlt _ (Hw.out.trans (by omega))⟩
    · obtain rfl : k = xs.length := by omega
      have HS := hide' ((stats_any HT.out.ca).mono (fun e w' ⟨he, hb⟩ => And.intro he (HT.out.below hb)))
      have Hcn := hide' (And.intro HT.out.cn HT.out.ce)
      clear HT
      go_wp2_with fail
      refine HS.out.mono ?_
      rintro e w3 ⟨rfl, h3⟩
      obtain ⟨w4, hw4⟩ : ∃ w4, w4 = w3.alloc (.cells #[.int .i64 (s.hi : Nat), .int .i64 (s.mi : Nat), .int .i64 (s.ev : Nat), .int .i64 (hsm s.f v n : Nat)] 31) := ⟨_, rfl⟩
      obtain ⟨sb, hsb⟩ : ∃ sb, sb = w3.heap.size := ⟨_, rfl⟩
      have hb4 : Below w3.heap.size w3 w4 := by rw [hw4]; exact (Below.refl _ _).alloc (Nat.le_refl _) _
      have H4 : Hid (TS w1 c g n v b xs xs.length s w4 ∧ Sb sb s.hi s.mi s.ev (hsm s.f v n) w4) := hide' ⟨h3.below hb4, by rw [hw4, hsb]; exact heap_alloc_new _ _⟩
      have HR : Hid (Calls Try.prog 14 #[.pointer (some ⟨c, 0, none⟩)] w4 fun e w' => e = .returned (.float .f64 (rat s.hi (s.hi + s.mi))) ∧ Hid (TS w1 c g n v b xs xs.length s w' ∧ Sb sb s.hi s.mi s.ev (hsm s.f v n) w')) := hide' ((ratio_any H4.out.1.ca (by have := Hcn.out.1; have := HL.out; omega)).mono fun e w' ⟨he, m, hm⟩ => ⟨he, hide' (by rw [hm]; exact ⟨H4.out.1.below (below_drewN w4 m), H4.out.2⟩)⟩)
      have HW4 := hide' hw4
      have Hsb := hide' hsb
      clear h3 hb4 HS hw4 hsb H4
      go_wp2_with fail
      rw [← Hsb.out, ← HW4.out]
      refine HR.out.mono ?_
      rintro e w5 ⟨rfl, H5⟩
      clear HR HW4 Hsb
      have HX : Hid (∃ r, rat s.hi (s.hi + s.mi) = r ∧ RatF s.hi A r) := hide' ⟨_, rfl, by rw [HAs.out]; exact ratF s.hi s.mi (by have := Hcn.out.1; have := HL.out; omega)⟩
      obtain ⟨r, hr, hrf⟩ := HX.out
      rw [hr]
      have HRf := hide' hrf
      clear HX hr hrf
      have s0 : w5.cell? ⟨sb, 0, none⟩ = some (.int .i64 (s.hi : Nat)) := by rw [Lib.cell_of_heap H5.out.2]; rfl
      have s1 : w5.cell? ⟨sb, 1, none⟩ = some (.int .i64 (s.mi : Nat)) := by rw [Lib.cell_of_heap H5.out.2]; rfl
      have s2 : w5.cell? ⟨sb, 2, none⟩ = some (.int .i64 (s.ev : Nat)) := by rw [Lib.cell_of_heap H5.out.2]; rfl
      have s3 : w5.cell? ⟨sb, 3, none⟩ = some (.int .i64 (hsm s.f v n : Nat)) := by rw [Lib.cell_of_heap H5.out.2]; rfl
      have Ws : wrap64 ((s.hi : Int) + (s.mi : Int)) = (A : Int) := by rw [HAs.out]; exact wsum s.hi s.mi (by have := Hcn.out.1; have := HL.out; omega)
      obtain ⟨P, hP⟩ : ∃ P, P = n * v := ⟨_, rfl⟩
      have Wm : wrap64 ((n : Int) * (v : Int)) = (P : Int) := by
        have := Nat.mul_le_mul Hn.out.2 Hv.out.2
        rw [← Int.natCast_mul, hP]
        unfold wrap64
        omega
      obtain ⟨Q, hQ⟩ : ∃ Q, Q = hsm s.f v n := ⟨_, rfl⟩
      have hle : (Q : Int) ≤ (P : Int) := by have := hsm_le s.f v n; rw [hP, hQ]; omega
      have hle' : Q ≤ P := by have := hsm_le s.f v n; rw [hP, hQ]; omega
      rw [← hQ] at s3
      have HQ := hide' hQ
      clear hP hQ
      have HD0 : Hid (Value.bool (decide (P < Q) || decide (((s.ev : Nat) : Int) < 0)) = .bool false) := hide' (by rw [decide_eq_false (show ¬ P < Q by omega), decide_eq_false (show ¬ ((s.ev : Nat) : Int) < 0 by omega)]; rfl)
      have HD1 : Hid (∀ u : Bool, u = false → Value.bool (decide (P < Q) || decide (((s.ev : Nat) : Int) < 0) || u) = .bool false) := hide' (fun u hu => by rw [decide_eq_false (show ¬ P < Q by omega), decide_eq_false (show ¬ ((s.ev : Nat) : Int) < 0 by omega), hu]; rfl)
      go_upto_region 22 with fail
      go_cut [12, 13, 150] (fun y1 y2 q wx => y1 = .int .i64 (s.hi : Nat) ∧ y2 = .int .i64 (A : Int) ∧ q = .bool false ∧ wx = w5)
      case first =>
        rcases HRf.out with ⟨hh0, hr0⟩ | ⟨hh0, hhA, hr0, hr1⟩ | ⟨hh0, hhA, hr0⟩
        · have o0 : FloatKind.f64.format.order r 0 = some .eq := by rw [hr0]; kernel_rfl
          have o1 : FloatKind.f64.format.order r 4607182418800017408 = some .lt := by rw [hr0]; kernel_rfl
          rw [hh0] at s0 Ws
          have Ws2 : wrap64 ((s.mi : Nat) : Int) = (A : Int) := by
            rw [← Ws, show ((0 : Nat) : Int) + ((s.mi : Nat) : Int) = ((s.mi : Nat) : Int) by omega]
          have HH := hide' (show Value.int .i64 ((s.hi : Nat) : Int) = .int .i64 0 by rw [hh0]; rfl)
          rw [HH.out]
          rcases Nat.eq_zero_or_pos A with hA | hA
          · rw [hA] at Ws Ws2
            have HA := hide' (show Value.int .i64 (A : Int) = .int .i64 0 by rw [hA]; rfl)
            rw [HA.out]
            clear hr0 hh0 hA
            go_wp2
            go_meet
            exact ⟨HH.out.symm, HA.out.symm, HD0.out, rfl⟩
          · have hA1 : ¬ ((0 : Int) = (A : Int)) := by omega
            have hA2 : ¬ (0 = A) := by omega
            clear hr0 hh0
            go_wp2
            go_meet
            exact ⟨HH.out.symm, rfl, HD0.out, rfl⟩
        · have o0 : FloatKind.f64.format.order r 0 = some .gt := by
            rw [show FloatKind.f64.format = Ieee.double from rfl, Fp.order_rung (by unfold Fp.one at hr1; omega) (by omega), Nat.compare_eq_gt.2 hr0]
          have o1 : FloatKind.f64.format.order r 4607182418800017408 = some .lt := by
            rw [show FloatKind.f64.format = Ieee.double from rfl, Fp.order_rung (by unfold Fp.one at hr1; omega) (by omega), Nat.compare_eq_lt.2 (show r < 4607182418800017408 from hr1)]
          have hA1 : ¬ ((s.hi : Int) = (A : Int)) := by omega
          have hA2 : ¬ (s.hi = A) := by omega
          have hA3 : ¬ ((s.hi : Int) = 0) := by omega
          have hA4 : ¬ (s.hi = 0) := by omega
          have HU : Hid ((((s.hi : Nat) : Int) == 0) = false) := hide' (by simpa using hA3)
          clear hr0 hr1 hh0 hhA
          go_wp2
          go_meet
          exact ⟨rfl, rfl, HD1.out _ HU.out, rfl⟩
        · have o0 : FloatKind.f64.format.order r 0 = some .gt := by rw [hr0]; kernel_rfl
          have o1 : FloatKind.f64.format.order r 4607182418800017408 = some .eq := by rw [hr0]; kernel_rfl
          rw [hhA] at s0 Ws
          have HH := hide' (show Value.int .i64 ((s.hi : Nat) : Int) = .int .i64 (A : Int) by rw [hhA])
          rw [HH.out]
          have hA3 : ¬ ((A : Int) = 0) := by omega
          have hA4 : ¬ (A = 0) := by omega
          have hA5 : (0 : Int) < (A : Int) := by omega
          have hA6 : 0 < A := by omega
          have HU : Hid (((A : Int) == 0) = false) := hide' (by simpa using hA3)
          clear hr0 hh0 hhA
          go_wp2
          go_meet
          exact ⟨HH.out.symm, rfl, HD1.out _ HU.out, rfl⟩
      case rest => as_aux_lemma =>
        obtain ⟨rfl, rfl, rfl, hwc⟩ := hcut
        subst hwc
        have HTv0 : Hid (Tv n v s xs) := hide' (by have := H5.out.1.tv; rw [List.take_length] at this; exact this)
        have H6 : Hid (P3 w1 c g n v b xs s 0 s [] wc ∧ Sb sb s.hi s.mi s.ev (hsm s.f v n) wc) := hide' ⟨⟨H5.out.1.ca, H5.out.1.bel, by have := H5.out.1.tv; rw [List.take_length] at this; exact this, fun _ => Iff.rfl, by have := H5.out.1.cn; omega, tl0⟩, H5.out.2⟩
        clear s0 s1 s2 s3 Ws Wm hle hle' HRf H5 HAs
        go_wp2_with fail
        go_loopw [20, 21] (fun y i wx => ∃ k : Nat, k ≤ xs.length ∧ ∃ (s3 : St) (L : List Tr) (Ln : Nat), y = .int .i64 (Ln : Int) ∧ i = .int .i64 (k : Int) ∧ Hid (Ln = L.length ∧ Ln ≤ k) ∧ Hid (P3 w1 c g n v b xs s k s3 L wx ∧ Sb sb s.hi s.mi s.ev (hsm s.f v n) wx)) (fun _ i _ => xs.length - (intOf i).toNat)
        case atStart => exact ⟨0, by omega, s, [], 0, rfl, rfl, hide' ⟨rfl, Nat.le_refl _⟩, H6⟩
        case round =>
          clear H6
          obtain ⟨k, hk, s3, L, Ln, rfl, rfl, HLn, HT⟩ := hrel
          by_cases hlt : k < xs.length
          · have hlt' : (k : Int) < (xs.length : Int) := by omega
            obtain ⟨x, hx⟩ : ∃ x, xs[k]? = some x := ⟨_, List.getElem?_eq_getElem hlt⟩
            have HX := hide' hx
            have HIr := hide' ((HI.out.below HB1.out).below HT.out.1.bel)
            obtain ⟨ab, off, rfl, hab, hra⟩ := HIr.out.at hx
            have HRa := hide' hra
            have Hw := hide' (wsucN k (by have := HL.out; omega))
            have Hwl := hide' (wsucN Ln (by have := HLn.out.2; have := HL.out; omega))
            clear hx hab hra
            go_wp2_with (with_reducible refine stay_load 45 _ rfl ?_)
            unfold Stay
            refine wpList_load_mid rfl 45 _ rfl ab (off + k * 6) rfl [.int .i64 x.d, .int .i64 x.tag, .int .i64 x.t.s, .int .i64 x.t.o, .int .i64 x.t.a, .bool x.al] _ HRa.out Try.underlying45 rfl (by kernel_rfl) ?_
            obtain ⟨w3, hw3⟩ : ∃ w3, w3 = wr.alloc (.cells #[.int .i64 x.d, .int .i64 x.tag, .int .i64 x.t.s, .int .i64 x.t.o, .int .i64 x.t.a, .bool x.al] 45) := ⟨_, rfl⟩
            have hb3 : Below wr.heap.size wr w3 := by rw [hw3]; exact (Below.refl _ _).alloc (Nat.le_refl _) _
            obtain ⟨xb, hxb⟩ : ∃ xb, xb = wr.heap.size := ⟨_, rfl⟩
            have H3 : Hid (Below wr.heap.size wr w3 ∧ Ab xb x w3) := hide' ⟨hb3, by rw [hw3, hxb]; exact heap_alloc_new _ _⟩
            obtain ⟨z, hz⟩ : ∃ z, z = lsv xs x.t := ⟨_, rfl⟩
            obtain ⟨th, hth⟩ : ∃ th, th = (lst xs x.t).isSome := ⟨_, rfl⟩
            have HC : Hid (Calls Try.prog 20 #[.slice (some ⟨ab, off, none⟩) xs.length cap, .agg #[.int .i64 x.d, .int .i64 x.tag, .int .i64 x.t.s, .int .i64 x.t.o, .int .i64 x.t.a, .bool x.al]] w3 fun e W' => e = .returned (.tuple #[.agg #[.int .i64 z.d, .int .i64 z.tag, .int .i64 z.t.s, .int .i64 z.t.o, .int .i64 z.t.a, .bool z.al], .bool th]) ∧ Hid (Below w3.heap.size w3 W')) := hide' (by
              have := last_any (w := w3) (some ⟨ab, off, none⟩) cap xs x (HIr.out.below hb3) (by have := HL.out; omega)
              rw [← hz, ← hth] at this
              exact this.mono fun e W' ⟨he, hb⟩ => ⟨he, hide' hb⟩)
            have HW3 := hide' hw3
            have Hxb := hide' hxb
            have HZ := hide' hz
            clear hw3 hb3 hxb HRa hz hth
            go_wp2_with (with_reducible refine stay_load 45 _ rfl ?_)
            unfold Stay
            rw [← Hxb.out, ← HW3.out]
            clear HW3 Hxb
            refine wpList_load_row rfl 45 _ rfl xb rfl 45 #[.int .i64 x.d, .int .i64 x.tag, .int .i64 x.t.s, .int .i64 x.t.o, .int .i64 x.t.a, .bool x.al] (0, 0) _ H3.out.2 Try.underlying45 rfl (by kernel_rfl) ?_
            go_wp2_with fail
            refine HC.out.mono ?_
            rintro e w4 ⟨rfl, b4⟩
            obtain ⟨w5, hw5⟩ : ∃ w5, w5 = w4.alloc (.cells #[.int .i64 z.d, .int .i64 z.tag, .int .i64 z.t.s, .int .i64 z.t.o, .int .i64 z.t.a, .bool z.al] 45) := ⟨_, rfl⟩
            obtain ⟨zb, hzb⟩ : ∃ zb, zb = w4.heap.size := ⟨_, rfl⟩
            have hb5 : Below w4.heap.size w4 w5 := by rw [hw5]; exact (Below.refl _ _).alloc (Nat.le_refl _) _
            have hb35 : Below w3.heap.size w3 w5 := b4.out.trans (hb5.mono b4.out.size)
            have hbr5 : Below wr.heap.size wr w5 := H3.out.1.trans (hb35.mono H3.out.1.size)
            have H5 : Hid (P3 w1 c g n v b xs s k s3 L w5 ∧ Sb sb s.hi s.mi s.ev (hsm s.f v n) w5 ∧ Ab xb x w5 ∧ Ab zb z w5 ∧ Acs w5 (some ⟨ab, off, none⟩) xs) := hide' ⟨HT.out.1.below hbr5, Sb.below HT.out.2 hbr5, H3.out.2.below hb35, by rw [hw5, hzb]; exact heap_alloc_new _ _, HIr.out.below hbr5⟩
            have HW5 := hide' hw5
            have Hzb := hide' hzb
            clear hw5 hzb hb5 hb35 hbr5 b4 HC H3 HT HIr
            go_wp2_with (with_reducible refine stay_load 3 _ rfl ?_)
            unfold Stay
            rw [← Hzb.out, ← HW5.out]
            clear HW5 Hzb
            have g0 := H5.out.2.2.1.c0
            by_cases hd2 : x.d = 2
            · obtain ⟨y, hy⟩ := lst_has HX.out hd2
              have ezy : z = y := by rw [HZ.out]; unfold lsv; rw [hy]; rfl
              subst ezy
              have HY := hide' hy
              rw [hd2] at g0
              have HFi : Hid (Calls Try.prog 21 #[.slice (some ⟨ab, off, none⟩) xs.length cap, .int .i64 (k : Int)] w5 fun e w' => e = .returned (.bool (lst (xs.take k) x.t).isNone) ∧ Hid (P3 w1 c g n v b xs s k s3 L w' ∧ Sb sb s.hi s.mi s.ev (hsm s.f v n) w' ∧ Ab xb x w' ∧ Ab zb z w')) := hide' ((first_any (some ⟨ab, off, none⟩) cap xs k x H5.out.2.2.2.2 (by have := HL.out; omega) HX.out).mono fun e w' ⟨he, hb⟩ => ⟨he, hide' ⟨H5.out.1.below hb, Sb.below H5.out.2.1 hb, H5.out.2.2.1.below hb, H5.out.2.2.2.1.below hb⟩⟩)
              clear hy H5 HZ
              cases hf : (lst (xs.take k) x.t).isNone with
              | false =>
                rw [hf] at HFi
                have HNo : Hid ((lst (xs.take k) x.t).isSome = true) := hide' (by cases hq : lst (xs.take k) x.t with | none => rw [hq] at hf; cases hf | some y => rfl)
                clear hf
                go_wp2_with fail
                refine HFi.out.mono ?_
                rintro e w6 ⟨rfl, H6⟩
                have H7 : Hid (P3 w1 c g n v b xs s (k + 1) s3 L w6 ∧ Sb sb s.hi s.mi s.ev (hsm s.f v n) w6) := hide' ⟨H6.out.1.same HX.out (fun _ => .inl HNo.out), H6.out.2.1⟩
                clear HFi H6
                go_wp2
                exact ⟨⟨k + 1, by omega, s3, L, Ln, rfl, by rw [Hw.out], hide' ⟨HLn.out.1, by have := HLn.out.2; omega⟩, H7⟩, msr' hlt _ (Hw.out.trans (by omega))⟩
              | true =>
                rw [hf] at HFi
                have HNo : Hid (lst (xs.take k) x.t = none) := hide' (by cases hq : lst (xs.take k) x.t with | none => rfl | some y => rw [hq] at hf; cases hf)
                clear hf
                go_wp2_with fail
                refine HFi.out.mono ?_
                rintro e w6 ⟨rfl, H6⟩
                have p1 := H6.out.2.2.2.c1
                have p5 := H6.out.2.2.2.c5
                have p2 := H6.out.2.2.1.c2
                have p3 := H6.out.2.2.1.c3
                have p4 := H6.out.2.2.1.c4
                have HG : Hid (Calls Try.prog 19 #[.pointer (some ⟨c, 0, none⟩), .int .i64 z.tag, .int .i64 x.t.s, .int .i64 x.t.o, .int .i64 x.t.a] w6 fun e w' => e = .returned (.tuple #[.bool (gta n v s3 z.tag x.t).1, .bool (gta n v s3 z.tag x.t).2.1]) ∧ Hid ((∀ L', Tl n v s xs (k + 1) L' → P3 w1 c g n v b xs s (k + 1) (gta n v s3 z.tag x.t).2.2 L' w') ∧ Sb sb s.hi s.mi s.ev (hsm s.f v n) w') ∧ w'.cell? ⟨zb, 5, none⟩ = some (.bool z.al)) := hide' ((get_any z.tag x.t H6.out.1.ca (by have := H6.out.1.cn; have := HL.out; omega) (by have := H6.out.1.cn; have := HL.out; omega)).mono fun e w' ⟨he, hc, ht⟩ => ⟨he, hide' ⟨fun L' hl => H6.out.1.step HY.out hc ht hl, Sb.turn H6.out.2.1 H6.out.1.ca ht⟩, (H6.out.2.2.2.turn H6.out.1.ca ht).c5⟩)
                have HTl := hide' H6.out.1.tl
                have HK := hide' (H6.out.1.asked HY.out)
                clear HFi H6
                generalize gta n v s3 z.tag x.t = G at *
                obtain ⟨x1, is, s4⟩ := G
                simp only at HG HK
                cases is with
                | true =>
                  have hx1 := HK.out.2 rfl
                  have hsd := hide' (HK.out.1.1 rfl)
                  rw [hx1] at HG
                  have hzz : (z.al == z.al) = true := by simp
                  clear hx1 HK
                  go_wp2_with fail
                  refine HG.out.mono ?_
                  rintro e w7 ⟨rfl, H7, r5⟩
                  have H8 : Hid (P3 w1 c g n v b xs s (k + 1) s4 (x.t :: L) w7 ∧ Sb sb s.hi s.mi s.ev (hsm s.f v n) w7) := hide' ⟨H7.out.1 _ (HTl.out.more HX.out hd2 HNo.out hsd.out), H7.out.2⟩
                  clear HG H7 p1 p2 p3 p4 p5
                  go_wp2
                  exact ⟨⟨k + 1, by omega, s4, x.t :: L, Ln + 1, by rw [Hwl.out], by rw [Hw.out], hide' ⟨by rw [List.length_cons, HLn.out.1], by have := HLn.out.2; omega⟩, H8⟩, msr' hlt _ (Hw.out.trans (by omega))⟩
                | false =>
                  have hsd : Hid (¬ Sd n v s x.t) := hide' (fun q => absurd (HK.out.1.2 q) (by decide))
                  clear HK
                  go_wp2_with fail
                  refine HG.out.mono ?_
                  rintro e w7 ⟨rfl, H7, r5⟩
                  have H8 : Hid (P3 w1 c g n v b xs s (k + 1) s4 L w7 ∧ Sb sb s.hi s.mi s.ev (hsm s.f v n) w7) := hide' ⟨H7.out.1 _ (HTl.out.same HX.out (fun _ => .inr hsd.out)), H7.out.2⟩
                  clear HG H7 p1 p2 p3 p4 p5
                  go_wp2
                  exact ⟨⟨k + 1, by omega, s4, L, Ln, rfl, by rw [Hw.out], hide' ⟨HLn.out.1, by have := HLn.out.2; omega⟩, H8⟩, msr' hlt _ (Hw.out.trans (by omega))⟩
            · have H7 : Hid (P3 w1 c g n v b xs s (k + 1) s3 L w5 ∧ Sb sb s.hi s.mi s.ev (hsm s.f v n) w5) := hide' ⟨H5.out.1.same HX.out (fun q => absurd q hd2), H5.out.2.1⟩
              clear H5 HZ
              go_wp2
              exact ⟨⟨k + 1, by omega, s3, L, Ln, rfl, by rw [Hw.out], hide' ⟨HLn.out.1, by have := HLn.out.2; omega⟩, H7⟩, msr' hlt _ (Hw.out.trans (by omega))⟩
          · obtain rfl : k = xs.length := by omega
            have s3' : wr.cell? ⟨sb, 3, none⟩ = some (.int .i64 (Ln : Int)) := by
              rw [Lib.cell_of_heap HT.out.2, HLn.out.1, HT.out.1.fin (Nat.le_refl _) HTv0.out]
              rfl
            have HE := hide' (HB1.out.trans (HT.out.1.bel.mono HB1.out.size))
            clear HT HLn
            go_wp2
            go_ret
            exact ⟨rfl, HE.out⟩
end C
end Go.Proofs.Ytfjdfgkdjinbhaa
