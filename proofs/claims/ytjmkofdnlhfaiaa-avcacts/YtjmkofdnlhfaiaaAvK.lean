import Derived.Test.YtjmkofdnlhfaiaaAvJ
import Derived.Deep.CutBlock
import Derived.Deep.DeepCutAuto
set_option linter.unusedVariables false
set_option linter.unusedSimpArgs false
namespace Go.Proofs.Ytjmkofdnlhfaiaa
open Go.RowKit
namespace C
/-- behind k calls of the script -/
structure TS (w1 : World) (c g n v : Nat) (b : Nat → Nat) (xs : List Act) (k : Nat) (s : St) (w : World) : Prop where
  ca : Ca w1.heap.size c g n v b s w
  bel : Below w1.heap.size w1 w
  tv : Tv n v s (xs.take k)
  cn : s.hi + s.mi ≤ k
  ce : s.ev ≤ k
  fr : ∀ x, 0 < k → xs[k - 1]? = some x → x.d = 2 → ∃ j d, j < v ∧ s.f (spt n x.t) j = some d ∧ d.t = x.t
variable {w1 : World} {c g n v : Nat} {b : Nat → Nat} {xs : List Act} {k : Nat} {s : St} {w w' : World}
theorem TS.below (h : TS w1 c g n v b xs k s w) (q : Below w.heap.size w w') : TS w1 c g n v b xs k s w' := ⟨h.ca.below q, h.bel.trans (q.mono h.bel.size), h.tv, h.cn, h.ce, h.fr⟩
theorem take_more {x : Act} (hx : xs[k]? = some x) : xs.take (k + 1) = xs.take k ++ [x] := by
  have hl := (List.getElem?_eq_some_iff.1 hx).1
  rw [List.take_succ_eq_append_getElem hl]
  rw [List.getElem?_eq_getElem hl] at hx
  rw [Option.some.inj hx]
theorem TS.other (h : TS w1 c g n v b xs k s w) {x : Act} (hx : xs[k]? = some x) (h2 : x.d ≠ 2) : TS w1 c g n v b xs (k + 1) s w :=
  ⟨h.ca, h.bel, by rw [take_more hx]; exact h.tv.more h2, by have := h.cn; omega, by have := h.ce; omega, fun y _ hy hd => by rw [Nat.add_sub_cancel, hx] at hy; cases hy; exact absurd hd h2⟩
theorem TS.get (h : TS w1 c g n v b xs k s w) {x : Act} (hx : xs[k]? = some x) (h2 : x.d ≠ 2) (tag : Int) (t : Tr) (hc : Ca w1.heap.size c g n v b (gta n v s tag t).2.2 w') (ht : Turn (Own c g n b) w w') : TS w1 c g n v b xs (k + 1) (gta n v s tag t).2.2 w' :=
  ⟨hc, Own.below h.ca h.bel ht, by rw [take_more hx]; exact (h.tv.get tag t).more h2, by have := h.cn; have := (gta_cnt (n := n) (v := v) (s := s) tag t).1; omega, by have := h.ce; have := (gta_cnt (n := n) (v := v) (s := s) tag t).2.1; omega, fun y _ hy hd => by rw [Nat.add_sub_cancel, hx] at hy; cases hy; exact absurd hd h2⟩
theorem TS.put (h : TS w1 c g n v b xs k s w) {x : Act} (hx : xs[k]? = some x) (h2 : x.d = 2) (hc : Ca w1.heap.size c g n v b (pta n v s x.tag x.t x.al) w') (ht : Turn (Own c g n b) w w') : TS w1 c g n v b xs (k + 1) (pta n v s x.tag x.t x.al) w' := by
  have hp := h.tv.put h.ca.n1 h.ca.v1 h.ca.hh h2
  refine ⟨hc, Own.below h.ca h.bel ht, by rw [take_more hx]; exact hp.1, ?_, ?_, fun y _ hy hd => ?_⟩
  · have := h.cn; have := pta_cnt (n := n) (v := v) (s := s) x.tag x.t x.al; omega
  · have := h.ce; have := pta_cnt (n := n) (v := v) (s := s) x.tag x.t x.al; omega
  · rw [Nat.add_sub_cancel, hx] at hy
    cases hy
    exact hp.2
theorem Ab.turn {xb : Nat} {x : Act} (h : Ab xb x w) {B : Nat} (hc : Ca B c g n v b s w) (t : Turn (Own c g n b) w w') : Ab xb x w' := (t.block xb (lt_of_heap h) (hc.not h (by decide))).trans h
theorem ts0 (hc : Ca w1.heap.size c g n v b st0 w) (hb : Below w1.heap.size w1 w) : TS w1 c g n v b xs 0 st0 w := ⟨hc, hb, by rw [List.take_zero]; exact tv0, Nat.le_refl _, Nat.le_refl _, fun _ h => by omega⟩
theorem fof45 : Try.prog.underlying 45 = some (.struct (Try.prog.fieldsOf 45)) := by kernel_rfl
theorem hld45 : Try.prog.stoodInHeld 45 = false := by kernel_rfl
theorem grd45 : Try.prog.eqGuardType Try.prog.depth 45 = false := by kernel_rfl
set_option maxRecDepth 100000 in
theorem flds45 (d : Nat) (x y : Act) (w : World) : (Op.eqFields (d + 1) #[.int .i64 x.d, .int .i64 x.tag, .int .i64 x.t.s, .int .i64 x.t.o, .int .i64 x.t.a, .bool x.al] #[.int .i64 y.d, .int .i64 y.tag, .int .i64 y.t.s, .int .i64 y.t.o, .int .i64 y.t.a, .bool y.al] (Try.prog.fieldsOf 45).toList).run Try.prog w = .ok (decide (x.d = y.d ∧ x.tag = y.tag ∧ x.t.s = y.t.s ∧ x.t.o = y.t.o ∧ x.t.a = y.t.a ∧ x.al = y.al)) w := by
  have h1 : (Try.prog.fieldsOf 45) = (match Try.prog.underlying 45 with | some (.struct fs) => fs | _ => #[]) := rfl
  rw [h1, Try.underlying45]
  simp [Op.eqFields, go_sem, Try.underlying3, Try.underlying4]
  by_cases h1 : x.d = y.d
  · by_cases h2 : x.tag = y.tag
    · by_cases h3 : x.t.s = y.t.s
      · by_cases h4 : x.t.o = y.t.o
        · by_cases h5 : x.t.a = y.t.a
          · by_cases h6 : x.al = y.al
            · simp [h1, h2, h3, h4, h5, h6]
            · simp [h1, h2, h3, h4, h5, h6]
          · simp [h1, h2, h3, h4, h5]
        · simp [h1, h2, h3, h4]
      · simp [h1, h2, h3]
    · simp [h1, h2]
  · simp [h1]
theorem struct45 (x y : Act) (w : World) : (binOp .eql 45 (.agg #[.int .i64 x.d, .int .i64 x.tag, .int .i64 x.t.s, .int .i64 x.t.o, .int .i64 x.t.a, .bool x.al]) (.agg #[.int .i64 y.d, .int .i64 y.tag, .int .i64 y.t.s, .int .i64 y.t.o, .int .i64 y.t.a, .bool y.al])).run Try.prog w = .ok (.bool (decide (x.d = y.d ∧ x.tag = y.tag ∧ x.t.s = y.t.s ∧ x.t.o = y.t.o ∧ x.t.a = y.t.a ∧ x.al = y.al))) w := by
  rw [run_eql_struct]
  have := run_equalIn_agg (P := Try.prog) w 9999 45 #[.int .i64 x.d, .int .i64 x.tag, .int .i64 x.t.s, .int .i64 x.t.o, .int .i64 x.t.a, .bool x.al] #[.int .i64 y.d, .int .i64 y.tag, .int .i64 y.t.s, .int .i64 y.t.o, .int .i64 y.t.a, .bool y.al] fof45 hld45
  rw [show (10000 : Nat) = 9999 + 1 from rfl, this, show (9999 : Nat) = 9998 + 1 from rfl, flds45]
  rfl
/-- what a Get and the last Put have to do with each other -/
theorem true_pure {x z : Act} {th : Bool} (hlt : k < xs.length) (tv : Tv n v s (xs.take k)) (fr : ∀ x, 0 < k → xs[k - 1]? = some x → x.d = 2 → ∃ j d, j < v ∧ s.f (spt n x.t) j = some d ∧ d.t = x.t) (hn : 1 ≤ n) (hz : z = lsv (xs.take k) x.t) (hth : th = (lst (xs.take k) x.t).isSome) :
    ((gta n v s x.tag x.t).2.1 = true → th = true ∧ z.tag = x.tag ∧ z.al = (gta n v s x.tag x.t).1) ∧ ((gta n v s x.tag x.t).2.1 = false → (gta n v s x.tag x.t).1 = false) ∧
    (∀ p, 0 < k → xs[k - 1]? = some p → p.d = 2 → th = true → (z.d = p.d ∧ z.tag = p.tag ∧ z.t.s = p.t.s ∧ z.t.o = p.t.o ∧ z.t.a = p.t.a ∧ z.al = p.al) → z.tag = x.tag → (gta n v s x.tag x.t).2.1 = true) := by
  refine ⟨fun h => ?_, gta_miss, fun p h0 hp hd ht he htag => ?_⟩
  · obtain ⟨y, h1, h2, h3⟩ := tv.hit hn h
    unfold lsv at hz
    rw [h1] at hz hth
    subst hz
    exact ⟨hth, h2, h3⟩
  · cases hl : lst (xs.take k) x.t with
    | none => rw [hl] at hth; rw [hth] at ht; cases ht
    | some y =>
      unfold lsv at hz
      rw [hl] at hz
      subst hz
      obtain ⟨e1, e2, _⟩ := lst_is _ _ rfl _ hl
      obtain ⟨j, d, hj, hd1, hd2⟩ := fr p h0 hp hd
      have ept : p.t = x.t := by rw [← e2]; exact (Tr.ext' he.2.2.1 he.2.2.2.1 he.2.2.2.2.1).symm
      rw [ept] at hd1 hd2
      rw [← htag]
      exact tv.there hn hj hd1 hd2 hl
theorem wm1 (m : Nat) (h : m < 4611686018427387904) : wrap64 (((m + 1 : Nat) : Int) - 1) = (m : Int) := by unfold wrap64; omega
set_option maxRecDepth 100000 in
set_option maxHeartbeats 4000000 in
theorem true_walk (z0 z1 : Int) (a : Option Addr) (cap : Nat) (xs : List Act) (w : World) (hI : Acs w a xs) (hl : xs.length ≤ 3000000000000) (hcap : xs.length ≤ cap) :
    Calls Try.prog 6 #[.int .i64 z0, .int .i64 z1, .slice a xs.length cap] w fun e w' => e = .returned (.bool true) ∧ Below w.heap.size w w' := by
  have HA := hide' (alive_any w)
  have HW0 := hide' (fun w => which_any z0 256 w (by omega) (by omega))
  have HW1 := hide' (fun w => which_any z1 8 w (by omega) (by omega))
  have HI := hide' hI
  have HL := hide' hl
  have HCap := hide' hcap
  clear hI hl hcap
  go_enter Try.func6, Try.ntmps6
  go_wp2_with fail
  refine HA.out.mono ?_
  rintro e w1 ⟨rfl, b1⟩
  have HB1 := hide' b1
  clear HA b1
  go_wp2_with fail
  refine (HW0.out w1).mono ?_
  rintro e wa ⟨n, rfl, hn⟩
  have hwa := hn.out.2.2.2.symm
  subst hwa
  clear HW0
  go_wp2_with fail
  refine (HW1.out w1).mono ?_
  rintro e wa ⟨v, rfl, hv⟩
  have hwa := hv.out.2.2.2.symm
  subst hwa
  clear HW1
  have HN := hide' (new_any (n : Int) (v : Int) n v w1 rfl rfl ⟨hn.out.1, hn.out.2.1⟩ ⟨hv.out.1, hv.out.2.1⟩)
  clear hn hv
  go_wp2_with fail
  refine HN.out.mono ?_
  rintro e w2 ⟨c, rfl, g, b, h2, b2⟩
  have HT : Hid (TS w1 c g n v b xs 0 st0 w2) := hide' (ts0 h2 b2)
  clear HN h2 b2
  go_wp2_with fail
  go_loopw [10] (fun i wx => ∃ k : Nat, k ≤ xs.length ∧ i = .int .i64 (k : Int) ∧ ∃ s, Hid (TS w1 c g n v b xs k s wx)) (fun i _ => xs.length - (intOf i).toNat)
  case atStart => exact ⟨0, by omega, rfl, _, HT⟩
  case round =>
    clear HT
    obtain ⟨k, hk, rfl, s, HT⟩ := hrel
    by_cases hlt : k < xs.length
    · have hlt' : (k : Int) < (xs.length : Int) := by omega
      obtain ⟨x, hx⟩ : ∃ x, xs[k]? = some x := ⟨_, List.getElem?_eq_getElem hlt⟩
      have HX := hide' hx
      have HIr := hide' ((HI.out.below HB1.out).below HT.out.bel)
      obtain ⟨ab, off, rfl, hab, hra⟩ := HIr.out.at hx
      have HRa := hide' hra
      have Hw := hide' (wsucN k (by have := HL.out; omega))
      clear hx hab hra
      go_wp2_with (with_reducible refine stay_load 45 _ rfl ?_)
      unfold Stay
      refine wpList_load_mid rfl 45 _ rfl ab (off + k * 6) rfl [.int .i64 x.d, .int .i64 x.tag, .int .i64 x.t.s, .int .i64 x.t.o, .int .i64 x.t.a, .bool x.al] _ HRa.out Try.underlying45 rfl (by kernel_rfl) ?_
      obtain ⟨w3, hw3⟩ : ∃ w3, w3 = wr.alloc (.cells #[.int .i64 x.d, .int .i64 x.tag, .int .i64 x.t.s, .int .i64 x.t.o, .int .i64 x.t.a, .bool x.al] 45) := ⟨_, rfl⟩
      have hb3 : Below wr.heap.size wr w3 := by rw [hw3]; exact (Below.refl _ _).alloc (Nat.le_refl _) _
      obtain ⟨xb, hxb⟩ : ∃ xb, xb = wr.heap.size := ⟨_, rfl⟩
      have H3 : Hid (TS w1 c g n v b xs k s w3 ∧ Ab xb x w3 ∧ Acs w3 (some ⟨ab, off, none⟩) xs) := hide' ⟨HT.out.below hb3, by rw [hw3, hxb]; exact heap_alloc_new _ _, HIr.out.below hb3⟩
      have HW3 := hide' hw3
      have Hxb := hide' hxb
      clear hw3 hb3 hxb HT HIr HRa
      go_wp2_with (with_reducible refine stay_load 3 _ rfl ?_)
      unfold Stay
      rw [← Hxb.out, ← HW3.out]
      clear HW3 Hxb
      have g0 := H3.out.2.1.c0
      have g1 := H3.out.2.1.c1
      have g2 := H3.out.2.1.c2
      have g3 := H3.out.2.1.c3
      have g4 := H3.out.2.1.c4
      have g5 := H3.out.2.1.c5
      by_cases hd2 : x.d = 2
      · have HP : Hid (Calls Try.prog 18 #[.pointer (some ⟨c, 0, none⟩), .int .i64 x.tag, .int .i64 x.t.s, .int .i64 x.t.o, .int .i64 x.t.a, .bool x.al] w3 fun e w' => e = .returned (.tuple #[]) ∧ Hid (TS w1 c g n v b xs (k + 1) (pta n v s x.tag x.t x.al) w') ∧ w'.cell? ⟨xb, 0, none⟩ = some (.int .i64 2)) := hide' ((put_any x.tag x.t x.al H3.out.1.ca (by have := H3.out.1.ce; have := HL.out; omega)).mono fun e w' ⟨he, hc, ht⟩ => ⟨he, hide' (H3.out.1.put HX.out hd2 hc ht), by
          rw [← hd2]
          exact (H3.out.2.1.turn H3.out.1.ca ht).c0⟩)
        rw [hd2] at g0
        clear H3
        go_wp2_with fail
        refine HP.out.mono ?_
        rintro e w4 ⟨rfl, H4, q0⟩
        clear HP g0 g1 g2 g3 g4 g5
        go_wp2
        exact ⟨⟨k + 1, by omega, by rw [Hw.out], _, H4⟩, msr' hlt _ (Hw.out.trans (by omega))⟩
      · by_cases hd1 : x.d = 1
        · have HG : Hid (Calls Try.prog 19 #[.pointer (some ⟨c, 0, none⟩), .int .i64 x.tag, .int .i64 x.t.s, .int .i64 x.t.o, .int .i64 x.t.a] w3 fun e w' => e = .returned (.tuple #[.bool (gta n v s x.tag x.t).1, .bool (gta n v s x.tag x.t).2.1]) ∧ Hid (TS w1 c g n v b xs (k + 1) (gta n v s x.tag x.t).2.2 w' ∧ Ab xb x w' ∧ Acs w' (some ⟨ab, off, none⟩) xs)) := hide' ((get_any x.tag x.t H3.out.1.ca (by have := H3.out.1.cn; have := HL.out; omega) (by have := H3.out.1.cn; have := HL.out; omega)).mono fun e w' ⟨he, hc, ht⟩ => ⟨he, hide' (by
            have h4 := H3.out.1.get HX.out hd2 x.tag x.t hc ht
            exact ⟨h4, H3.out.2.1.turn H3.out.1.ca ht, (HI.out.below HB1.out).below h4.bel⟩)⟩)
          rw [hd1] at g0
          have HTv := hide' H3.out.1.tv
          have HFr := hide' H3.out.1.fr
          have Hn1 := hide' H3.out.1.ca.n1
          clear H3
          go_wp2_with fail
          refine HG.out.mono ?_
          rintro e w4 ⟨rfl, H4⟩
          clear HG g0 g1 g2 g3 g4 g5
          have q0 := H4.out.2.1.c0
          have q1 := H4.out.2.1.c1
          have q2 := H4.out.2.1.c2
          have q3 := H4.out.2.1.c3
          have q4 := H4.out.2.1.c4
          have q5 := H4.out.2.1.c5
          have A0 := fun o => (H4.out.2.1.below (w' := w4.alloc o) ((Below.refl _ _).alloc (Nat.le_refl _) _)).c0
          have A1 := fun o => (H4.out.2.1.below (w' := w4.alloc o) ((Below.refl _ _).alloc (Nat.le_refl _) _)).c1
          have A2 := fun o => (H4.out.2.1.below (w' := w4.alloc o) ((Below.refl _ _).alloc (Nat.le_refl _) _)).c2
          have A3 := fun o => (H4.out.2.1.below (w' := w4.alloc o) ((Below.refl _ _).alloc (Nat.le_refl _) _)).c3
          have A4 := fun o => (H4.out.2.1.below (w' := w4.alloc o) ((Below.refl _ _).alloc (Nat.le_refl _) _)).c4
          have A5 := fun o => (H4.out.2.1.below (w' := w4.alloc o) ((Below.refl _ _).alloc (Nat.le_refl _) _)).c5
          obtain ⟨z, hz⟩ : ∃ z, z = lsv (xs.take k) x.t := ⟨_, rfl⟩
          obtain ⟨th, hth⟩ : ∃ th, th = (lst (xs.take k) x.t).isSome := ⟨_, rfl⟩
          have HC : Hid (∀ W, Below w4.heap.size w4 W → Calls Try.prog 20 #[.slice (some ⟨ab, off, none⟩) k cap, .agg #[.int .i64 x.d, .int .i64 x.tag, .int .i64 x.t.s, .int .i64 x.t.o, .int .i64 x.t.a, .bool x.al]] W fun e W' => e = .returned (.tuple #[.agg #[.int .i64 z.d, .int .i64 z.tag, .int .i64 z.t.s, .int .i64 z.t.o, .int .i64 z.t.a, .bool z.al], .bool th]) ∧ Below W.heap.size W W') := hide' (fun W hb => by
            have := last_any (w := W) (some ⟨ab, off, none⟩) cap (xs.take k) x ((H4.out.2.2.below hb).take k) (by rw [List.length_take]; have := HL.out; omega)
            rw [List.length_take, Nat.min_eq_left hk, ← hz, ← hth] at this
            exact this)
          have hkc : (k : Int) ≤ (cap : Int) := by have := HCap.out; omega
          have hkc' : k ≤ cap := by have := HCap.out; omega
          obtain ⟨RV, hRV⟩ : ∃ RV, RV = Ending.returned (.tuple #[.agg #[.int .i64 z.d, .int .i64 z.tag, .int .i64 z.t.s, .int .i64 z.t.o, .int .i64 z.t.a, .bool z.al], .bool th]) := ⟨_, rfl⟩
          have HC1 : Hid (Calls Try.prog 20 #[.slice (some ⟨ab, off, none⟩) k cap, .agg #[.int .i64 x.d, .int .i64 x.tag, .int .i64 x.t.s, .int .i64 x.t.o, .int .i64 x.t.a, .bool x.al]] w4.drew fun e W' => e = .returned (.tuple #[.agg #[.int .i64 z.d, .int .i64 z.tag, .int .i64 z.t.s, .int .i64 z.t.o, .int .i64 z.t.a, .bool z.al], .bool th]) ∧ Hid (Below w4.heap.size w4 W')) := hide' ((HC.out w4.drew ⟨rfl, rfl, rfl, Nat.le_refl _, fun _ _ => rfl⟩).mono fun e W' ⟨he, hb⟩ => ⟨he, hide' ((below_drewN w4 1).trans hb)⟩)
          have HC2 : Hid (Calls Try.prog 20 #[.slice (some ⟨ab, off, none⟩) k cap, .agg #[.int .i64 x.d, .int .i64 x.tag, .int .i64 x.t.s, .int .i64 x.t.o, .int .i64 x.t.a, .bool x.al]] (w4.alloc (.cells #[.int .i64 0, .int .i64 0, .int .i64 0, .int .i64 0, .int .i64 0, .bool false] 45)).drew fun e W' => e = .returned (.tuple #[.agg #[.int .i64 z.d, .int .i64 z.tag, .int .i64 z.t.s, .int .i64 z.t.o, .int .i64 z.t.a, .bool z.al], .bool th]) ∧ Hid (Below w4.heap.size w4 W' ∧ Ab w4.heap.size zA W') ∧ W'.cell? ⟨w4.heap.size, 0, none⟩ = some (.int .i64 0) ∧ W'.cell? ⟨w4.heap.size, 1, none⟩ = some (.int .i64 0) ∧ W'.cell? ⟨w4.heap.size, 2, none⟩ = some (.int .i64 0) ∧ W'.cell? ⟨w4.heap.size, 3, none⟩ = some (.int .i64 0) ∧ W'.cell? ⟨w4.heap.size, 4, none⟩ = some (.int .i64 0) ∧ W'.cell? ⟨w4.heap.size, 5, none⟩ = some (.bool false) ∧ ∀ j, W'.frozen? ⟨w4.heap.size, j, none⟩ = false) := hide' (by
            have k1 : Below w4.heap.size w4 (w4.alloc (.cells #[.int .i64 0, .int .i64 0, .int .i64 0, .int .i64 0, .int .i64 0, .bool false] 45)).drew := ((Below.refl _ _).alloc (Nat.le_refl _) _).drew
            have k2 : Ab w4.heap.size zA (w4.alloc (.cells #[.int .i64 0, .int .i64 0, .int .i64 0, .int .i64 0, .int .i64 0, .bool false] 45)).drew := heap_alloc_new _ _
            refine (HC.out _ k1).mono fun e W' ⟨he, hb⟩ => ?_
            have k3 := k2.below hb
            exact ⟨he, hide' ⟨k1.trans (hb.mono k1.size), k3⟩, k3.c0, k3.c1, k3.c2, k3.c3, k3.c4, k3.c5, k3.fz⟩)
          have HZ := hide' hz
          have HTh := hide' hth
          clear hd1 HC hz hth hRV
          go_upto_region 13 with fail
          go_cut [14, 15] (fun p q wx => ∃ zb, p = .pointer (some ⟨zb, 0, none⟩) ∧ q = .bool th ∧ Hid (Ab zb z wx ∧ Below w4.heap.size w4 wx))
          case first =>
            go_region_law ((go_simp; first | (refine HC1.out.mono ?_; rintro e w5 ⟨rfl, b5⟩) | (refine HC2.out.mono ?_; rintro e w5 ⟨rfl, b5, y0, y1, y2, y3, y4, y5, yf⟩)))
            all_goals clear A0 A1 A2 A3 A4 A5 HC1 HC2 q0 q1 q2 q3 q4 q5
            all_goals go_wp2
            all_goals go_meet
            · exact ⟨_, rfl, rfl, hide' ⟨heap_alloc_new _ _, b5.out.trans (((Below.refl _ _).alloc (Nat.le_refl _) _).mono b5.out.size)⟩⟩
            · exact ⟨_, rfl, rfl, hide' ⟨b5.out.2.put (y := z), b5.out.1.trans ((turn_cells w4.heap.size [.int .i64 z.d, .int .i64 z.tag, .int .i64 z.t.s, .int .i64 z.t.o, .int .i64 z.t.a, .bool z.al] 0 w5).below (fun j hj => by rw [hj]; exact Nat.le_refl _) b5.out.1.size)⟩⟩
            · exact ⟨_, rfl, rfl, hide' ⟨b5.out.2.put (y := z), b5.out.1.trans ((turn_cells w4.heap.size [.int .i64 z.d, .int .i64 z.tag, .int .i64 z.t.s, .int .i64 z.t.o, .int .i64 z.t.a, .bool z.al] 0 w5).below (fun j hj => by rw [hj]; exact Nat.le_refl _) b5.out.1.size)⟩⟩
          case rest =>
            clear A0 A1 A2 A3 A4 A5 HC1 HC2 q0 q1 q2 q3 q4 q5
            obtain ⟨zb, rfl, rfl, HZb⟩ := hcut
            have H6 : Hid (TS w1 c g n v b xs (k + 1) (gta n v s x.tag x.t).2.2 wc ∧ Ab xb x wc ∧ Acs wc (some ⟨ab, off, none⟩) xs ∧ Ab zb z wc) := hide' ⟨H4.out.1.below HZb.out.2, H4.out.2.1.below HZb.out.2, H4.out.2.2.below HZb.out.2, HZb.out.1⟩
            have HP := hide' (true_pure hlt HTv.out HFr.out Hn1.out HZ.out HTh.out)
            clear HZb H4 HTv HFr Hn1 HZ HTh HX hd2
            generalize gta n v s x.tag x.t = G at *
            obtain ⟨x1, is, s1⟩ := G
            simp only at H6 HP ⊢
            have HE : Hid (∀ q, TS w1 c g n v b xs (k + 1) s1 (wc.drewN q)) := hide' (fun q => H6.out.1.below (below_drewN wc q))
            have p1 := H6.out.2.1.c1
            have y1 := H6.out.2.2.2.c1
            have y5 := H6.out.2.2.2.c5
            cases is with
            | true =>
              obtain ⟨e1, e2, e3⟩ := HP.out.1 rfl
              subst e1
              rw [e2] at y1
              rw [e3] at y5
              have E2 := hide' e2
              have E3 := hide' e3
              clear e2 e3
              have ya : (x1 == x1) = true := by simp
              rcases Nat.eq_zero_or_pos k with e | e
              · subst e
                go_wp2_with fail
                go_quiet (fail)
                go_wp2
                exact ⟨⟨0 + 1, by omega, (by first | rw [Hw.out] | rfl), _, hide' (HE.out _)⟩, msr' hlt _ (by first | exact Hw.out.trans (by omega) | rfl)⟩
              · obtain ⟨m, hkm⟩ : ∃ m, k = m + 1 := ⟨k - 1, by omega⟩
                obtain ⟨p, hp⟩ : ∃ p, xs[m]? = some p := ⟨_, List.getElem?_eq_getElem (by omega)⟩
                obtain ⟨ab', off', ea, _, hra⟩ := H6.out.2.2.1.at hp
                cases ea
                have r0 := hra 0 _ rfl
                have r1 := hra 1 _ rfl
                have r2 := hra 2 _ rfl
                have r3 := hra 3 _ rfl
                have r4 := hra 4 _ rfl
                have r5 := hra 5 _ rfl
                rw [Nat.add_zero] at r0
                have y0 := H6.out.2.2.2.c0
                have y2 := H6.out.2.2.2.c2
                have y3 := H6.out.2.2.2.c3
                have y4 := H6.out.2.2.2.c4
                have hwm : wrap64 ((k : Int) - 1) = (m : Int) := by rw [hkm]; exact wm1 m (by have := HL.out; omega)
                have hmi : (m : Int) < (xs.length : Int) := by omega
                have hpos : (0 : Int) < (k : Int) := by omega
                have hposn : 0 < k := by omega
                have HPp := hide' (HP.out.2.2 p (by omega) (by rw [show k - 1 = m by omega]; exact hp))
                clear hra hp HP H6 hkm e
                by_cases hd : p.d = 2
                · rw [hd] at r0
                  by_cases he : z.d = p.d ∧ z.tag = p.tag ∧ z.t.s = p.t.s ∧ z.t.o = p.t.o ∧ z.t.a = p.t.a ∧ z.al = p.al
                  · have hs := fun w => struct45 z p w
                    rw [decide_eq_true he, hd] at hs
                    rw [E2.out, E3.out] at hs
                    clear he hd HPp
                    go_wp2_with fail
                    go_quiet (fail)
                    go_wp2
                    exact ⟨⟨k + 1, by omega, (by first | rw [Hw.out] | rfl), _, hide' (HE.out _)⟩, msr' hlt _ (by first | exact Hw.out.trans (by omega) | rfl)⟩
                  · have hs := fun w => struct45 z p w
                    rw [decide_eq_false he, hd] at hs
                    rw [E2.out, E3.out] at hs
                    clear he hd HPp
                    go_wp2_with fail
                    go_quiet (fail)
                    go_wp2
                    exact ⟨⟨k + 1, by omega, (by first | rw [Hw.out] | rfl), _, hide' (HE.out _)⟩, msr' hlt _ (by first | exact Hw.out.trans (by omega) | rfl)⟩
                · have hdb : (p.d == 2) = false := by simpa using hd
                  clear HPp hd
                  go_wp2_with fail
                  go_quiet (fail)
                  go_wp2
                  exact ⟨⟨k + 1, by omega, (by first | rw [Hw.out] | rfl), _, hide' (HE.out _)⟩, msr' hlt _ (by first | exact Hw.out.trans (by omega) | rfl)⟩
            | false =>
              have e1 := HP.out.2.1 rfl
              subst e1
              cases th with
              | true =>
                rcases Nat.eq_zero_or_pos k with e | e
                · subst e
                  go_wp2_with fail
                  go_quiet (fail)
                  go_wp2
                  exact ⟨⟨0 + 1, by omega, (by first | rw [Hw.out] | rfl), _, hide' (HE.out _)⟩, msr' hlt _ (by first | exact Hw.out.trans (by omega) | rfl)⟩
                · obtain ⟨m, hkm⟩ : ∃ m, k = m + 1 := ⟨k - 1, by omega⟩
                  obtain ⟨p, hp⟩ : ∃ p, xs[m]? = some p := ⟨_, List.getElem?_eq_getElem (by omega)⟩
                  obtain ⟨ab', off', ea, _, hra⟩ := H6.out.2.2.1.at hp
                  cases ea
                  have r0 := hra 0 _ rfl
                  have r1 := hra 1 _ rfl
                  have r2 := hra 2 _ rfl
                  have r3 := hra 3 _ rfl
                  have r4 := hra 4 _ rfl
                  have r5 := hra 5 _ rfl
                  rw [Nat.add_zero] at r0
                  have y0 := H6.out.2.2.2.c0
                  have y2 := H6.out.2.2.2.c2
                  have y3 := H6.out.2.2.2.c3
                  have y4 := H6.out.2.2.2.c4
                  have hwm : wrap64 ((k : Int) - 1) = (m : Int) := by rw [hkm]; exact wm1 m (by have := HL.out; omega)
                  have hmi : (m : Int) < (xs.length : Int) := by omega
                  have hpos : (0 : Int) < (k : Int) := by omega
                  have hposn : 0 < k := by omega
                  have HPp := hide' (HP.out.2.2 p (by omega) (by rw [show k - 1 = m by omega]; exact hp))
                  clear hra hp HP H6 hkm e
                  by_cases hd : p.d = 2
                  · rw [hd] at r0
                    by_cases he : z.d = p.d ∧ z.tag = p.tag ∧ z.t.s = p.t.s ∧ z.t.o = p.t.o ∧ z.t.a = p.t.a ∧ z.al = p.al
                    · have hs := fun w => struct45 z p w
                      rw [decide_eq_true he, hd] at hs
                      have hnt : (z.tag == x.tag) = false := by
                        have : ¬ z.tag = x.tag := fun q => absurd (HPp.out hd rfl he q) (by decide)
                        simpa using this
                      clear he hd HPp
                      go_wp2_with fail
                      go_quiet (fail)
                      go_wp2
                      exact ⟨⟨k + 1, by omega, (by first | rw [Hw.out] | rfl), _, hide' (HE.out _)⟩, msr' hlt _ (by first | exact Hw.out.trans (by omega) | rfl)⟩
                    · have hs := fun w => struct45 z p w
                      rw [decide_eq_false he, hd] at hs
                      clear he hd HPp
                      go_wp2_with fail
                      go_quiet (fail)
                      go_wp2
                      exact ⟨⟨k + 1, by omega, (by first | rw [Hw.out] | rfl), _, hide' (HE.out _)⟩, msr' hlt _ (by first | exact Hw.out.trans (by omega) | rfl)⟩
                  · have hdb : (p.d == 2) = false := by simpa using hd
                    clear HPp hd
                    go_wp2_with fail
                    go_quiet (fail)
                    go_wp2
                    exact ⟨⟨k + 1, by omega, (by first | rw [Hw.out] | rfl), _, hide' (HE.out _)⟩, msr' hlt _ (by first | exact Hw.out.trans (by omega) | rfl)⟩
              | false =>
                rcases Nat.eq_zero_or_pos k with e | e
                · subst e
                  go_wp2_with fail
                  go_quiet (fail)
                  go_wp2
                  exact ⟨⟨0 + 1, by omega, (by first | rw [Hw.out] | rfl), _, hide' (HE.out _)⟩, msr' hlt _ (by first | exact Hw.out.trans (by omega) | rfl)⟩
                · obtain ⟨m, hkm⟩ : ∃ m, k = m + 1 := ⟨k - 1, by omega⟩
                  obtain ⟨p, hp⟩ : ∃ p, xs[m]? = some p := ⟨_, List.getElem?_eq_getElem (by omega)⟩
                  obtain ⟨ab', off', ea, _, hra⟩ := H6.out.2.2.1.at hp
                  cases ea
                  have r0 := hra 0 _ rfl
                  have r1 := hra 1 _ rfl
                  have r2 := hra 2 _ rfl
                  have r3 := hra 3 _ rfl
                  have r4 := hra 4 _ rfl
                  have r5 := hra 5 _ rfl
                  rw [Nat.add_zero] at r0
                  have y0 := H6.out.2.2.2.c0
                  have y2 := H6.out.2.2.2.c2
                  have y3 := H6.out.2.2.2.c3
                  have y4 := H6.out.2.2.2.c4
                  have hwm : wrap64 ((k : Int) - 1) = (m : Int) := by rw [hkm]; exact wm1 m (by have := HL.out; omega)
                  have hmi : (m : Int) < (xs.length : Int) := by omega
                  have hpos : (0 : Int) < (k : Int) := by omega
                  have hposn : 0 < k := by omega
                  have HPp := hide' (HP.out.2.2 p (by omega) (by rw [show k - 1 = m by omega]; exact hp))
                  clear hra hp HP H6 hkm e
                  by_cases hd : p.d = 2
                  · rw [hd] at r0
                    go_wp2_with fail
                    go_quiet (fail)
                    go_wp2
                    exact ⟨⟨k + 1, by omega, (by first | rw [Hw.out] | rfl), _, hide' (HE.out _)⟩, msr' hlt _ (by first | exact Hw.out.trans (by omega) | rfl)⟩
                  · have hdb : (p.d == 2) = false := by simpa using hd
                    clear HPp hd
                    go_wp2_with fail
                    go_quiet (fail)
                    go_wp2
                    exact ⟨⟨k + 1, by omega, (by first | rw [Hw.out] | rfl), _, hide' (HE.out _)⟩, msr' hlt _ (by first | exact Hw.out.trans (by omega) | rfl)⟩
        · clear g1 g2 g3 g4 g5
          have HE := hide' (H3.out.1.other HX.out hd2)
          clear H3
          go_wp2
          exact ⟨⟨k + 1, by omega, by rw [Hw.out], _, HE⟩, msr' hlt _ (Hw.out.trans (by omega))⟩
    · obtain rfl : k = xs.length := by omega
      have HE := hide' (HB1.out.trans (HT.out.bel.mono HB1.out.size))
      clear HT
      go_wp2
      go_ret
      exact ⟨rfl, HE.out⟩
end C
end Go.Proofs.Ytjmkofdnlhfaiaa
