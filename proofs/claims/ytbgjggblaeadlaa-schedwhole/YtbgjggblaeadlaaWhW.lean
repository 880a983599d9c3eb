import Derived.Test.YtbgjggblaeadlaaR33
import Derived.Deep.CutBlock
import Derived.Deep.DeepCutAuto
import Derived.Stop.RegionWithIn
set_option linter.unusedVariables false
set_option linter.unusedSimpArgs false
namespace Go.Proofs.Ytbgjggblaeadlaa
open Go.RowKit
attribute [local go_sem] Oper.semAt_some
namespace X
open C F A
theorem wrap_p {p : Nat} (h : p ≤ 40320) : wrap64 (p : Int) = (p : Int) := by unfold wrap64; omega
set_option pp.maxSteps 10000000 in
set_option pp.deepTerms true in
set_option pp.deepTerms.threshold 100000 in
set_option maxRecDepth 100000 in
set_option maxHeartbeats 8000000 in
theorem whole_walk (sa : Option Addr) (sc : Nat) (zs : List Int) (pa : Option Addr) (pc : Nat) (ps : List Int) (w : World) (hs : Ints w sa zs) (hp : Ints w pa ps) (hsl : zs.length ≤ 17592186043904) (hpl : ps.length ≤ 17592186043904) :
    Calls Try.prog 10 #[.slice sa zs.length sc, .slice pa ps.length pc] w fun e w' => e = .returned (.bool true) ∧ Below w.heap.size w w' := by
  refine (callsIn_wide (n := 1)).1 ?_
  refine callsIn_of_wp_marks Try.func10 rfl trivial ?_ rfl
  refine wpIn_wide.2 ?_
  simp only [Try.ntmps10, List.size_toArray, List.length_cons, List.length_nil, Nat.reduceAdd, Nat.reduceSub, Array.replicate_succ, Array.replicate_zero, List.push_toArray, List.append_toArray, List.nil_append, List.cons_append]
  have HI := hide' (fun w' (b : Below w.heap.size w w') => Ints.below hs b)
  have HP := hide' (fun w' (b : Below w.heap.size w w') => Ints.below hp b)
  obtain ⟨T, hT⟩ : ∃ T, T = zs.length := ⟨_, rfl⟩
  obtain ⟨P, hP⟩ : ∃ P, P = ps.length := ⟨_, rfl⟩
  have HL := hide' (And.intro hsl (And.intro hpl (And.intro hT hP)))
  rw [← hT, ← hP]
  obtain ⟨w1, hw1⟩ : ∃ w1, w1 = (w.alloc (.cells #[.slice pa P pc] 23)).alloc (.cells #[.bool false] 4) := ⟨_, rfl⟩
  obtain ⟨x3, hx3⟩ : ∃ x, x = w.heap.size := ⟨_, rfl⟩
  obtain ⟨x4, hx4⟩ : ∃ x, x = w.heap.size + 1 := ⟨_, rfl⟩
  have q1 : Sq w x3 x4 (.slice pa P pc) w1 := by
    have hz : (w.alloc (.cells #[.slice pa P pc] 23)).heap.size = w.heap.size + 1 := by simp
    refine ⟨?_, ?_, ?_, by omega, by omega⟩
    · rw [hw1]; exact ((Below.refl _ _).alloc (Nat.le_refl _) _).alloc (by simp) _
    · rw [hw1, hx3]; exact (Below.heap_alloc _ _ _ (by simp)).trans (heap_alloc_new _ _)
    · rw [hw1, hx4, ← hz]; exact heap_alloc_new _ _
  have HA := hide' (X.alive_any w1)
  have Hw1 := hide' (And.intro hw1 (And.intro hx3 hx4))
  have Q1 := hide' q1
  clear hs hp hsl hpl hT hP hw1 hx3 hx4 q1
  go_upto_region 1 with fail
  rw [← Hw1.out.1, ← Hw1.out.2.2, ← Hw1.out.2.1]
  clear Hw1
  go_wp2_with fail
  refine HA.out.mono ?_
  rintro e w2 ⟨rfl, b2⟩
  have q2 := Q1.out.below b2
  obtain ⟨x7, hx7⟩ : ∃ x, x = w2.heap.size := ⟨_, rfl⟩
  obtain ⟨w3, hw3⟩ : ∃ w3, w3 = w2.alloc (.cells #[.int .i64 1] 3) := ⟨_, rfl⟩
  have K3 : Hid (Sm w x3 x4 x7 (.slice pa P pc) 1 w3) := hide' ⟨by rw [hw3]; exact q2.below ((Below.refl _ _).alloc (Nat.le_refl _) _), by rw [hw3, hx7]; exact heap_alloc_new _ _, by rw [hx7]; exact q2.bel.size⟩
  have Hw3 := hide' (And.intro hw3 hx7)
  clear b2 q2 Q1 HA hw3 hx7
  go_upto_region 4 with fail
  rw [← Hw3.out.1, ← Hw3.out.2]
  clear Hw3
  go_wp2_with fail
  go_loopw [6, 8] (fun s i wx => ∃ (k M : Nat), s = .int .i64 ((sm (zs.take k) : Nat) : Int) ∧ i = .int .i64 (k : Int) ∧ k ≤ T ∧ k ≤ 6 ∧ sm (zs.take k) ≤ 16 ∧ (sm (zs.take k) ≤ 8 → M = mn zs k) ∧ Sm w x3 x4 x7 (.slice pa P pc) M wx) (fun _ i _ => T - (intOf i).toNat)
  case atStart => exact ⟨0, 1, rfl, rfl, Nat.zero_le _, by omega, by simp [sm], fun _ => rfl, K3.out⟩
  case round =>
    obtain ⟨k, M, rfl, rfl, hk, hk6, hs16, hM, hS⟩ := hrel
    clear K3
    obtain ⟨sk, hsk⟩ : ∃ s, s = sm (zs.take k) := ⟨_, rfl⟩
    have HM := hide' (And.intro hsk hM)
    have HS := hide' hS
    obtain ⟨c3, c4, c7, f4, f7⟩ := hS.c
    have hans := hide' (hS.sq.ans true)
    rw [← hsk] at hs16 ⊢
    clear hM hS hsk
    by_cases hlt : k < T
    · have hlt' : (k : Int) < (T : Int) := by omega
      have hkz : k < zs.length := by have := HL.out.2.2.1; omega
      have ek := hide' (O.wsc (a := k) (by omega))
      have Hms := hide' (msr' hlt _ rfl)
      have Hk := hide' (And.intro hlt hkz)
      rcases HI.out _ HS.out.sq.bel with q | ⟨xb, xo, hsa, hxb, hxc⟩
      · rw [q] at hkz; simp at hkz
      have ic := hxc k hkz
      obtain ⟨u, hu⟩ : ∃ u, u = zs.getD k 0 := ⟨_, rfl⟩
      rw [← hu] at ic
      obtain rfl := hsa
      have HU := hide' hu
      clear hxc hxb hu hk hlt hkz
      by_cases hu8 : 8 < u
      · go_wp2
        refine ⟨.bool true, ?_, rfl, hans.out.2⟩
        have r4 := Lib.cell_of_heap hans.out.1 0
        simp [results, Try.f10, go_sem, r4]
      · by_cases hs8 : (8 : Int) < (sk : Int)
        · go_wp2
          refine ⟨.bool true, ?_, rfl, hans.out.2⟩
          have r4 := Lib.cell_of_heap hans.out.1 0
          simp [results, Try.f10, go_sem, r4]
        · by_cases hk5 : (5 : Int) < (k : Int)
          · go_wp2
            refine ⟨.bool true, ?_, rfl, hans.out.2⟩
            have r4 := Lib.cell_of_heap hans.out.1 0
            simp [results, Try.f10, go_sem, r4]
          · by_cases hu0 : 0 < u
            · obtain ⟨un, rfl⟩ := Int.eq_ofNat_of_zero_le (show 0 ≤ u by omega)
              have ea := wadu (a := sk) (u := (un : Int)) (by omega) hu0 (by omega)
              rw [Int.toNat_natCast] at ea
              have hz1 : sm (zs.take (k + 1)) = sk + un := by
                have := sm_take Hk.out.2
                rw [← HU.out, ← HM.out.1] at this
                rw [this]
                have : (max (un : Int) 0).toNat = un := by omega
                rw [this]
              by_cases hs2 : sk + un ≤ 8
              · have hs2' : (sk : Int) + (un : Int) ≤ 8 := by omega
                obtain ⟨hm1, hm2, hm3⟩ := mn_more Hk.out.2 HU.out hu0 (by rw [← HM.out.1, Int.toNat_natCast]; exact hs2)
                rw [← HM.out.1, Int.toNat_natCast, ← HM.out.2 (by rw [← HM.out.1]; omega)] at hm1
                obtain ⟨bq, hbq⟩ : ∃ b, b = bn sk un := ⟨_, rfl⟩
                have C37 : Hid (∀ W, Calls Try.prog 37 #[.int .i64 ((sk : Int) + (un : Int)), .int .i64 (un : Int)] W fun e w' => e = .returned (.int .i64 (bq : Int)) ∧ w' = W) := hide' (fun W => by
                  have := binomial_at (sk + un) un W (by omega) hs2
                  rw [show sk + un - un = sk by omega, ← hbq, Int.natCast_add] at this
                  exact this)
                rw [← hbq] at hm1
                have ew := wmul (a := M) (b := bq) (by rw [hm1]; exact hm2)
                have HN := hide' (And.intro hm1 (And.intro hz1 (And.intro hs2 hk5)))
                have HS2 := hide' (HS.out.put (M * bq))
                obtain ⟨mb, hmb⟩ : ∃ s, s = M * bq := ⟨_, rfl⟩
                rw [← hmb] at ew HS2
                have HH := hide' hmb
                clear hs2 hm1 hm2 hm3 hz1 hbq hmb ea
                go_wp2_with fail
                refine wp_region_noPanic ?_
                go_region_law ((go_simp; refine (C37.out _).mono ?_; rintro e w7 ⟨rfl, rfl⟩))
                all_goals
                  refine NoPanic.normal ?_
                  go_wp2
                  exact ⟨⟨k + 1, mb, by rw [HN.out.2.1]; rfl, by first | rfl | rw [ek.out], Hk.out.1, by have := HN.out; omega, by have := HN.out; omega, fun h => by rw [HH.out]; exact HN.out.1, by rw [ew]; exact HS2.out.below ⟨rfl, rfl, rfl, Nat.le_refl _, fun _ _ => rfl⟩⟩, by first | exact Hms.out | (rw [ek.out]; exact Hms.out)⟩
              · have hs2' : ¬ (sk : Int) + (un : Int) ≤ 8 := by omega
                have HN := hide' (And.intro hz1 (And.intro hs2 (And.intro hk5 (And.intro hu8 hs8))))
                clear hs2 hz1 ea
                go_wp2
                exact ⟨⟨k + 1, M, by rw [HN.out.1]; rfl, by first | rfl | rw [ek.out], Hk.out.1, by have := HN.out; omega, by have := HN.out; omega, fun h => by have := HN.out; omega, HS.out⟩, by first | exact Hms.out | (rw [ek.out]; exact Hms.out)⟩
            · obtain ⟨hm1, hm2⟩ := mn_none Hk.out.2 HU.out hu0
              have HN := hide' (And.intro hm1 (And.intro hm2 (And.intro hk5 hs16)))
              clear hm1 hm2
              go_wp2
              exact ⟨⟨k + 1, M, by rw [HN.out.2.1, ← HM.out.1], by first | rfl | rw [ek.out], Hk.out.1, by have := HN.out; omega, by rw [HN.out.2.1, ← HM.out.1]; exact HN.out.2.2.2, fun h => by rw [HN.out.1]; exact HM.out.2 (by rw [← HN.out.2.1]; exact h), HS.out⟩, by first | exact Hms.out | (rw [ek.out]; exact Hms.out)⟩
    · have hlt' : ¬ ((k : Int) < (T : Int)) := by omega
      by_cases hs8 : (8 : Int) < (sk : Int)
      · go_wp2
        refine ⟨.bool true, ?_, rfl, hans.out.2⟩
        have r4 := Lib.cell_of_heap hans.out.1 0
        simp [results, Try.f10, go_sem, r4]
      · obtain rfl : k = T := by omega
        have hz8 : sm zs ≤ 8 := by
          have := HM.out.1
          rw [HL.out.2.2.1, List.take_length] at this
          omega
        have HZ : Hid (sm zs ≤ 8 ∧ zs.length ≤ 6 ∧ M = mn zs zs.length) := hide' ⟨hz8, by rw [← HL.out.2.2.1]; exact hk6, by
          have := HM.out.2
          rw [HL.out.2.2.1, List.take_length] at this
          exact this hz8⟩
        obtain ⟨w5, hw5⟩ : ∃ w5, w5 = (wr.alloc (.cells #[.slice none 0 0] 31)).alloc (.cells #[.bool false] 4) := ⟨_, rfl⟩
        obtain ⟨x9, hx9⟩ : ∃ x, x = wr.heap.size := ⟨_, rfl⟩
        obtain ⟨xf, hxf⟩ : ∃ x, x = wr.heap.size + 1 := ⟨_, rfl⟩
        have b5 : Below wr.heap.size wr w5 := by rw [hw5]; exact ((Below.refl _ _).alloc (Nat.le_refl _) _).alloc (by simp) _
        have q9 : w5.heap[x9]? = some (.cells #[.slice none 0 0] 31 (0, 0)) := by rw [hw5, hx9]; exact (Below.heap_alloc _ _ _ (by simp)).trans (heap_alloc_new _ _)
        have qf : w5.heap[xf]? = some (.cells #[.bool false] 4 (0, 0)) := by
          have hz : (wr.alloc (.cells #[.slice none 0 0] 31)).heap.size = wr.heap.size + 1 := by simp
          rw [hw5, hxf, ← hz]; exact heap_alloc_new _ _
        have S5 := HS.out.below b5
        have CM := hide' (mixes_any sa sc zs w5 (HI.out _ S5.sq.bel) (by unfold mxb; exact decide_eq_true ⟨by have := HZ.out; omega, by omega⟩))
        rw [← HL.out.2.2.1] at CM
        have K5 : Hid (Sm w x3 x4 x7 (.slice pa P pc) M w5 ∧ w5.heap[x9]? = some (.cells #[.slice none 0 0] 31 (0, 0)) ∧ w5.heap[xf]? = some (.cells #[.bool false] 4 (0, 0)) ∧ w.heap.size ≤ x9 ∧ w.heap.size ≤ xf ∧ xf ≠ x4) := hide' ⟨S5, q9, qf, by rw [hx9]; exact HS.out.sq.bel.size, by rw [hxf]; exact Nat.le_succ_of_le HS.out.sq.bel.size, by have := lt_of_heap HS.out.sq.h4; omega⟩
        have Hw5 := hide' (And.intro hw5 (And.intro hx9 hxf))
        clear hz8 hw5 hx9 hxf b5 q9 qf S5 hans c3 c4 c7 f4 f7 hk hk6 hs16 hlt HS HM
        go_upto_region 17 with fail
        rw [← Hw5.out.1, ← Hw5.out.2.2, ← Hw5.out.2.1]
        clear Hw5
        go_wp2_with fail
        refine CM.out.mono ?_
        rintro e V ⟨cb, ca, cc, rfl, hbx, bV, hBM⟩
        have KV : Hid (Sm w x3 x4 x7 (.slice pa P pc) M V ∧ V.heap[x9]? = some (.cells #[.slice none 0 0] 31 (0, 0)) ∧ V.heap[xf]? = some (.cells #[.bool false] 4 (0, 0)) ∧ ¬ BM cb ca zs x9 ∧ ¬ BM cb ca zs xf ∧ ¬ BM cb ca zs x3 ∧ ¬ BM cb ca zs x4 ∧ ¬ BM cb ca zs x7) := hide' (by
          have n : ∀ {j : Nat} {o : Obj}, w5.heap[j]? = some o → ¬ BM cb ca zs j := fun hj q => by have := lt_of_heap hj; have := hBM _ q; omega
          exact ⟨K5.out.1.below bV, (bV.block x9 (lt_of_heap K5.out.2.1)).trans K5.out.2.1, (bV.block xf (lt_of_heap K5.out.2.2.1)).trans K5.out.2.2.1, n K5.out.2.1, n K5.out.2.2.1, n K5.out.1.sq.h3, n K5.out.1.sq.h4, n K5.out.1.h7⟩)
        have SQ := hide' (mixes_seq hbx (by have := HZ.out; omega) (by have := HZ.out; omega))
        have hMb : Hid (∀ j, BM cb ca zs j → j < V.heap.size) := hide' (fun j q => hbx.lt q)
        have HVw : Hid (w.heap.size ≤ V.heap.size) := hide' (Nat.le_trans K5.out.1.sq.bel.size bV.size)
        clear hbx bV hBM CM
        have heq := eq_func (.func 53) #[] #[.pointer (some ⟨cb, 0, none⟩)]
        go_wp2_with fail
        clear heq
        refine (wpIn_wide (n := 1)).1 ?_
        refine range_g rfl (Nat.le_refl _) (gf := 53) (lb := #[.pointer (some ⟨cb, 0, none⟩)]) rfl trivial Try.call53 SQ.out (Nat.le_refl _) (fun j q => ⟨hMb.out j q, rfl⟩) (fun x => rfl)
          (fun Mm kk X => ∃ gs go gc fd, Gw V x9 xf zs ps kk gs go gc fd Mm X) (fun c kk X => False)
          (fun Mm kk x a' X => (∃ gs go gc fd, Gw V x9 xf zs ps kk gs go gc fd Mm X) ∧ IsO zs (V.heap.size + 2) Mm kk x X ∧ (∀ j, Mm j → j < X.heap.size) ∧ a' = { tmps := #[Value.slice sa k sc, Value.slice pa P pc, undef, Value.pointer (some { block := x3, off := 0 }), Value.pointer (some { block := x4, off := 0 }), Value.bool true, Value.int IntKind.i64 ↑sk, Value.pointer (some { block := x7, off := 0 }), Value.int IntKind.i64 ↑k, Value.pointer (some { block := x9, off := 0 }), Value.pointer (some { block := xf, off := 0 }), Value.func (Fn.func 53) #[] #[Value.pointer (some { block := cb, off := 0 })], Value.slice x.1 (sm zs) x.2, undef, undef, Value.bool true, Value.int IntKind.i64 ↑k, Value.slice sa k sc, Value.int IntKind.i64 ↑k, Value.bool false, u20, u21, u22, u23, u24, u25, u26, u27, u28, u29, u30, u31, u32, u33, u34, u35, u36, u37, u38, u39, u40, u41, u42, u43, u44, u45, u46, u47, u48, u49, u50, u51, u52, u53, u54, u55, u56, Value.int IntKind.i64 ↑sk, Value.bool false, undef, Value.slice sa k sc, Value.func (Fn.func 53) #[] #[Value.pointer (some { block := cb, off := 0 })], Value.func (Fn.func 53) #[] #[Value.pointer (some { block := cb, off := 0 })], Value.bool false, Value.func (Fn.func 53) #[] #[Value.pointer (some { block := cb, off := 0 })], Value.slice x.1 (sm zs) x.2, undef, undef, undef, undef, undef, undef, undef, undef, undef, undef, undef, undef, undef, undef, undef, undef, undef, undef, undef, undef, undef, undef, undef, undef, undef, undef, undef, undef, undef, undef, undef, undef, undef, undef, undef, undef, undef, undef, undef, undef, undef, undef, undef, undef, undef, undef, undef, undef, undef, undef, undef, undef, undef, undef, undef, undef, undef, undef, undef, undef, undef, undef], defers := [] })
          ?start ?stab ?stabx ?staba ?assign ?body ?done ?stop
        case start => exact ⟨[], none, 0, false, Gw.start KV.out.2.1 KV.out.2.2.1 KV.out.2.2.2.1 KV.out.2.2.2.2.1⟩
        case stab => exact fun M M' k X1 X2 ⟨gs, go, gc, fd, h⟩ t hm => ⟨gs, go, gc, fd, h.qm t hm⟩
        case stabx => exact fun c k X1 X2 h t => h.elim
        case staba =>
          rintro Mm kk x a' X1 X2 ⟨⟨gs, go, gc, fd, h⟩, ⟨l, h1, h2, h3⟩, hm, ha⟩ t
          exact ⟨⟨gs, go, gc, fd, h.qm (QM.of t) (fun j q => .inl q)⟩, ⟨l, h1, row_qt h2 t, h3⟩, fun j q => Nat.lt_of_lt_of_le (hm j q) (Turn.size t), ha⟩
        case assign =>
          intro m l' Mm kk x X1 K hx h hm hK
          have HKK := hide' hK
          have Hh := hide' (And.intro h (And.intro hx hm))
          clear hK h hm hx
          unfold encL
          gi_wp2
          exact HKK.out _ _ (Turn.refl _ X1) ⟨Hh.out.1, Hh.out.2.1, fun j q => (Hh.out.2.2 j q).1, rfl⟩
        case body =>
          rintro m l' Mm kk ⟨ro, rc⟩ a' X1 ⟨⟨gs, go, gc, fd, h⟩, ⟨l, h1, h2, h3⟩, hm, rfl⟩
          have hll := chn_len h1
          have hkl := h.kl
          have hkM : kk < M := by rw [HZ.out.2.2]; exact fin_lt (fin_mn zs HZ.out.1).1 h1
          have hkM' : ¬ ((M : Int) < (kk : Int)) := by omega
          have hM4 : M ≤ 40320 := by rw [HZ.out.2.2]; exact mn_le (Nat.le_refl _) (by rw [List.take_length]; exact HZ.out.1)
          have Hk4 : Hid (kk < 40320) := hide' (by omega)
          have bV1 : Below w.heap.size w X1 := KV.out.1.sq.bel.trans (h.t.below (fun j e => e.elim (fun e => by rw [e]; exact K5.out.2.2.2.1) (fun e => by rw [e]; exact K5.out.2.2.2.2.1)) KV.out.1.sq.bel.size)
          have k3 : X1.heap[x3]? = some (.cells #[.slice pa P pc] 23 (0, 0)) := (h.t.block x3 (lt_of_heap KV.out.1.sq.h3) (fun e => e.elim (fun e => cells_ne KV.out.1.sq.h3 KV.out.2.1 (by decide) e) (fun e => cells_ne KV.out.1.sq.h3 KV.out.2.2.1 (by decide) e))).trans KV.out.1.sq.h3
          have k7 : X1.heap[x7]? = some (.cells #[.int .i64 (M : Int)] 3 (0, 0)) := (h.t.block x7 (lt_of_heap KV.out.1.h7) (fun e => e.elim (fun e => cells_ne KV.out.1.h7 KV.out.2.1 (by decide) e) (fun e => cells_ne KV.out.1.h7 KV.out.2.2.1 (by decide) e))).trans KV.out.1.h7
          have e7 := Lib.cell_of_heap k7 0
          have e9 : X1.cell? ⟨x9, 0, none⟩ = some (.slice go kk gc) := by rw [Lib.cell_of_heap h.hb, hkl]; rfl
          have HX := hide' (And.intro h (And.intro h1 (And.intro hm (And.intro bV1 (And.intro k3 hll)))))
          have H2 := hide' h2
          obtain ⟨i0, hi, hz0, hz1, hz2⟩ := info_parts info23
          simp only at *
          clear h h1 h2 h3 hm hkM hM4 bV1 k3 k7 hkl hll
          gi_wp2_with (with_reducible refine stay_app _ _ 23 rfl ?_)
          unfold Stay
          have hxl : (X1.ownsRow (V.heap.size + 2) 3 1 (.slice ro l.length rc) l.length (ivs l)) := by rw [HX.out.2.2.2.2.2]; exact H2.out
          refine copyIn X1 rfl _ _ rfl rfl (ro := ro) (rc := rc) (l := l) (by rw [HX.out.2.2.2.2.2]; rfl) hxl (by rw [HX.out.2.2.2.2.2]; have := HZ.out.1; omega) ?_
          intro ro2 rc2 X2 g2 t2
          have e9' : X2.cell? ⟨x9, 0, none⟩ = some (.slice go kk gc) := (t2.cell (p := ⟨x9, 0, none⟩) (lt_of_heap HX.out.1.hb) id).trans e9
          have hrow2 : X2.ownsRow V.heap.size 23 1 (.slice go kk gc) kk (gs.map Rw.v) := by have := t2.row HX.out.1.row (fun _ _ q => q); rw [HX.out.1.kl] at this; exact this
          have HB3 : Hid (V.heap.size ≤ X2.heap.size) := hide' (Nat.le_trans HX.out.1.t.size t2.size)
          have HR := hide' hrow2
          have H22 := hide' (And.intro g2 t2)
          clear hxl H2 g2 t2 e9 e7 hrow2
          gi_wp2_with (with_reducible refine stay_app _ _ 31 rfl ?_)
          unfold Stay
          refine appendIn _ rfl _ _ 31 rfl V.heap.size 23 i0 _ 1 24 Try.underlying31 hi hz0 hz1 hz2 rfl (by decide) (.slice go kk gc) kk (gs.map Rw.v) rfl (HR.out.alloc _) ⟨X2.heap.size, 0, none⟩ 1 1 [.slice ro2 l.length rc2] rfl rfl (one_new _ _ _) (by simp [Value.oneCell']) (by decide) (by have := Hk4.out; unfold maxLen; omega) (by have := Hk4.out; omega) (by have := HB3.out; simp; omega) ?_
          intro g4 c4 X4 r4 hg4 hat4
          obtain ⟨h, h1, hm, bV1, k3, hll⟩ := HX.out
          have hkl := h.kl
          have r4' : X4.ownsRow V.heap.size 23 1 (.slice (some ⟨g4, 0, none⟩) (gs.length + 1) c4) (gs.length + 1) (gs.map Rw.v ++ [.slice ro2 l.length rc2]) := by rw [hkl]; exact r4
          have hg4' : (X2.alloc (.cells #[.slice ro2 l.length rc2] 23)).grownBy X4 (Value.slice go gs.length gc).ownBlock := by rw [hkl]; exact hg4
          have hat4' : (Value.slice go gs.length gc).ownBlock = some g4 ∨ X2.heap.size ≤ g4 := by rw [hkl]; rcases hat4 with q | q; exact .inl q; exact .inr (by rw [q]; simp)
          have PA : ∀ X5 fd', Turn (fun _ => False) (X4.setCell ⟨x9, 0, none⟩ (.slice (some ⟨g4, 0, none⟩) (gs.length + 1) c4)) X5 → fd' = (fd || decide (l = ps)) → _ := fun X5 fd' q1 q2 => h.add hm h1 H22.out.2 H22.out.1 r4' hg4' hat4' q1 q2
          obtain ⟨_, _, _, hb4, hf4⟩ := PA _ _ (Turn.refl _ _) rfl
          have f5 : X4.cell? ⟨x9, 0, none⟩ = some (.slice go kk gc) := by rw [Lib.cell_of_heap hb4, hkl]; rfl
          have f6 : X4.frozen? ⟨x9, 0, none⟩ = false := Lib.frozen_of_heap hb4 0
          rw [hkl] at hf4 PA
          obtain ⟨Y, hY⟩ : ∃ Y, Y = X4.setCell ⟨x9, 0, none⟩ (.slice (some ⟨g4, 0, none⟩) (kk + 1) c4) := ⟨_, rfl⟩
          rw [← hY] at hf4 PA
          have tgo : Turn (fun j => At go j ∨ j = x9) X2 Y := by
            rw [hY]
            exact ((((Turn.refl (At go) X2).alloc (.cells #[.slice ro2 l.length rc2] 23)).grown hg4' (fun k hk _ => own_at hk)).mono (fun _ _ q => .inl q)).trans ((turn_b x9 0 _ X4).mono (fun _ _ q => .inr q))
          have hgoV : ∀ j, At go j → V.heap.size ≤ j := fun j hj => (row_kind h.row hj).1
          have bY : Below w.heap.size w Y := by
            have b2 : Below w.heap.size w X2 := bV1.trans (H22.out.2.below (fun j q => q.elim) bV1.size)
            exact b2.trans (tgo.below (fun j e => e.elim (fun q => Nat.le_trans KV.out.1.sq.bel.size (hgoV j q)) (fun e => by rw [e]; exact K5.out.2.2.2.1)) b2.size)
          have k3Y : Y.heap[x3]? = some (.cells #[.slice pa P pc] 23 (0, 0)) := by
            have q2 := (H22.out.2.block x3 (lt_of_heap k3) id).trans k3
            refine (tgo.block x3 (lt_of_heap q2) (fun e => e.elim (fun q => ?_) (fun e => cells_ne KV.out.1.sq.h3 KV.out.2.1 (by decide) e))).trans q2
            have := hgoV x3 q
            have := lt_of_heap KV.out.1.sq.h3
            omega
          have c3Y : Y.cell? ⟨x3, 0, none⟩ = some (.slice pa P pc) := Lib.cell_of_heap k3Y 0
          have cfY : Y.cell? ⟨xf, 0, none⟩ = some (.bool fd) := Lib.cell_of_heap hf4 0
          have gY : Gr X1.heap.size l ro2 rc2 Y := H22.out.1.kept tgo (fun j hj e => by
            have g1 := (H22.out.1.at hj).1
            rcases e with e | e
            · obtain ⟨_, _, cs, q, hh⟩ := row_kind h.row e
              have := lt_of_heap hh
              omega
            · have := lt_of_heap h.hb
              omega)
          have CS := hide' (same_any ro2 rc2 l pa pc ps Y (Ints.of_row gY.row) (HP.out _ bY) (by rw [hll]; have := HZ.out.1; omega))
          rw [← HL.out.2.2.2] at CS
          have ffY := Lib.frozen_of_heap hf4 0
          have HPA := hide' PA
          have HY := hide' hY
          rw [hY] at c3Y cfY ffY CS
          clear hll hf4 e9' r4 hg4 hat4 r4' hg4' hat4' PA hb4 tgo hgoV bY k3Y gY h h1 hm bV1 k3 HR H22 hkl hY
          cases fd with
          | true =>
            gi_wp2
            refine ⟨trivial, ?_⟩
            gi_wp2
            have R := HPA.out Y true (Turn.refl _ _) rfl
            rw [HY.out] at R
            exact ⟨R.1, ⟨_, _, _, _, R.2.1.sub (fun j q => q.1)⟩, fun j q _ => R.2.2.1 j q⟩
          | false =>
            have cfZ : ∀ m, ((X4.setCell ⟨x9, 0, none⟩ (.slice (some ⟨g4, 0, none⟩) (kk + 1) c4)).drewN m).cell? ⟨xf, 0, none⟩ = some (.bool false) := fun m => cfY
            have ffZ : ∀ m, ((X4.setCell ⟨x9, 0, none⟩ (.slice (some ⟨g4, 0, none⟩) (kk + 1) c4)).drewN m).frozen? ⟨xf, 0, none⟩ = false := fun m => ffY
            gi_wp2_with (refine ⟨trivial, (fun q => by simp [Fence.wide] at q), (CallsIn.inRound l' (callsIn_wide.2 CS.out)).mono ?_⟩; rintro e w9 ⟨rfl, m9, rfl⟩)
            have R := HPA.out (Y.drewN m9) (decide (l = ps)) ((Turn.refl _ _).drewN m9) rfl
            rw [HY.out] at R
            exact ⟨R.1, ⟨_, _, _, _, R.2.1.sub (fun j q => q.1)⟩, fun j q _ => R.2.2.1 j q⟩
        case done =>
          intro Mm kk X hfin ⟨gs, go, gc, fd, hG⟩ hD
          have hkM : kk = M := by rw [HZ.out.2.2]; exact fin_uniq hfin (fin_mn zs HZ.out.1).1
          have hM4 : M ≤ 40320 := by rw [HZ.out.2.2]; exact mn_le (Nat.le_refl _) (by rw [List.take_length]; exact HZ.out.1)
          have hfd : fd = true ↔ ps.Perm (fz zs zs.length) := by
            rw [hG.sn, hkM, HZ.out.2.2]
            exact one_of HZ.out.1
          have gz := Gz.of hG KV.out.1 KV.out.2.1 KV.out.2.2.1 hD ⟨K5.out.2.2.2.1, K5.out.2.2.2.2.1⟩ K5.out.2.2.2.2.2
          have hkl : gs.length = M := by rw [hG.kl, hkM]
          have cf : X.cell? ⟨xf, 0, none⟩ = some (.bool fd) := Lib.cell_of_heap hG.hf 0
          have hfl := lt_of_heap hG.hf
          have c9 : X.cell? ⟨x9, 0, none⟩ = some (.slice go M gc) := by rw [Lib.cell_of_heap gz.hb, hkl]; rfl
          obtain ⟨c3, c4, c7, f4, f7⟩ := gz.sm.c
          have CE : Hid (∀ W, Below X.heap.size X W → Calls Try.prog 38 #[.slice sa k sc, .slice pa P pc] W fun e w' => e = .returned (.bool fd) ∧ Below W.heap.size W w') := hide' (fun W b => by
            have bw := (gz.below b).sm.sq.bel
            have := O.ended_walk sa sc zs pa pc ps W (HI.out _ bw) (HP.out _ bw) (by have := HZ.out; omega) (by have := HZ.out; omega) HL.out.2.1 fd hfd
            rw [← HL.out.2.2.1, ← HL.out.2.2.2] at this
            exact this)
          have GZ := hide' (And.intro gz (And.intro hkl hM4))
          have l3 := lt_of_heap gz.sm.sq.h3
          have l7 := lt_of_heap gz.sm.h7
          have l9 := lt_of_heap gz.hb
          have hff : (fd == fd) = true := by simp
          clear hG hD hfin hkM hM4 hfd gz hkl K5 KV SQ hMb
          go_wp2_with fail
          go_region_held3 (fun w' => w'.cell? ⟨x9, 0, none⟩ = some (.slice go M gc) ∧ w'.cell? ⟨x7, 0, none⟩ = some (.int .i64 (M : Int)) ∧ w'.cell? ⟨xf, 0, none⟩ = some (.bool fd) ∧ w'.cell? ⟨x3, 0, none⟩ = some (.slice pa P pc)) (first | go_keep | exact ⟨k9, k7, kf, k3⟩) ((go_at_call 38; refine (CE.out _ ?_).mono ?_; exact (Below.refl _ _).drew; rintro e w8 ⟨rfl, b8⟩; have k9 := (b8.cell (p := ⟨x9, 0, none⟩) l9).trans c9; have k7 := (b8.cell (p := ⟨x7, 0, none⟩) l7).trans c7; have kf := (b8.cell (p := ⟨xf, 0, none⟩) hfl).trans cf; have k3 := (b8.cell (p := ⟨x3, 0, none⟩) l3).trans c3))
          rename_i hHeld
          have G8 := hide' (GZ.out.1.below ((Below.refl _ _).drew.trans b8))
          have HK := hide' GZ.out.2
          clear hHeld k9 k7 kf k3 b8 CE GZ c3 c4 c7 f4 f7 cf c9 hfl l3 l7 l9
          go_wp2_with fail
          go_loopw [14] (fun i wx => ∃ q : Nat, i = .int .i64 (q : Int) ∧ q ≤ M ∧ Gz w x3 x4 x7 x9 V.heap.size (.slice pa P pc) M zs gs go gc wx) (fun i _ => M - (intOf i).toNat)
          case atStart => exact ⟨0, rfl, Nat.zero_le _, G8.out⟩
          case round =>
            obtain ⟨q, rfl, hq, hZ⟩ := hrel
            clear G8
            have c9 : wr.cell? ⟨x9, 0, none⟩ = some (.slice go M gc) := by rw [Lib.cell_of_heap hZ.hb, HK.out.1]; rfl
            have l9 := lt_of_heap hZ.hb
            have GZ := hide' hZ
            clear hZ
            by_cases hlt : q < M
            · have hlt' : (q : Int) < (M : Int) := by omega
              have ek := hide' (O.wsc (a := q) (by have := HK.out.2; omega))
              have Hms := hide' (msr' hlt _ rfl)
              have Hlt := hide' hlt
              obtain ⟨g, r, l, rfl, cq, hgq, hcq, hrl, hIq⟩ := GZ.out.at (i := q) (by rw [HK.out.1]; exact hlt)
              have lg : g < wr.heap.size := by
                obtain ⟨B, hr⟩ := GZ.out.row
                obtain ⟨_, _, cs, qq, hh⟩ := row_kind hr ⟨_, rfl, rfl⟩
                exact lt_of_heap hh
              obtain ⟨ra, rl, rp⟩ := r
              simp only at cq hrl hIq
              subst hrl
              have CE : Hid (∀ W, Below wr.heap.size wr W → Calls Try.prog 38 #[.slice sa k sc, .slice ra l.length rp] W fun e w' => e = .returned (.bool true) ∧ Below W.heap.size W w') := hide' (fun W b => by
                have bw := (GZ.out.below b).sm.sq.bel
                have := O.ended_walk sa sc zs ra rp l W (HI.out _ bw) (hIq.below b) (by have := HZ.out; omega) (by have := HZ.out; omega) (by rw [chn_len hcq]; have := HZ.out; omega) true ⟨fun _ => chn_perm hcq, fun _ => rfl⟩
                rw [← HL.out.2.2.1] at this
                exact this)
              by_cases hq0 : q = 0
              · subst hq0
                clear hlt hq hIq hcq hgq
                have z0 : ((0 : Nat) : Int) = 0 := rfl
                rw [z0] at hlt' ⊢
                clear z0
                go_wp2_with fail
                refine reg33a hlt' l9 lg c9 cq CE.out (fun w8 b8 => ?_)
                have G9 := hide' (GZ.out.below b8)
                clear b8 CE c9 cq
                go_wp2_with fail
                exact ⟨⟨1, by first | rfl | rw [ek.out], Hlt.out, G9.out⟩, by first | exact Hms.out | (rw [ek.out]; exact Hms.out)⟩
              · obtain ⟨p, hqp⟩ : ∃ p, q = p + 1 := ⟨q - 1, by omega⟩
                obtain ⟨g', r', l', hg', cp, hgp, hcp, hrl', hIp⟩ := GZ.out.at (i := p) (by rw [HK.out.1]; omega)
                cases hg'
                obtain ⟨ra', rl', rp'⟩ := r'
                simp only at cp hrl' hIp
                subst hrl'
                obtain ⟨z, z1, z2, z3, z4⟩ := chn_lt hcp (by rw [← hqp]; exact hcq)
                have CB : Hid (∀ W, Below wr.heap.size wr W → Calls Try.prog 39 #[.slice ra' l'.length rp', .slice ra l.length rp] W fun e w' => e = .returned (.bool true) ∧ Below W.heap.size W w') := hide' (fun W b => (below_lt ra' rp' l' ra rp l W (hIp.below b) (hIq.below b) (by rw [chn_len hcp]; have := HZ.out; omega) z z1 z2 z3 z4).mono fun e w' ⟨h1, m, h2⟩ => ⟨h1, by rw [h2]; exact below_drewN (Below.refl _ _) m⟩)
                have hpM : p < M := by omega
                have hq1 : (0 : Int) < (q : Int) := by omega
                have e5 : (q : Int) - 1 = (p : Int) := by omega
                have e6 : (0 : Int) ≤ (p : Int) := by omega
                have hp4 : p ≤ 40320 := by have := HK.out.2; omega
                have e7 : wrap64 (p : Int) = (p : Int) := wrap_p hp4
                have e8 : IntKind.wrap .i64 (p : Int) = (p : Int) := (IntWalk.i64_left _).trans e7
                have e9 : (p : Int) < (M : Int) := Int.ofNat_lt.2 hpM
                clear hlt hq hIq hcq hgq hIp hcp hgp z1 z2 z3 z4 hqp hq0
                go_wp2_with fail
                refine reg33b hlt' hq1 e5 e6 e7 e8 e9 Hlt.out hpM (Int.natCast_pos.1 hq1) l9 lg c9 cp cq CB.out CE.out (fun w8 b8 => ?_)
                have G9 := hide' (GZ.out.below b8)
                clear b8 CE CB c9 cp cq
                go_wp2_with fail
                exact ⟨⟨q + 1, by first | rfl | rw [ek.out], Hlt.out, G9.out⟩, by first | exact Hms.out | (rw [ek.out]; exact Hms.out)⟩
            · obtain rfl : q = M := by omega
              have hlt' : ¬ ((q : Int) < (q : Int)) := by omega
              obtain ⟨c3, c4, c7, f4, f7⟩ := GZ.out.sm.c
              have hans := hide' (GZ.out.sm.sq.ans true)
              clear hlt hq
              go_wp2
              have hd := hide' (show (wr.setCell ⟨x4, 0, none⟩ (.bool true)).heap[V.heap.size]? = some (.deferred (some [])) from ((turn_b x4 0 (.bool true) wr).block _ (Array.getElem?_eq_some_iff.1 GZ.out.hd).1 (fun e => by
                have h1 := GZ.out.hd
                rw [e, GZ.out.sm.sq.h4] at h1
                cases h1)).trans GZ.out.hd)
              refine ⟨by simp, .inl ⟨_, _, rfl, run_takeDeferred hd.out, ?_⟩⟩
              have t9 : Turn (fun j => j = V.heap.size) (wr.setCell ⟨x4, 0, none⟩ (.bool true)) ((wr.setCell ⟨x4, 0, none⟩ (.bool true)).putObj V.heap.size (.deferred none)) := ⟨rfl, rfl, rfl, by simp, fun k _ hk => World.putObj_heap_other hk⟩
              have r4 := (t9.block x4 (lt_of_heap hans.out.1) (fun e => by
                have h1 := hd.out
                rw [← e, hans.out.1] at h1
                cases h1)).trans hans.out.1
              have b9 := hans.out.2.trans (t9.below (fun j e => by rw [e]; exact HVw.out) hans.out.2.size)
              refine ⟨.bool true, ?_, rfl, b9⟩
              have r5 := Lib.cell_of_heap r4 0
              simp [results, Try.f10, go_sem, r5]
        case stop => exact fun c kk X h => h.elim
end X
end Go.Proofs.Ytbgjggblaeadlaa
