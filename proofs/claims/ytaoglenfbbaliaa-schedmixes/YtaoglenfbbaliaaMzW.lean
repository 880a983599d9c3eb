import Derived.Test.YtaoglenfbbaliaaRgP
import Derived.Test.YtaoglenfbbaliaaAv
import Derived.Test.YtaoglenfbbaliaaApW
import Derived.Test.YtaoglenfbbaliaaTuP
import Derived.Test.YtaoglenfbbaliaaTwn
set_option linter.unusedVariables false
set_option linter.unusedSimpArgs false
namespace Go.Proofs.Ytaoglenfbbaliaa
open Go.RowKit
attribute [local go_sem] Oper.semAt_some
namespace X
open C F A
set_option maxRecDepth 100000 in
theorem none_seq (n : Nat) (w : World) : SeqG Fence.wide Try.prog 52 #[] (encL n) (fun _ _ _ (_ : Option Addr × Nat) _ => False) (fun _ _ => False) (fun k => k = 0) (fun _ => False) w := by
  intro m l J Jx W hsz hsame hJt hXt hY h0
  have H0 := hide' h0
  clear hY hJt hXt hsame hsz h0
  refine callsIn_of_wp_marks Try.func52 rfl trivial ?_ rfl
  refine wpIn_wide.2 ?_
  simp only [Try.ntmps52, List.size_toArray, List.length_cons, List.length_nil, Nat.reduceAdd, Nat.reduceSub, Array.replicate_succ, Array.replicate_zero, List.push_toArray, List.append_toArray, List.nil_append, List.cons_append]
  go_wp2
  exact ⟨_, results_none rfl _ _ _, ⟨_, rfl⟩, .inl ⟨_, 0, rfl, H0.out⟩⟩
structure Mz (w : World) (zs : List Int) (oo : Option Addr) (oc b5 g tc : Nat) (X : World) : Prop where
  bel : Below w.heap.size w X
  h5 : X.heap[b5]? = some (.cells #[.slice oo 0 oc] 31 (0, 0))
  tw : ∃ ys : List Int, zs.length ≤ ys.length ∧ X.ownsRow w.heap.size 3 1 (.slice (some ⟨g, 0, none⟩) ys.length tc) ys.length (ivs ys)
  n2 : b5 ≠ g
  n5 : w.heap.size ≤ g
theorem Mz.below {w : World} {zs : List Int} {oo : Option Addr} {oc b5 g tc : Nat} {X X' : World} (h : Mz w zs oo oc b5 g tc X) (b : Below X.heap.size X X') : Mz w zs oo oc b5 g tc X' := by
  obtain ⟨ys, h1, h2⟩ := h.tw
  exact ⟨h.bel.trans (b.mono h.bel.size), (b.block b5 (lt_of_heap h.h5)).trans h.h5, ⟨ys, h1, (turn_below (S := fun _ => False) b).row h2 (fun _ _ q => q)⟩, h.n2, h.n5⟩
theorem Mz.put {w : World} {zs : List Int} {oo : Option Addr} {oc b5 g tc : Nat} {X : World} (h : Mz w zs oo oc b5 g tc X) {k : Nat} (hk : k < zs.length) : ∃ v, X.cell? ⟨g, k, none⟩ = some v ∧ X.frozen? ⟨g, k, none⟩ = false ∧ Mz w zs oo oc b5 g tc (X.setCell ⟨g, k, none⟩ (.int .i64 1)) := by
  obtain ⟨ys, h1, h2⟩ := h.tw
  obtain ⟨jl, jf, _, _⟩ := row_int h2 (k := k) (by omega)
  have t : Turn (fun j => j = g) X (X.setCell ⟨g, k, none⟩ (.int .i64 1)) := (Turn.refl (fun j => j = g) X).setCell (p := ⟨g, k, none⟩) (fun _ => rfl) _
  exact ⟨_, jl, jf, h.bel.trans (t.below (fun j hj => by rw [hj]; exact h.n5) h.bel.size), (t.block b5 (lt_of_heap h.h5) h.n2).trans h.h5, ⟨ys.set k 1, by rw [List.length_set]; exact h1, by rw [List.length_set]; exact row_put h2 1⟩, h.n2, h.n5⟩
set_option maxRecDepth 100000 in
set_option maxHeartbeats 8000000 in
theorem mixes_walk0 (a : Option Addr) (c : Nat) (zs : List Int) (left : Int) (w : World) (hI : Ints w a zs) (hn : a = none → c = 0) (hl : zs.length ≤ 17592186043904) (hm : mxb zs = false) : Calls Try.prog 8 #[.slice a zs.length c, .int .i64 left] w fun e w' => e = .returned (.bool true) ∧ Below w.heap.size w w' := by
  refine (callsIn_wide (n := 1)).1 ?_
  refine callsIn_of_wp_marks Try.func8 rfl trivial ?_ rfl
  refine wpIn_wide.2 ?_
  simp only [Try.ntmps8, List.size_toArray, List.length_cons, List.length_nil, Nat.reduceAdd, Nat.reduceSub, Array.replicate_succ, Array.replicate_zero, List.push_toArray, List.append_toArray, List.nil_append, List.cons_append]
  have HI := hide' (fun w' (b : Below w.heap.size w w') => hI.below b)
  have HL := hide' (And.intro hl hn)
  have HM := hide' hm
  have CM := hide' (rmixes_any a c zs w hI (by omega))
  clear hI hn hl hm
  go_wp2_with fail
  refine CM.out.mono ?_
  rintro e w1 ⟨vs, oo, oc, b, rfl, hb1, hMo, hv40, hx⟩
  obtain ⟨rfl, rfl⟩ : vs = [] ∧ b = true := by
    rcases hx with ⟨_, q⟩ | ⟨q, _⟩
    · exact q
    · rw [HM.out] at q; cases q
  obtain ⟨wa, hwa⟩ : ∃ wa, wa = w1.alloc (.cells #[.slice oo 0 oc] 31) := ⟨_, rfl⟩
  have hba : Below w1.heap.size w1 wa := by rw [hwa]; exact (Below.refl _ _).alloc (Nat.le_refl _) _
  obtain ⟨b5, hb5⟩ : ∃ b5, b5 = w1.heap.size := ⟨_, rfl⟩
  have hx5 : wa.heap[b5]? = some (.cells #[.slice oo 0 oc] 31 (0, 0)) := by rw [hwa, hb5]; exact heap_alloc_new _ _
  have KA : Hid (Below w.heap.size w wa ∧ wa.heap[b5]? = some (.cells #[.slice oo 0 oc] 31 (0, 0))) := hide' ⟨hb1.trans (hba.mono hb1.size), hx5⟩
  have CT := hide' (twin_any a c zs wa (HI.out _ KA.out.1) HL.out.2 HL.out.1)
  have Hwa := hide' hwa
  have Hb5 := hide' hb5
  simp only [List.length_nil] at *
  clear CM hb1 hMo hv40 hx hba hx5 hwa hb5
  go_wp2_with fail
  rw [← Hb5.out, ← Hwa.out]
  refine CT.out.mono ?_
  rintro e w2 ⟨g, tc, rfl, hT, hb2⟩
  have KT := hide' (And.intro hT hb2)
  clear CT hT hb2
  have CX := hide' (mixes_no (some ⟨g, 0, none⟩) tc zs w2 KT.out.1.ints HM.out)
  go_wp2_with fail
  refine CX.out.mono ?_
  rintro e w3 ⟨rfl, hw3⟩
  obtain rfl := hw3.symm
  have CK := hide' (kept_any a c zs w2 KT.out.1 (HI.out _ (KA.out.1.trans (KT.out.2.mono KA.out.1.size))) HL.out.1)
  have heq := eq_func (.func 52) #[] #[]
  clear CX hw3
  go_wp2_with fail
  refine CK.out.mono ?_
  rintro e w4 ⟨rfl, m4, hw4⟩
  have b4 : Below w2.heap.size w2 w4 := by rw [hw4]; exact ⟨rfl, rfl, rfl, Nat.le_refl _, fun _ _ => rfl⟩
  have KM : Hid (Mz w zs oo oc b5 g tc w4) := hide' (by
    have e1 := KA.out.1.size
    have hgb := KT.out.1.blk
    have h5l := lt_of_heap KA.out.2
    exact Mz.below (X := w2) ⟨KA.out.1.trans (KT.out.2.mono e1), (KT.out.2.block b5 h5l).trans KA.out.2, ⟨F.mk zs 24, by rw [mk_len]; omega, (Gr.mono ⟨KT.out.1.row⟩ e1).row⟩, by omega, by omega⟩ b4)
  clear hw4 b4 CK KA KT heq
  go_wp2_with fail
  go_loopw [9] (fun i wx => ∃ k : Nat, i = .int .i64 (k : Int) ∧ k ≤ zs.length ∧ Mz w zs oo oc b5 g tc wx) (fun i _ => zs.length - (intOf i).toNat)
  case atStart => exact ⟨0, rfl, Nat.zero_le _, KM.out⟩
  case round =>
    obtain ⟨k, rfl, hk, hMs⟩ := hrel
    by_cases hlt : k < zs.length
    · have hlt' : (k : Int) < (zs.length : Int) := by omega
      have e1 := hide' (wsucN k (by have := HL.out.1; omega))
      have Hend := hide' (msr' hlt _ rfl)
      have Hk := hide' hlt
      obtain ⟨v0, jl, jf, hM2⟩ := hMs.put hlt
      have K2 := hide' hM2
      clear hMs hM2 hk hlt
      go_wp2
      exact ⟨⟨k + 1, by first | rfl | (rw [e1.out]), Hk.out, K2.out⟩, by first | exact Hend.out | (rw [e1.out]; exact Hend.out)⟩
    · obtain rfl : k = zs.length := by omega
      obtain ⟨V, hV⟩ : ∃ V, V = wr.alloc (.cells #[.slice none 0 0] 31) := ⟨_, rfl⟩
      obtain ⟨b10, hb10⟩ : ∃ b, b = wr.heap.size := ⟨_, rfl⟩
      have bV : Below wr.heap.size wr V := by rw [hV]; exact (Below.refl _ _).alloc (Nat.le_refl _) _
      have HV : Hid (V.heap[b10]? = some (.cells #[.slice none 0 0] 31 (0, 0)) ∧ Mz w zs oo oc b5 g tc V) := hide' ⟨by rw [hV, hb10]; exact heap_alloc_new _ _, hMs.below bV⟩
      have HVV := hide' hV
      have HBB := hide' hb10
      clear hMs hk hlt bV hV hb10 KM
      go_wp2_with fail
      rw [← HBB.out, ← HVV.out]
      clear HVV HBB
      refine (wpIn_wide (n := 1)).1 ?_
      refine range_g rfl (Nat.le_refl _) (gf := 52) (lb := #[]) rfl trivial Try.call52 (none_seq 0 V) (Nat.le_refl _) (fun j q => q.elim) (fun x => rfl)
        (fun M k X => Below V.heap.size V X) (fun c k X => False) (fun M k x a' X => False)
        ?start ?stab ?stabx ?staba ?assign ?body ?done ?stop
      case start => exact Below.refl _ _
      case stab => exact fun M M' k X1 X2 h t hm => h.trans (Turn.below t (fun j q => q.elim (fun q => q.1) (fun q => q.2)) h.size)
      case stabx => exact fun c k X1 X2 h t => h
      case staba => exact fun M k x a' X1 X2 h t => h
      case assign => intro m l' M k x X1 K hx; exact hx.elim
      case body => intro m l' M k x a' X1 h; exact h.elim
      case stop => exact fun c k W h => h.elim
      intro M k X hfin hX hD
      have MX : Hid (Mz w zs oo oc b5 g tc X ∧ X.heap[b10]? = some (.cells #[.slice none 0 0] 31 (0, 0)) ∧ X.heap[V.heap.size]? = some (.deferred (some [])) ∧ w.heap.size ≤ V.heap.size) := hide' ⟨HV.out.2.below hX, (hX.block b10 (lt_of_heap HV.out.1)).trans HV.out.1, hD, HV.out.2.bel.size⟩
      have CWh := hide' (which_any left 41 (by omega) (by omega) X)
      clear hX hD hfin HV
      go_wp2_with fail
      refine CWh.out.mono ?_
      rintro e w5 ⟨n, rfl, hn41, hw5⟩
      obtain rfl := hw5.symm
      clear hw5 CWh hn41
      obtain ⟨V2, hV2⟩ : ∃ V2, V2 = (X.alloc (.cells #[.int .i64 (n : Int)] 3)).alloc (.cells #[.slice none 0 0] 31) := ⟨_, rfl⟩
      obtain ⟨b12, hb12⟩ : ∃ b, b = X.heap.size := ⟨_, rfl⟩
      obtain ⟨b13, hb13⟩ : ∃ b, b = X.heap.size + 1 := ⟨_, rfl⟩
      have HV2 := hide' hV2
      have HB12 := hide' hb12
      have HB13 := hide' hb13
      have hb2V : Below X.heap.size X V2 := by rw [hV2]; exact ((Below.refl _ _).alloc (Nat.le_refl _) _).alloc (by simp) _
      have HV2x : Hid (V2.heap[b13]? = some (.cells #[.slice none 0 0] 31 (0, 0)) ∧ V2.heap[b12]? = some (.cells #[.int .i64 (n : Int)] 3 (0, 0)) ∧ Mz w zs oo oc b5 g tc V2 ∧ V2.heap[b10]? = some (.cells #[.slice none 0 0] 31 (0, 0)) ∧ V2.heap[V.heap.size]? = some (.deferred (some [])) ∧ w.heap.size ≤ b12 ∧ b12 ≠ b10 ∧ b12 ≠ b5 ∧ b12 ≠ b13 ∧ V.heap.size ≠ V2.heap.size ∧ V.heap.size ≠ b12) := hide' (by
        have q0 : (X.alloc (.cells #[.int .i64 (n : Int)] 3)).heap.size = X.heap.size + 1 := by simp
        have l1 := lt_of_heap MX.out.2.1
        have l2 := lt_of_heap MX.out.1.h5
        have l3 := lt_of_heap MX.out.2.2.1
        have l4 := MX.out.1.bel.size
        have l5 := hb2V.size
        refine ⟨?_, ?_, MX.out.1.below hb2V, (hb2V.block b10 l1).trans MX.out.2.1, (hb2V.block _ l3).trans MX.out.2.2.1, by omega, by omega, by omega, by omega, by omega, by omega⟩
        · rw [hV2, hb13, ← q0]; exact heap_alloc_new _ _
        · rw [hV2, hb12]; exact (Below.heap_alloc _ _ _ (by simp)).trans (heap_alloc_new _ _))
      clear hb2V hV2 hb12 hb13
      go_wp2_with fail
      rw [← HB13.out, ← HB12.out, ← HV2.out]
      clear HV2 HB12 HB13
      refine (wpIn_wide (n := 1)).1 ?_
      refine range_g rfl (Nat.le_refl _) (gf := 52) (lb := #[]) rfl trivial Try.call52 (none_seq 0 V2) (Nat.le_refl _) (fun j q => q.elim) (fun x => rfl)
        (fun M k X => Below V2.heap.size V2 X) (fun c k X => False) (fun M k x a' X => False)
        ?start2 ?stab2 ?stabx2 ?staba2 ?assign2 ?body2 ?done2 ?stop2
      case start2 => exact Below.refl _ _
      case stab2 => exact fun M M' k X1 X2 h t hm => h.trans (Turn.below t (fun j q => q.elim (fun q => q.1) (fun q => q.2)) h.size)
      case stabx2 => exact fun c k X1 X2 h t => h
      case staba2 => exact fun M k x a' X1 X2 h t => h
      case assign2 => intro m l' M k x X1 K hx; exact hx.elim
      case body2 => intro m l' M k x a' X1 h; exact h.elim
      case stop2 => exact fun c k W h => h.elim
      intro M k X2 hfin hX hD2
      have k12 : X2.heap[b12]? = some (.cells #[.int .i64 (n : Int)] 3 (0, 0)) := (hX.block _ (lt_of_heap HV2x.out.2.1)).trans HV2x.out.2.1
      have k5 := (HV2x.out.2.2.1.below hX).h5
      have k10 := (hX.block _ (lt_of_heap HV2x.out.2.2.2.1)).trans HV2x.out.2.2.2.1
      have k13 := (hX.block _ (lt_of_heap HV2x.out.1)).trans HV2x.out.1
      have kd := (hX.block _ (lt_of_heap HV2x.out.2.2.2.2.1)).trans HV2x.out.2.2.2.2.1
      have hbl := (HV2x.out.2.2.1.below hX).bel
      have e12 : X2.cell? ⟨b12, 0, none⟩ = some (.int .i64 (n : Int)) := by rw [Lib.cell_of_heap k12]; rfl
      have f12 : X2.frozen? ⟨b12, 0, none⟩ = false := Lib.frozen_of_heap k12 0
      have e10 : X2.cell? ⟨b10, 0, none⟩ = some (.slice none 0 0) := by rw [Lib.cell_of_heap k10]; rfl
      have e5 : X2.cell? ⟨b5, 0, none⟩ = some (.slice oo 0 oc) := by rw [Lib.cell_of_heap k5]; rfl
      have e13 : X2.cell? ⟨b13, 0, none⟩ = some (.slice none 0 0) := by rw [Lib.cell_of_heap k13]; rfl
      have END : ∀ Y : World, Below w.heap.size w Y → Y.heap[V.heap.size]? = some (.deferred (some [])) → Y.heap[V2.heap.size]? = some (.deferred (some [])) → Calls Try.prog 18 #[.slice none 0 0, .slice oo 0 oc] Y fun e w' => e = .returned (.bool true) ∧ Below w.heap.size w w' ∧ w'.heap[V.heap.size]? = some (.deferred (some [])) ∧ w'.heap[V2.heap.size]? = some (.deferred (some [])) := fun Y hY h1 h2 =>
        (apart_any (B := Y.heap.size) (N := 0) none 0 oo oc (fun _ => ⟨none, 0, 0⟩) (fun _ => ⟨none, 0, 0⟩) (fun _ => []) Y (by omega) (Nat.le_refl _) (.inl rfl) (.inl rfl) (fun i hi => by omega) (fun i hi => by omega) (fun i hi => by omega) (fun i hi => by omega)).mono fun e w' ⟨he, ht⟩ =>
          have hno : ∀ j, ¬ Ds 0 (fun _ => (⟨none, 0, 0⟩ : Rw)) j := fun j ⟨i, hi, _⟩ => by omega
          ⟨he, hY.trans (ht.below (fun j q => (hno j q).elim) hY.size), (ht.block _ (lt_of_heap h1) (hno _)).trans h1, (ht.block _ (lt_of_heap h2) (hno _)).trans h2⟩
      have HVV2 : Hid (V.heap.size ≠ V2.heap.size ∧ w.heap.size ≤ V.heap.size ∧ w.heap.size ≤ V2.heap.size) := hide' ⟨HV2x.out.2.2.2.2.2.2.2.2.2.1, MX.out.2.2.2, HV2x.out.2.2.1.bel.size⟩
      have EE := hide' END
      clear END
      by_cases hn0 : (n : Int) > 0
      · have t3 : Turn (fun j => j = b12) X2 (X2.setCell ⟨b12, 0, none⟩ (.int .i64 0)) := (Turn.refl (fun j => j = b12) X2).setCell (p := ⟨b12, 0, none⟩) (fun _ => rfl) _
        obtain ⟨q1, q2, q3, q4, q5, q6, q7, q8, q9, q10, q11⟩ := HV2x.out
        have m12 := set_block (off := 0) (v := .int .i64 0) k12
        have g12 : (X2.setCell ⟨b12, 0, none⟩ (.int .i64 0)).cell? ⟨b12, 0, none⟩ = some (.int .i64 0) := by rw [Lib.cell_of_heap m12]; rfl
        have g5 : (X2.setCell ⟨b12, 0, none⟩ (.int .i64 0)).cell? ⟨b5, 0, none⟩ = some (.slice oo 0 oc) := by rw [Lib.cell_of_heap ((t3.block _ (lt_of_heap k5) (fun e => q8 e.symm)).trans k5)]; rfl
        have g10 : (X2.setCell ⟨b12, 0, none⟩ (.int .i64 0)).cell? ⟨b10, 0, none⟩ = some (.slice none 0 0) := by rw [Lib.cell_of_heap ((t3.block _ (lt_of_heap k10) (fun e => q7 e.symm)).trans k10)]; rfl
        have g13 : (X2.setCell ⟨b12, 0, none⟩ (.int .i64 0)).cell? ⟨b13, 0, none⟩ = some (.slice none 0 0) := by rw [Lib.cell_of_heap ((t3.block _ (lt_of_heap k13) (fun e => q9 e.symm)).trans k13)]; rfl
        have FF : Hid (Below w.heap.size w (X2.setCell ⟨b12, 0, none⟩ (.int .i64 0)) ∧ (X2.setCell ⟨b12, 0, none⟩ (.int .i64 0)).heap[V.heap.size]? = some (.deferred (some [])) ∧ (X2.setCell ⟨b12, 0, none⟩ (.int .i64 0)).heap[V2.heap.size]? = some (.deferred (some []))) := hide' ⟨hbl.trans (t3.below (fun j e => by rw [e]; exact q6) hbl.size), (t3.block _ (lt_of_heap kd) q11).trans kd, (t3.block _ (lt_of_heap hD2) (fun e => by have := lt_of_heap q2; omega)).trans hD2⟩
        clear q1 q2 q3 q4 q5 q6 q7 q8 q9 q10 q11 t3 m12 k12 k5 k10 k13 kd hbl hX hD2 hfin HV2x MX
        go_wp2_with fail
        go_loopw [15, 16, 17] (fun v15 v16 v17 wx => v15 = .slice none 0 0 ∧ v16 = .slice oo 0 oc ∧ v17 = .int .i64 0 ∧ wx = X2.setCell ⟨b12, 0, none⟩ (.int .i64 0)) (fun _ _ _ _ => 0)
        case atStart => exact ⟨rfl, rfl, rfl, rfl⟩
        case round =>
          obtain ⟨rfl, rfl, rfl, rfl⟩ := hrel
          have CA := hide' (EE.out _ FF.out.1 FF.out.2.1 FF.out.2.2)
          go_wp2_with fail
          refine CA.out.mono ?_
          rintro e w7 ⟨rfl, b7, d1, d2⟩
          have HD7 := hide' (And.intro d1 (And.intro d2 b7))
          clear d1 d2 b7 CA
          go_wp2
          refine ⟨by simp, .inl ⟨_, _, rfl, run_takeDeferred HD7.out.2.1, ?_⟩⟩
          have hq1 : (w7.putObj V2.heap.size (.deferred none)).heap[V.heap.size]? = some (.deferred (some [])) := (World.putObj_heap_other HVV2.out.1).trans HD7.out.1
          refine ⟨by simp, .inl ⟨_, _, rfl, run_takeDeferred hq1, ?_⟩⟩
          have t8 : Turn (fun j => j = V2.heap.size) w7 (w7.putObj V2.heap.size (.deferred none)) := ⟨rfl, rfl, rfl, by simp, fun k _ hk => World.putObj_heap_other hk⟩
          have t9 : Turn (fun j => j = V.heap.size) (w7.putObj V2.heap.size (.deferred none)) ((w7.putObj V2.heap.size (.deferred none)).putObj V.heap.size (.deferred none)) := ⟨rfl, rfl, rfl, by simp, fun k _ hk => World.putObj_heap_other hk⟩
          have b8 := HD7.out.2.2.trans (t8.below (fun j e => by rw [e]; exact HVV2.out.2.2) HD7.out.2.2.size)
          have b9 := b8.trans (t9.below (fun j e => by rw [e]; exact HVV2.out.2.1) b8.size)
          refine ⟨.bool true, ?_, rfl, b9⟩
          simp [results, Try.f8, go_sem]
      · obtain rfl : n = 0 := by omega
        have FF : Hid (Below w.heap.size w X2 ∧ X2.heap[V.heap.size]? = some (.deferred (some [])) ∧ X2.heap[V2.heap.size]? = some (.deferred (some []))) := hide' ⟨hbl, kd, hD2⟩
        have e12' : X2.cell? ⟨b12, 0, none⟩ = some (.int .i64 0) := e12
        clear k12 k5 k10 k13 kd hbl hX hD2 hfin HV2x MX e12
        go_wp2_with fail
        go_loopw [15, 16, 17] (fun v15 v16 v17 wx => v15 = .slice none 0 0 ∧ v16 = .slice oo 0 oc ∧ v17 = .int .i64 0 ∧ wx = X2) (fun _ _ _ _ => 0)
        case atStart => exact ⟨rfl, rfl, rfl, rfl⟩
        case round =>
          obtain ⟨rfl, rfl, rfl, rfl⟩ := hrel
          have CA := hide' (EE.out _ FF.out.1 FF.out.2.1 FF.out.2.2)
          go_wp2_with fail
          refine CA.out.mono ?_
          rintro e w7 ⟨rfl, b7, d1, d2⟩
          have HD7 := hide' (And.intro d1 (And.intro d2 b7))
          clear d1 d2 b7 CA
          go_wp2
          refine ⟨by simp, .inl ⟨_, _, rfl, run_takeDeferred HD7.out.2.1, ?_⟩⟩
          have hq1 : (w7.putObj V2.heap.size (.deferred none)).heap[V.heap.size]? = some (.deferred (some [])) := (World.putObj_heap_other HVV2.out.1).trans HD7.out.1
          refine ⟨by simp, .inl ⟨_, _, rfl, run_takeDeferred hq1, ?_⟩⟩
          have t8 : Turn (fun j => j = V2.heap.size) w7 (w7.putObj V2.heap.size (.deferred none)) := ⟨rfl, rfl, rfl, by simp, fun k _ hk => World.putObj_heap_other hk⟩
          have t9 : Turn (fun j => j = V.heap.size) (w7.putObj V2.heap.size (.deferred none)) ((w7.putObj V2.heap.size (.deferred none)).putObj V.heap.size (.deferred none)) := ⟨rfl, rfl, rfl, by simp, fun k _ hk => World.putObj_heap_other hk⟩
          have b8 := HD7.out.2.2.trans (t8.below (fun j e => by rw [e]; exact HVV2.out.2.2) HD7.out.2.2.size)
          have b9 := b8.trans (t9.below (fun j e => by rw [e]; exact HVV2.out.2.1) b8.size)
          refine ⟨.bool true, ?_, rfl, b9⟩
          simp [results, Try.f8, go_sem]
end X
end Go.Proofs.Ytaoglenfbbaliaa
