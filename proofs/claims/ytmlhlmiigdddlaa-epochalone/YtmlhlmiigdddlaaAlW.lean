import Derived.Test.YtmlhlmiigdddlaaBld
import Derived.Deep.CutBlock
import Derived.Deep.DeepCutAuto
set_option linter.unusedVariables false
set_option linter.unusedSimpArgs false
namespace Go.Proofs.Ytmlhlmiigdddlaa
open Go.RowKit
namespace A
open M F
set_option maxRecDepth 100000 in
set_option maxHeartbeats 1000000 in
theorem pick_big (k n : Int) (w : World) (hn : 0 < n) (hn2 : n ≤ 4000000) : Calls Try.prog 7 #[.int .i64 k, .int .i64 n] w fun e w' => e = .returned (.int .i64 (k % n)) ∧ w' = w := by
  by_cases h : k < 0
  · obtain ⟨t1, t2, t3, t4⟩ := tmod_neg h hn
    by_cases hz : k.tmod n < 0
    · rw [t3 hz]
      clear t3 t4 h
      go_enter Try.func7, Try.ntmps7
      go_wp2
      go_ret
      exact ⟨rfl, rfl⟩
    · have e := t4 (by omega)
      have e2 : k.tmod n = 0 := by omega
      rw [e]
      clear t3 t4 h e
      go_enter Try.func7, Try.ntmps7
      go_wp2
      go_ret
      exact ⟨rfl, rfl⟩
  · have h3 := Int.emod_nonneg k (b := n) (by omega)
    go_enter Try.func7, Try.ntmps7
    go_wp2
    go_ret
    exact ⟨rfl, rfl⟩
theorem modn (z : Int) (n : Nat) (h : 0 < n) : ∃ e : Nat, e < n ∧ z % (n : Int) = (e : Int) := by
  have h3 := Int.emod_nonneg z (b := (n : Int)) (by omega)
  have h4 := Int.emod_lt_of_pos z (b := (n : Int)) (by omega)
  exact ⟨(z % (n : Int)).toNat, by omega, by omega⟩
/-- a slice of bools -/
def Bls (w : World) (a : Option Addr) (bs : List Bool) : Prop := bs = [] ∨ ∃ b off, a = some ⟨b, off, none⟩ ∧ b < w.heap.size ∧ ∀ j, j < bs.length → w.cell? ⟨b, off + j, none⟩ = some (.bool (bs.getD j false))
theorem put_first {n : Nat} (q0 : Int) : er (List.replicate (n + 1) 0) (n : Nat) = 0 ∧ std (List.replicate (n + 1) 0) (n : Nat) = 0 ∧ put (List.replicate (n + 1) 0) (n : Nat) q0 = List.replicate n 0 ++ [q0] := by
  have h0 : (List.replicate (n + 1) (0 : Int)).getD n 0 = 0 := by simp [List.getD, List.getElem?_replicate]
  obtain ⟨e1, e2⟩ := er_ok (ws := List.replicate (n + 1) 0) (k := n) (by simp) (by rw [h0]; decide)
  refine ⟨e1, e2.trans h0, ?_⟩
  rw [put_ok e1, List.replicate_succ', List.set_append]
  simp
theorem put_second {n : Nat} {q0 : Int} (h : 1 ≤ q0 ∧ q0 ≤ 1000000) : er (List.replicate n 0 ++ [q0]) (n : Nat) = 0 ∧ std (List.replicate n 0 ++ [q0]) (n : Nat) = q0 ∧ ∀ v, put (List.replicate n 0 ++ [q0]) (n : Nat) v = List.replicate n 0 ++ [v] := by
  have h0 : (List.replicate n (0 : Int) ++ [q0]).getD n 0 = q0 := by simp [List.getD]
  obtain ⟨e1, e2⟩ := er_ok (ws := List.replicate n 0 ++ [q0]) (k := n) (by simp) (by rw [h0]; unfold P; omega)
  refine ⟨e1, e2.trans h0, fun v => ?_⟩
  rw [put_ok e1, List.set_append]
  simp
variable {es : List Bool} {w1 : World} {x n sl gb : Nat} {q : Int}
def S1 (es : List Bool) (w1 : World) (x n sl gb : Nat) (q : Int) (k : Nat) (v : Value) (W : World) : Prop := ∃ D tr ao cap L, v = .slice ao L cap ∧ An ⟨w1, x, n, 0, n, sl, gb⟩ D (mw es n k q) tr 0 q 0 tr ao cap W ∧ tr.length = L ∧ L ≤ 2 + 2 * k
def S2 (es : List Bool) (w1 : World) (x n sl gb : Nat) (q : Int) (k : Nat) (v : Value) (W : World) : Prop := ∃ D tr ao cap L, v = .slice ao L cap ∧ An ⟨w1, x, n, 0, n, sl, gb⟩ D (mw es n n q) tr 0 q (k : Nat) tr ao cap W ∧ tr.length = L ∧ L ≤ 100 + k
theorem w1p (m n : Nat) (h : n = m + 1) (hb : m < 2000000) : wrap64 (1 + (m : Int)) = (n : Int) := by subst h; unfold wrap64; omega
theorem w1q (m : Nat) (q : Int) (h : q = (m : Int) + 1) (hb : m < 2000000) : wrap64 (1 + (m : Int)) = q := by subst h; unfold wrap64; omega
theorem wqq (a q : Int) (h : q = a + 1) (h1 : 0 ≤ a) (hb : a < 2000000) : wrap64 (a + 1) = q := by subst h; unfold wrap64; omega
theorem wmm (n m : Nat) (h : m + 1 = n) (hb : n < 2000000) : wrap64 ((n : Int) - 1) = (m : Int) := by subst h; unfold wrap64; omega
theorem len2 {α : Type} (tr : List α) (a b : α) : (tr ++ [a, b]).length = tr.length + 2 := by simp
theorem len1 {α : Type} (tr : List α) (a : α) : (tr ++ [a]).length = tr.length + 1 := by simp
theorem wsucA (k : Nat) (h : k < 1000) : wrap64 ((k : Int) + 1) = (k : Int) + 1 := by unfold wrap64; omega
theorem mw_last {nm : Nat} (hn : nm + 1 = n) (he : es.getD nm false = true) : (mw es n n q).getD nm 0 = q := by
  rw [mw_at (by omega), if_pos]
  unfold ent
  rw [he, decide_eq_true (show nm < n by omega)]
  rfl
theorem mw_in {k : Nat} (hk : k < n) (b : Bool) (he : es.getD k false = b) : (mw es n n q).getD k 0 = if b then q else 0 := by
  rw [mw_at hk]
  unfold ent
  rw [he, decide_eq_true hk]
  rfl
set_option maxRecDepth 100000 in
set_option maxHeartbeats 8000000 in
theorem alone_walk (z1 z2 : Int) (a : Option Addr) (ecap : Nat) (es : List Bool) (w : World) (hI : Bls w a es) :
    Calls Try.prog 5 #[.int .i64 z1, .int .i64 z2, .slice a es.length ecap] w fun e w' => e = .returned (.bool true) ∧ Below w.heap.size w w' := by
  obtain ⟨m0, hm0, e0⟩ := modn z1 16 (by omega)
  obtain ⟨m1, hm1, e1⟩ := modn z2 1000000 (by omega)
  have HAw := hide' (awake_any w)
  have Hp1 := hide' (fun w => pick_big z1 16 w (by omega) (by omega))
  have Hp2 := hide' (fun w => pick_big z2 1000000 w (by omega) (by omega))
  replace e0 : z1 % 16 = (m0 : Int) := e0
  replace e1 : z2 % 1000000 = (m1 : Int) := e1
  rw [e0] at Hp1
  rw [e1] at Hp2
  obtain ⟨n, hn⟩ : ∃ n, n = m0 + 1 := ⟨_, rfl⟩
  obtain ⟨n1, hn1⟩ : ∃ n1, n1 = n + 1 := ⟨_, rfl⟩
  obtain ⟨q0, hq0⟩ : ∃ q0 : Int, q0 = (m1 : Int) + 1 := ⟨_, rfl⟩
  obtain ⟨q, hq⟩ : ∃ q : Int, q = q0 + 1 := ⟨_, rfl⟩
  have HN := hide' (show 1 ≤ n ∧ n ≤ 16 by omega)
  have HQ0 := hide' (show 1 ≤ q0 ∧ q0 ≤ 1000000 by omega)
  have HQ : Hid (Fine q) := hide' (show 2 ≤ q ∧ q ≤ 1000001 by omega)
  have HI := hide' hI
  have HN1 := hide' hn1
  have HQQ := hide' hq
  have WN := hide' (w1p m0 n hn (by omega))
  have WN1 := hide' (w1p n n1 hn1 (by omega))
  have WQ0 := hide' (w1q m1 q0 hq0 (by omega))
  have WQ := hide' (wqq q0 q hq (by omega) (by omega))
  have HN16 := hide' (show n + 1 ≤ 65536 by omega)
  have HN17 := hide' (show (n1 : Int) = ((n + 1 : Nat) : Int) by omega)
  clear hI e0 e1 hn hq0 hq hm0 hm1 hn1
  go_enter Try.func5, Try.ntmps5
  go_wp2_with fail
  refine HAw.out.mono ?_
  rintro r w1 ⟨rfl, b1⟩
  have HB1 := hide' b1
  clear HAw b1
  go_wp2_with fail
  refine (Hp1.out w1).mono ?_
  rintro r wa ⟨rfl, hwa⟩
  replace hwa := hwa.symm
  subst hwa
  have H8 := hide' (M.new_any (n + 1) w1 (by omega) HN16.out (n1 : Int) HN17.out)
  clear Hp1
  go_wp2_with fail
  rw [WN.out, WN1.out]
  refine H8.out.mono ?_
  rintro r w2 ⟨x, rfl, D2, m2, b2⟩
  have HM2 := hide' (And.intro m2 b2)
  clear H8 m2 b2 WN WN1
  go_wp2_with fail
  refine (Hp2.out w2).mono ?_
  rintro r wa ⟨rfl, hwa⟩
  replace hwa := hwa.symm
  subst hwa
  clear Hp2
  have HS : Hid (Calls Try.prog 20 #[.pointer (some ⟨x, 0, none⟩), .int .i64 (n : Nat), .int .i64 q0] w2 fun r w' => r = .returned (.int .i64 0) ∧ To D2 w1.heap.size x (List.replicate n 0 ++ [q0]) [⟨2, (n : Nat), q0, 0, true⟩] 0 w2 w') := hide' (by
    obtain ⟨e1, e2, e3⟩ := put_first (n := n) q0
    refine (M.store_any (n : Int) q0 HM2.out.1 (by simp)).mono fun r w' ⟨hr, ht⟩ => ?_
    rw [e1] at hr
    rw [e2, e3, good_of e1, bd_ok e1] at ht
    exact ⟨hr, ht⟩)
  go_wp2_with fail
  rw [WQ0.out]
  refine HS.out.mono ?_
  rintro r w3 ⟨rfl, t3⟩
  obtain ⟨D3, m3, b3⟩ := To.below HM2.out.1 HM2.out.2 t3
  have H10 : Hid (Calls Try.prog 10 #[.pointer (some ⟨x, 0, none⟩), .int .i64 (n : Nat), .int .i64 0, .int .i64 (n : Nat)] w3 fun r w' => r = .returned (.tuple #[.pointer (some ⟨w3.heap.size, 0, none⟩), .int .i64 0]) ∧ Hid (w' = w3.alloc (.cells #[.pointer (some ⟨x, 0, none⟩), .int .i64 (n : Nat), .int .i64 ((0 : Nat) : Int), .int .i64 (n : Nat)] 90))) := hide' (snew_ok n 0 n m3 HN.out (by simp) (by simp) (by omega))
  have HM3 := hide' (And.intro m3 b3)
  clear HS t3 m3 b3 HM2 WQ0
  go_wp2_with fail
  refine H10.out.mono ?_
  rintro r w4 ⟨rfl, hw4⟩
  have s4 : Sl w3.heap.size x n 0 n w4 := by rw [hw4.out]; exact snew_sl x n 0 n w3
  have H23 : Hid (Calls Try.prog 23 #[.pointer (some ⟨w3.heap.size, 0, none⟩)] w4 fun r w' => r = .returned (.pointer (some ⟨w4.heap.size, 0, none⟩)) ∧ Hid (w' = w4.alloc (.cells #[.pointer (some ⟨x, 0, none⟩), .int .i64 (n : Nat), .int .i64 ((0 : Nat) : Int), .int .i64 (n : Nat), .int .i64 0, .int .i64 (-1)] 113))) := hide' (wait_any s4)
  clear H10 s4
  go_wp2_with fail
  refine H23.out.mono ?_
  rintro r w5 ⟨rfl, hw5⟩
  have A5 := An.start HM3.out.1 HM3.out.2 hw4.out hw5.out
  obtain ⟨sl, hsl⟩ : ∃ sl, w3.heap.size = sl := ⟨_, rfl⟩
  obtain ⟨gb, hgb⟩ : ∃ gb, w4.heap.size = gb := ⟨_, rfl⟩
  rw [hsl, hgb] at A5 ⊢
  have HA5 := hide' (A5.first [⟨2, (n : Nat), q0, 0, true⟩, ⟨4, (n : Nat), 1, q0, true⟩] (by simp))
  clear A5 H23 hw4 hw5 HM3 hsl hgb
  go_wp2_with fail
  replace HA5 : Hid (An ⟨w1, x, n, 0, n, sl, gb⟩ D3 (List.replicate n 0 ++ [q0]) [⟨2, (n : Nat), q0, 0, true⟩] 0 0 (-1) [⟨2, (n : Nat), q0, 0, true⟩, ⟨4, (n : Nat), 1, q0, true⟩] (some ⟨w5.heap.size, 0, none⟩) 2 (w5.alloc (.cells #[.int .i8 2, .int .i64 (n : Nat), .int .i64 q0, .int .i64 0, .bool true, .int .i8 4, .int .i64 (n : Nat), .int .i64 1, .int .i64 q0, .bool true] 75))) := HA5
  generalize w5.alloc (.cells #[.int .i8 2, .int .i64 (n : Nat), .int .i64 q0, .int .i64 0, .bool true, .int .i8 4, .int .i64 (n : Nat), .int .i64 1, .int .i64 q0, .bool true] 75) = w6 at *
  generalize w5.heap.size = ag at *
  have HG : Hid (Calls Try.prog 24 #[.pointer (some ⟨gb, 0, none⟩)] w6 fun r w' => r = .returned (.bool false) ∧ S1 es w1 x n sl gb q 0 (.slice (some ⟨ag, 0, none⟩) 2 2) w') := hide' (by
    obtain ⟨e1, e2, e3⟩ := put_second (n := n) HQ0.out
    have ew : wrap64 (std (List.replicate n 0 ++ [q0]) (n : Nat) + 1) = q := by rw [e2, WQ.out]
    refine (grace0_any (b := gb) (x := x) (e := n) (f := 0) (n := n) HA5.out.mem HA5.out.gr HN.out.1 (by simp)).mono fun r w' ⟨hr, ht⟩ => ⟨hr, ?_⟩
    rw [ew, e2, e3, good_of e1, bd_ok e1, ← mw_zero es] at ht
    obtain ⟨⟨D', h'⟩, _⟩ := An.gra HA5.out ht
    exact ⟨D', [⟨2, (n : Nat), q0, 0, true⟩, ⟨4, (n : Nat), 1, q0, true⟩], _, _, 2, rfl, h', rfl, Nat.le_refl _⟩)
  clear HA5
  go_wp2_with fail
  refine HG.out.mono ?_
  rintro r w7 ⟨rfl, h7⟩
  have S0 := hide' h7
  clear HG h7
  go_upto_block 0 with fail
  go_cut [15] (fun v wx => S2 es w1 x n sl gb q 0 v wx)
  case first =>
    go_wp2_with fail
    go_loopw [15, 17] (fun v i wx => ∃ k : Nat, k ≤ n ∧ k ≤ es.length ∧ i = .int .i64 (k : Int) ∧ S1 es w1 x n sl gb q k v wx) (fun _ i _ => n - (intOf i).toNat)
    case atStart => exact ⟨0, by omega, by omega, rfl, S0.out⟩
    case round => as_aux_lemma =>
      obtain ⟨k, hkn, hke, rfl, hS⟩ := hrel
      obtain ⟨D, tr, ao, cap, L, rfl, hA, hLL, htr⟩ := hS
      have HLp := hide' hLL
      have HA := hide' hA
      have HT := hide' htr
      have Hwk := hide' (wsucA k (by have := HN.out; omega))
      clear hA htr hLL
      by_cases hlt : k < es.length
      · have hlt' : (k : Int) < (es.length : Int) := by omega
        by_cases hkn' : k < n
        · have hkn2 : (k : Int) < (n : Int) := by omega
          rcases HI.out with hI | ⟨ab, off, rfl, hab, hc⟩
          · rw [hI] at hlt; simp at hlt
          have cw := (((HB1.out.trans (HA.out.bel.mono HB1.out.size)).cell (p := ⟨ab, off + k, none⟩) hab)).trans (hc k hlt)
          clear hc
          cases hek : es.getD k false with
          | false =>
            rw [hek] at cw
            go_wp2
            exact ⟨⟨k + 1, hkn', hlt, by rw [Hwk.out]; go_num, D, tr, ao, cap, L, rfl, by rw [mw_skip hek]; exact HA.out, HLp.out, by have := HT.out; omega⟩, msr' hkn' _ Hwk.out⟩
          | true =>
            rw [hek] at cw
            have HE := hide' ((enter_ok k HA.out.sl hkn').mono fun r w' ⟨h1, h2⟩ => (And.intro h1 (hide' h2)))
            go_wp2_with fail
            refine HE.out.mono ?_
            rintro r wb ⟨rfl, hwb⟩
            have tb : Below wr.heap.size wr wb := by rw [hwb.out]; exact (Below.refl _ _).alloc (Nat.le_refl _) _
            have sb : Sc wr.heap.size x n 0 n k 0 0 wb := by rw [hwb.out]; exact enter_sc x n 0 n k wr
            have HA1 := hide' (HA.out.below tb)
            have hle := hide' (HA.out.bel.size)
            have HC := hide' (sec0_al HA1.out sb hle.out HQ.out (by have := HT.out; have := HN.out; have := HLp.out; omega))
            generalize wr.heap.size = bb at *
            clear tb sb hwb HE cw
            go_wp2_with fail
            refine HC.out.mono ?_
            rintro r wc ⟨rfl, Dc, hAc, hSc⟩
            have HC2 := hide' (sec1_al hAc hSc hle.out HQ.out hkn' HN.out.2 hek (by rw [len1]; have := HT.out; have := HN.out; have := HLp.out; omega))
            clear HC hAc hSc HA1
            go_wp2_with fail
            refine HC2.out.mono ?_
            rintro r wd ⟨rfl, Dd, hAd⟩
            have HAd := hide' hAd
            have HL1 := hide' (show L < 3000000000000 by have := HT.out; have := HN.out; omega)
            have HRw : Hid (wd.ownsRow w1.heap.size 75 5 (.slice ao L cap) L (tr.flatMap Ac.cells)) := hide' (by have := HAd.out.row; rw [HLp.out] at this; exact this)
            have HB9 := hide' (HAd.out.bel.size)
            clear HC2 hAd hle
            have hb := b75a
            have hs := s54b
            go_upto_region 25 with fail
            iterate 12 (first | go_values | go_skip | go_guarded | go_step | go_upon)
            rw [WQ.out]
            iterate 12 (first | go_values | go_skip | go_guarded | go_step | go_upon)
            rw [WQ.out]
            iterate 5 (first | go_values | go_skip | go_guarded | go_step | go_upon)
            refine wp_bs2 (.tmp 105) (.tmp 109) rfl _ _ _ _ _ _ _ _ rfl rfl ?_
            go_wp2_with (at_builtin; refine wpList_moreN (e := 75) (m := 5) Try.underlying54 info37 rfl (by decide) (by decide) wd rfl _ _ rfl HRw.out HL1.out HB9.out 2 ⟨Nat.zero_lt_succ _, by decide⟩ [.int .i8 1, .int .i64 (n : Nat), .int .i64 q, .int .i64 0, .bool true, .int .i8 2, .int .i64 (k : Nat), .int .i64 q, .int .i64 0, .bool true] rfl (by simp [Value.oneCell']) _ rfl rfl ?_; intro gg cap' we hr1 t1 hg1)
            clear hb hs
            have HAe := hide' (An.grow2 1 (n : Nat) q 0 2 (k : Nat) q 0 HAd.out HLp.out hr1 t1 hg1)
            exact ⟨⟨k + 1, hkn', hlt, by rw [Hwk.out]; go_num, Dd, tr ++ [⟨1, (n : Nat), q, 0, true⟩, ⟨2, (k : Nat), q, 0, true⟩], _, cap', L + 2, rfl, by have := HAe.out; rw [List.append_assoc] at this; exact this, by rw [len2, HLp.out], by have := HT.out; omega⟩, msr' hkn' _ Hwk.out⟩
        · have HMW : Hid (mw es n k q = mw es n n q) := hide' (by rw [show k = n by omega])
          have hkn2 : ¬ ((k : Int) < (n : Int)) := by omega
          have hkn3 : ¬ (k < n) := by omega
          have F2 : Hid (S2 es w1 x n sl gb q 0 (.slice ao L cap) wr) := hide' ⟨D, tr, ao, cap, L, rfl, by rw [HMW.out] at HA; exact HA.out, HLp.out, by have := HT.out; have := HN.out; omega⟩
          go_wp2
          go_meet
          exact F2.out
      · have HMW : Hid (mw es n k q = mw es n n q) := hide' (mw_full (by omega))
        have hlt' : ¬ ((k : Int) < (es.length : Int)) := by omega
        have F2 : Hid (S2 es w1 x n sl gb q 0 (.slice ao L cap) wr) := hide' ⟨D, tr, ao, cap, L, rfl, by rw [HMW.out] at HA; exact HA.out, HLp.out, by have := HT.out; have := HN.out; omega⟩
        go_wp2
        go_meet
        exact F2.out
  case rest =>
    have S20 := hide' hcut
    clear hcut S0
    go_wp2_with fail
    go_loopw [7, 15, 20] (fun b v i wx => ∃ k : Nat, k ≤ n ∧ b = .bool true ∧ i = .int .i64 (k : Int) ∧ S2 es w1 x n sl gb q k v wx) (fun _ _ i _ => n - (intOf i).toNat)
    case atStart => exact ⟨0, by omega, rfl, rfl, S20.out⟩
    case round => as_aux_lemma =>
      clear S20
      obtain ⟨k, hkn, rfl, rfl, hS⟩ := hrel
      obtain ⟨D, tr, ao, cap, L, rfl, hA, hLL, htr⟩ := hS
      have HLp := hide' hLL
      have HA := hide' hA
      have HT := hide' htr
      have Hwk := hide' (wsucA k (by have := HN.out; omega))
      clear hA htr hLL
      obtain ⟨nm, hnm⟩ : ∃ nm, nm + 1 = n := ⟨n - 1, by have := HN.out; omega⟩
      have WNM := hide' (wmm n nm hnm (by have := HN.out; omega))
      have HNM := hide' hnm
      clear hnm
      by_cases hlt : k < n
      · have hlt' : (k : Int) < (n : Int) := by omega
        by_cases hke : k < es.length
        · have hke' : (k : Int) < (es.length : Int) := by omega
          rcases HI.out with hI | ⟨ab, off, rfl, hab, hc⟩
          · rw [hI] at hke; simp at hke
          have cw := (((HB1.out.trans (HA.out.bel.mono HB1.out.size)).cell (p := ⟨ab, off + k, none⟩) hab)).trans (hc k hke)
          clear hc
          cases hek : es.getD k false with
          | false =>
            rw [hek] at cw
            have HV := hide' (mw_in (q := q) hlt false hek)
            have HL1 := hide' (show L < 3000000000000 by have := HT.out; have := HN.out; omega)
            have HRw : Hid (wr.ownsRow w1.heap.size 75 5 (.slice ao L cap) L (tr.flatMap Ac.cells)) := hide' (by have := HA.out.row; rw [HLp.out] at this; exact this)
            have HB9 := hide' (HA.out.bel.size)
            have hb := b75a
            have hs := s54a
            go_upto_region 32 with fail
            iterate 14 (first | go_values | go_skip | go_guarded | go_step | go_upon)
            refine wp_bs1 (.tmp 135) rfl _ _ _ _ rfl ?_
            go_wp2_with (at_builtin; refine wpList_moreN (e := 75) (m := 5) Try.underlying54 info37 rfl (by decide) (by decide) wr rfl _ _ rfl HRw.out HL1.out HB9.out 1 ⟨Nat.zero_lt_succ _, by decide⟩ [.int .i8 1, .int .i64 (k : Nat), .int .i64 0, .int .i64 0, .bool true] rfl (by simp [Value.oneCell']) _ rfl rfl ?_; intro gg cap' we hr1 t1 hg1)
            clear hb hs
            have HAe := hide' (An.grow1 (k : Nat) 0 0 1 HA.out HLp.out hr1 t1 hg1)
            have HC := hide' (at_al HAe.out hlt)
            clear HA hr1 t1 hg1
            go_wp2_with fail
            refine HC.out.mono ?_
            rintro r wf ⟨rfl, hAf⟩
            have HC2 := hide' (ready_al hAf hlt)
            clear HC hAf HAe
            go_wp2_with fail
            refine HC2.out.mono ?_
            rintro r wg ⟨rfl, hAg⟩
            have HC3 := hide' (look_al hAg HQ.out hlt HN.out.2 (by have := HT.out; have := HN.out; have := HLp.out; omega))
            rw [HV.out] at HC3
            clear HC2 hAg
            go_wp2_with fail
            refine HC3.out.mono ?_
            rintro r wh ⟨rfl, Dh, hAh⟩
            have HAh := hide' hAh
            clear HC3 hAh
            have Hfin : Hid (S2 es w1 x n sl gb q (k + 1) (.slice (some ⟨gg, 0, none⟩) (L + 1) cap') wh) := hide' ⟨Dh, tr ++ [⟨1, (k : Nat), 0, 0, true⟩], _, cap', L + 1, rfl, HAh.out, by rw [len1, HLp.out], by have := HT.out; omega⟩
            by_cases hl : k = nm
            · have d1 : decide (k + 1 = n) = true := decide_eq_true (by have := HNM.out; omega)
              rw [d1]
              subst hl
              go_wp2_with (first | (rw [WNM.out]) | fail)
              exact ⟨⟨k + 1, hlt, by simp, by rw [Hwk.out]; go_num, Hfin.out⟩, msr' hlt _ Hwk.out⟩
            · have d1 : decide (k + 1 = n) = false := decide_eq_false (by have := HNM.out; omega)
              rw [d1]
              have d2 : ((k : Int) == (nm : Int)) = false := by rw [beq_eq_false_iff_ne]; omega
              go_wp2_with (first | (rw [WNM.out]) | fail)
              exact ⟨⟨k + 1, hlt, by simp, by rw [Hwk.out]; go_num, Hfin.out⟩, msr' hlt _ Hwk.out⟩
          | true =>
            rw [hek] at cw
            have HV := hide' (mw_in (q := q) hlt true hek)
            have HL1 := hide' (show L < 3000000000000 by have := HT.out; have := HN.out; omega)
            have HRw : Hid (wr.ownsRow w1.heap.size 75 5 (.slice ao L cap) L (tr.flatMap Ac.cells)) := hide' (by have := HA.out.row; rw [HLp.out] at this; exact this)
            have HB9 := hide' (HA.out.bel.size)
            have hb := b75a
            have hs := s54a
            go_upto_region 31 with fail
            iterate 6 (first | go_values | go_skip | go_guarded | go_step | go_upon)
            rw [WQ.out]
            go_upto_region 32 with fail
            iterate 14 (first | go_values | go_skip | go_guarded | go_step | go_upon)
            refine wp_bs1 (.tmp 135) rfl _ _ _ _ rfl ?_
            go_wp2_with (at_builtin; refine wpList_moreN (e := 75) (m := 5) Try.underlying54 info37 rfl (by decide) (by decide) wr rfl _ _ rfl HRw.out HL1.out HB9.out 1 ⟨Nat.zero_lt_succ _, by decide⟩ [.int .i8 1, .int .i64 (k : Nat), .int .i64 q, .int .i64 0, .bool true] rfl (by simp [Value.oneCell']) _ rfl rfl ?_; intro gg cap' we hr1 t1 hg1)
            clear hb hs
            have HAe := hide' (An.grow1 (k : Nat) q 0 1 HA.out HLp.out hr1 t1 hg1)
            have HC := hide' (at_al HAe.out hlt)
            clear HA hr1 t1 hg1
            go_wp2_with fail
            refine HC.out.mono ?_
            rintro r wf ⟨rfl, hAf⟩
            have HC2 := hide' (ready_al hAf hlt)
            clear HC hAf HAe
            go_wp2_with fail
            refine HC2.out.mono ?_
            rintro r wg ⟨rfl, hAg⟩
            have HC3 := hide' (look_al hAg HQ.out hlt HN.out.2 (by have := HT.out; have := HN.out; have := HLp.out; omega))
            rw [HV.out] at HC3
            clear HC2 hAg
            go_wp2_with fail
            refine HC3.out.mono ?_
            rintro r wh ⟨rfl, Dh, hAh⟩
            have HAh := hide' hAh
            clear HC3 hAh
            have Hfin : Hid (S2 es w1 x n sl gb q (k + 1) (.slice (some ⟨gg, 0, none⟩) (L + 1) cap') wh) := hide' ⟨Dh, tr ++ [⟨1, (k : Nat), q, 0, true⟩], _, cap', L + 1, rfl, HAh.out, by rw [len1, HLp.out], by have := HT.out; omega⟩
            by_cases hl : k = nm
            · have d1 : decide (k + 1 = n) = true := decide_eq_true (by have := HNM.out; omega)
              rw [d1]
              subst hl
              go_wp2_with (first | (rw [WNM.out]) | fail)
              exact ⟨⟨k + 1, hlt, by simp, by rw [Hwk.out]; go_num, Hfin.out⟩, msr' hlt _ Hwk.out⟩
            · have d1 : decide (k + 1 = n) = false := decide_eq_false (by have := HNM.out; omega)
              rw [d1]
              have d2 : ((k : Int) == (nm : Int)) = false := by rw [beq_eq_false_iff_ne]; omega
              go_wp2_with (first | (rw [WNM.out]) | fail)
              exact ⟨⟨k + 1, hlt, by simp, by rw [Hwk.out]; go_num, Hfin.out⟩, msr' hlt _ Hwk.out⟩
        · have hke' : decide ((k : Int) < (es.length : Int)) = false := decide_eq_false (by omega)
          have HV := hide' (mw_in (es := es) (q := q) hlt false (by rw [List.getD, List.getElem?_eq_none (by omega)]; rfl))
          have hke2 : ¬ ((k : Int) < (es.length : Int)) := by omega
          have HL1 := hide' (show L < 3000000000000 by have := HT.out; have := HN.out; omega)
          have HRw : Hid (wr.ownsRow w1.heap.size 75 5 (.slice ao L cap) L (tr.flatMap Ac.cells)) := hide' (by have := HA.out.row; rw [HLp.out] at this; exact this)
          have HB9 := hide' (HA.out.bel.size)
          have hb := b75a
          have hs := s54a
          go_upto_region 32 with fail
          iterate 14 (first | go_values | go_skip | go_guarded | go_step | go_upon)
          refine wp_bs1 (.tmp 135) rfl _ _ _ _ rfl ?_
          go_wp2_with (at_builtin; refine wpList_moreN (e := 75) (m := 5) Try.underlying54 info37 rfl (by decide) (by decide) wr rfl _ _ rfl HRw.out HL1.out HB9.out 1 ⟨Nat.zero_lt_succ _, by decide⟩ [.int .i8 1, .int .i64 (k : Nat), .int .i64 0, .int .i64 0, .bool true] rfl (by simp [Value.oneCell']) _ rfl rfl ?_; intro gg cap' we hr1 t1 hg1)
          clear hb hs
          have HAe := hide' (An.grow1 (k : Nat) 0 0 1 HA.out HLp.out hr1 t1 hg1)
          have HC := hide' (at_al HAe.out hlt)
          clear HA hr1 t1 hg1
          go_wp2_with fail
          refine HC.out.mono ?_
          rintro r wf ⟨rfl, hAf⟩
          have HC2 := hide' (ready_al hAf hlt)
          clear HC hAf HAe
          go_wp2_with fail
          refine HC2.out.mono ?_
          rintro r wg ⟨rfl, hAg⟩
          have HC3 := hide' (look_al hAg HQ.out hlt HN.out.2 (by have := HT.out; have := HN.out; have := HLp.out; omega))
          rw [HV.out] at HC3
          clear HC2 hAg
          go_wp2_with fail
          refine HC3.out.mono ?_
          rintro r wh ⟨rfl, Dh, hAh⟩
          have HAh := hide' hAh
          clear HC3 hAh
          have Hfin : Hid (S2 es w1 x n sl gb q (k + 1) (.slice (some ⟨gg, 0, none⟩) (L + 1) cap') wh) := hide' ⟨Dh, tr ++ [⟨1, (k : Nat), 0, 0, true⟩], _, cap', L + 1, rfl, HAh.out, by rw [len1, HLp.out], by have := HT.out; omega⟩
          by_cases hl : k = nm
          · have d1 : decide (k + 1 = n) = true := decide_eq_true (by have := HNM.out; omega)
            rw [d1]
            subst hl
            go_wp2_with (first | (rw [WNM.out]) | fail)
            exact ⟨⟨k + 1, hlt, by simp, by rw [Hwk.out]; go_num, Hfin.out⟩, msr' hlt _ Hwk.out⟩
          · have d1 : decide (k + 1 = n) = false := decide_eq_false (by have := HNM.out; omega)
            rw [d1]
            have d2 : ((k : Int) == (nm : Int)) = false := by rw [beq_eq_false_iff_ne]; omega
            go_wp2_with (first | (rw [WNM.out]) | fail)
            exact ⟨⟨k + 1, hlt, by simp, by rw [Hwk.out]; go_num, Hfin.out⟩, msr' hlt _ Hwk.out⟩
      · obtain rfl : k = n := by omega
        have hlt2 : ¬ ((k : Int) < (k : Int)) := by omega
        have hlt3 : ¬ (k < k) := by omega
        by_cases hne : k ≤ es.length
        · have hne' : (k : Int) ≤ (es.length : Int) := by omega
          have hnme : nm < es.length := by have := HNM.out; omega
          have hnme' : (nm : Int) < (es.length : Int) := by omega
          rcases HI.out with hI | ⟨ab, off, rfl, hab, hc⟩
          · rw [hI] at hnme; simp at hnme
          have cw := (((HB1.out.trans (HA.out.bel.mono HB1.out.size)).cell (p := ⟨ab, off + nm, none⟩) hab)).trans (hc nm hnme)
          clear hc
          cases hek : es.getD nm false with
          | false =>
            rw [hek] at cw
            have HA9 := HA
            have HT9 : Hid (tr.length < 1000) := hide' (by have := HT.out; have := HN.out; have := HLp.out; omega)
            have HL9 := HLp
            have HO := hide' (over_al HA9.out HN.out.1)
            go_wp2_with (first | (rw [WNM.out]) | fail)
            refine HO.out.mono ?_
            rintro r wi ⟨rfl, Di, hAi⟩
            have HAi := hide' hAi
            have HTr := hide' (M.trace_any hAi.mem (by have := HT9.out; omega))
            clear HO hAi
            go_wp2_with fail
            refine HTr.out.mono ?_
            rintro r wj ⟨ro, rc, rfl, hrj, bj⟩
            have HJ := hide' (And.intro (HAi.out.below bj) (acs_row hrj))
            have HEq := hide' (entries_eq tr ro _ rc cap wj HJ.out.2 (acs_row HJ.out.1.row) (by have := HT9.out; omega))
            rw [HL9.out] at HEq
            clear HTr hrj bj
            rw [HL9.out]
            go_wp2_with fail
            refine HEq.out.mono ?_
            rintro r wk ⟨rfl, nn, hwk⟩
            have F := hide' (show Below w.heap.size w wk by rw [hwk]; exact (HB1.out.trans (HJ.out.1.bel.mono HB1.out.size)).trans ⟨rfl, rfl, rfl, Nat.le_refl _, fun _ _ => rfl⟩)
            clear HEq hwk HJ
            go_wp2
            go_ret
            exact ⟨rfl, F.out⟩
          | true =>
            rw [hek] at cw
            have HL := hide' (leave_al (k := nm) HA.out HQ.out (by have := HNM.out; omega) HN.out.2 (by have := HT.out; have := HN.out; have := HLp.out; omega))
            rw [mw_last HNM.out hek] at HL
            have HL1 := hide' (show L < 3000000000000 by have := HT.out; have := HN.out; omega)
            go_wp2_with (first | (rw [WNM.out]) | fail)
            refine HL.out.mono ?_
            rintro r wl ⟨rfl, Dl, wsl, hAl⟩
            have HAl := hide' hAl
            have HRw : Hid (wl.ownsRow w1.heap.size 75 5 (.slice ao L cap) L (tr.flatMap Ac.cells)) := hide' (by have := HAl.out.row; rw [HLp.out] at this; exact this)
            have HB9 := hide' (HAl.out.bel.size)
            clear HL hAl cw
            have hb := b75b
            have hs := s54a
            go_upto_region 39 with fail
            iterate 9 (first | go_values | go_skip | go_guarded | go_step | go_upon)
            rw [WNM.out]
            iterate 6 (first | go_values | go_skip | go_guarded | go_step | go_upon)
            rw [WQ.out]
            iterate 5 (first | go_values | go_skip | go_guarded | go_step | go_upon)
            refine wp_bs1 (.tmp 182) rfl _ _ _ _ rfl ?_
            go_wp2_with (at_builtin; refine wpList_moreN (e := 75) (m := 5) Try.underlying54 info37 rfl (by decide) (by decide) wl rfl _ _ rfl HRw.out HL1.out HB9.out 1 ⟨Nat.zero_lt_succ _, by decide⟩ [.int .i8 2, .int .i64 (nm : Nat), .int .i64 0, .int .i64 q, .bool true] rfl (by simp [Value.oneCell']) _ rfl rfl ?_; intro gg cap' we hr1 t1 hg1)
            clear hb hs
            have HA9 := hide' (An.grow1 (nm : Nat) 0 q 2 HAl.out HLp.out hr1 t1 hg1)
            have HT9 : Hid ((tr ++ [(⟨2, (nm : Nat), 0, q, true⟩ : Ac)]).length < 1000) := hide' (by rw [len1]; have := HT.out; have := HN.out; have := HLp.out; omega)
            have HL9 := hide' (show (tr ++ [(⟨2, (nm : Nat), 0, q, true⟩ : Ac)]).length = L + 1 by rw [len1, HLp.out])
            clear HAl hr1 t1 hg1 HT HA HLp
            generalize tr ++ [(⟨2, (nm : Nat), 0, q, true⟩ : Ac)] = tr9 at *
            have HO := hide' (over_al HA9.out HN.out.1)
            go_wp2_with fail
            refine HO.out.mono ?_
            rintro r wi ⟨rfl, Di, hAi⟩
            have HAi := hide' hAi
            have HTr := hide' (M.trace_any hAi.mem (by have := HT9.out; omega))
            clear HO hAi
            go_wp2_with fail
            refine HTr.out.mono ?_
            rintro r wj ⟨ro, rc, rfl, hrj, bj⟩
            have HJ := hide' (And.intro (HAi.out.below bj) (acs_row hrj))
            have HEq := hide' (entries_eq tr9 ro _ rc cap' wj HJ.out.2 (acs_row HJ.out.1.row) (by have := HT9.out; omega))
            rw [HL9.out] at HEq
            clear HTr hrj bj
            rw [HL9.out]
            go_wp2_with fail
            refine HEq.out.mono ?_
            rintro r wk ⟨rfl, nn, hwk⟩
            have F := hide' (show Below w.heap.size w wk by rw [hwk]; exact (HB1.out.trans (HJ.out.1.bel.mono HB1.out.size)).trans ⟨rfl, rfl, rfl, Nat.le_refl _, fun _ _ => rfl⟩)
            clear HEq hwk HJ
            go_wp2
            go_ret
            exact ⟨rfl, F.out⟩
        · have hne' : decide ((k : Int) ≤ (es.length : Int)) = false := decide_eq_false (by omega)
          have hne2 : ¬ ((k : Int) ≤ (es.length : Int)) := by omega
          have HA9 := HA
          have HT9 : Hid (tr.length < 1000) := hide' (by have := HT.out; have := HN.out; have := HLp.out; omega)
          have HL9 := HLp
          have HO := hide' (over_al HA9.out HN.out.1)
          go_wp2_with (first | (rw [WNM.out]) | fail)
          refine HO.out.mono ?_
          rintro r wi ⟨rfl, Di, hAi⟩
          have HAi := hide' hAi
          have HTr := hide' (M.trace_any hAi.mem (by have := HT9.out; omega))
          clear HO hAi
          go_wp2_with fail
          refine HTr.out.mono ?_
          rintro r wj ⟨ro, rc, rfl, hrj, bj⟩
          have HJ := hide' (And.intro (HAi.out.below bj) (acs_row hrj))
          have HEq := hide' (entries_eq tr ro _ rc cap wj HJ.out.2 (acs_row HJ.out.1.row) (by have := HT9.out; omega))
          rw [HL9.out] at HEq
          clear HTr hrj bj
          rw [HL9.out]
          go_wp2_with fail
          refine HEq.out.mono ?_
          rintro r wk ⟨rfl, nn, hwk⟩
          have F := hide' (show Below w.heap.size w wk by rw [hwk]; exact (HB1.out.trans (HJ.out.1.bel.mono HB1.out.size)).trans ⟨rfl, rfl, rfl, Nat.le_refl _, fun _ _ => rfl⟩)
          clear HEq hwk HJ
          go_wp2
          go_ret
          exact ⟨rfl, F.out⟩
end A
end Go.Proofs.Ytmlhlmiigdddlaa
