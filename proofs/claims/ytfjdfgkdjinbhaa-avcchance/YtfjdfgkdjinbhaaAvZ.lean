import Derived.Test.YtfjdfgkdjinbhaaAvQ
set_option linter.unusedVariables false
set_option linter.unusedSimpArgs false
namespace Go.Proofs.Ytfjdfgkdjinbhaa
open Go.RowKit
namespace C
variable {w1 : World} {c g n v : Nat} {b : Nat → Nat} {k : Nat} {s : St} {w w' : World}
theorem fld31 (a b c d : Value) (w : World) : (Instr.field 31 (.agg #[a, b, c, d]) 2).run Try.prog w = .ok c w := by kernel_rfl
def bt (hit : Int) (j : Nat) : Bool := ((hit / 2 ^ min j 64).tmod 2 != 0)
/-- one is gone, behind its place -/
def gn (j0 j : Nat) : Nat := if j0 < j then 1 else 0
theorem gn_at {j0 j : Nat} (h : j = j0) : gn j0 j = 0 ∧ gn j0 (j + 1) = 1 := ⟨if_neg (by omega), if_pos (by omega)⟩
theorem gn_ne {j0 j : Nat} (h : j ≠ j0) : gn j0 (j + 1) = gn j0 j := by
  unfold gn
  by_cases q : j0 < j
  · rw [if_pos q, if_pos (by omega)]
  · rw [if_neg q, if_neg (by omega)]
theorem gn_lt {j0 j : Nat} (h : j0 < j) : gn j0 j = 1 := if_pos h
theorem gn_le (j0 j : Nat) : gn j0 j ≤ 1 := by unfold gn; split <;> omega
def Cs (w1 : World) (c g v : Nat) (b : Nat → Nat) (s : St) (w : World) : Prop := Ca w1.heap.size c g 1 v b s w ∧ Below w1.heap.size w1 w
set_option maxRecDepth 100000 in
set_option maxHeartbeats 4000000 in
theorem chance_walk (z0 hit tag : Int) (w : World) :
    Calls Try.prog 9 #[.int .i64 z0, .int .i64 hit, .int .i64 tag] w fun e w' => e = .returned (.bool true) ∧ Below w.heap.size w w' := by
  have HA := hide' (alive_any w)
  have HW0 := hide' (fun w => which_any z0 8 w (by omega) (by omega))
  go_enter Try.func9, Try.ntmps9
  go_wp2_with fail
  refine HA.out.mono ?_
  rintro e w1 ⟨rfl, b1⟩
  have HB1 := hide' b1
  clear HA b1
  go_wp2_with fail
  refine (HW0.out w1).mono ?_
  rintro e wa ⟨v, rfl, hv⟩
  have hwa := hv.out.2.2.2.symm
  subst hwa
  clear HW0
  have Hv : Hid (1 ≤ v ∧ v ≤ 8) := hide' ⟨hv.out.1, hv.out.2.1⟩
  have HN := hide' (new_any 1 (v : Int) 1 v w1 rfl rfl (by omega) Hv.out)
  clear hv
  go_wp2_with fail
  refine HN.out.mono ?_
  rintro e w2 ⟨c, rfl, g, b, h2, b2⟩
  have HT : Hid (Cs w1 c g v b st0 w2 ∧ C1 v 0 tag st0) := hide' ⟨⟨h2, b2⟩, c1_0⟩
  clear HN h2 b2
  go_wp2_with fail
  go_loopw [11] (fun i wx => ∃ k : Nat, k ≤ v ∧ i = .int .i64 (k : Int) ∧ ∃ s, Hid (Cs w1 c g v b s wx ∧ C1 v k tag s)) (fun i _ => v - (intOf i).toNat)
  case atStart => exact ⟨0, by omega, rfl, _, HT⟩
  case round =>
    clear HT
    obtain ⟨k, hk, rfl, s, HT⟩ := hrel
    by_cases hlt : k < v
    · have hlt' : (k : Int) < (v : Int) := by omega
      have Hw := hide' (wsucN k (by have := Hv.out; omega))
      have HC : Hid (∀ al, Calls Try.prog 18 #[.pointer (some ⟨c, 0, none⟩), .int .i64 tag, .int .i64 (k : Int), .int .i64 0, .int .i64 0, .bool al] wr fun e w' => e = .returned (.tuple #[]) ∧ Hid (Cs w1 c g v b (pta 1 v s tag (ti k) al) w' ∧ C1 v (k + 1) tag (pta 1 v s tag (ti k) al))) := hide' (fun al => (put_any tag (ti k) al HT.out.1.1 (by rw [HT.out.2.ev]; omega)).mono fun e w' ⟨he, hc, ht⟩ => ⟨he, hide' ⟨⟨hc, Own.below HT.out.1.1 HT.out.1.2 ht⟩, HT.out.2.put hlt al⟩⟩)
      clear HT
      go_wp2_with fail
      refine (HC.out _).mono ?_
      rintro e w3 ⟨rfl, H3⟩
      clear HC
      go_wp2
      exact ⟨⟨k + 1, by omega, by rw [Hw.out], _, H3⟩, msr' hlt _ (Hw.out.trans (by omega))⟩
    · obtain rfl : k = v := by omega
      have H2 : Hid (Cs w1 c g k b s wr ∧ C2 k 0 tag (bt hit) s) := hide' ⟨HT.out.1, HT.out.2.all⟩
      clear HT
      go_wp2_with fail
      go_loopw [12, 13] (fun y i wx => ∃ j : Nat, j ≤ k ∧ y = .int .i64 (cb (bt hit) j : Nat) ∧ i = .int .i64 (j : Int) ∧ ∃ s, Hid (Cs w1 c g k b s wx ∧ C2 k j tag (bt hit) s)) (fun _ i _ => k - (intOf i).toNat)
      case atStart => exact ⟨0, by omega, rfl, rfl, _, H2⟩
      case round =>
        clear H2
        obtain ⟨j, hj, rfl, rfl, s2, H2⟩ := hrel
        by_cases hlt : j < k
        · have hlt' : (j : Int) < (k : Int) := by omega
          have Hw := hide' (wsucN j (by have := Hv.out; omega))
          have Hwc := hide' (wsucN (cb (bt hit) j) (by have := cb_le (bit := bt hit) j; have := Hv.out; omega))
          have Hcb := hide' (show cb (bt hit) (j + 1) = cb (bt hit) j + (if bt hit j then 1 else 0) from rfl)
          cases hb : bt hit j with
          | true =>
            rw [hb] at Hcb
            have HC : Hid (Calls Try.prog 19 #[.pointer (some ⟨c, 0, none⟩), .int .i64 tag, .int .i64 (j : Int), .int .i64 0, .int .i64 0] wr fun e w' => e = .returned (.tuple #[.bool (gta 1 k s2 tag (ti j)).1, .bool true]) ∧ Hid (Cs w1 c g k b (gta 1 k s2 tag (ti j)).2.2 w' ∧ C2 k (j + 1) tag (bt hit) (gta 1 k s2 tag (ti j)).2.2)) := hide' ((get_any tag (ti j) H2.out.1.1 (by have := H2.out.2.hi; have := Hv.out; omega) (by rw [H2.out.2.mi]; omega)).mono fun e w' ⟨he, hc, ht⟩ => by
              have h3 := H2.out.2.get hlt hb
              exact ⟨by rw [he, h3.1], hide' ⟨⟨hc, Own.below H2.out.1.1 H2.out.1.2 ht⟩, h3.2⟩⟩)
            have hb' : ((hit / 2 ^ min j 64).tmod 2 != 0) = true := hb
            clear H2 hb
            go_wp2_with fail
            refine HC.out.mono ?_
            rintro e w3 ⟨rfl, H3⟩
            clear HC
            go_wp2
            exact ⟨⟨j + 1, by omega, by rw [Hwc.out, Hcb.out]; rfl, by rw [Hw.out], _, H3⟩, msr' hlt _ (Hw.out.trans (by omega))⟩
          | false =>
            rw [hb] at Hcb
            have H3 := hide' (And.intro H2.out.1 (H2.out.2.skip hb))
            have hb' : ((hit / 2 ^ min j 64).tmod 2 != 0) = false := hb
            clear H2 hb
            go_wp2
            exact ⟨⟨j + 1, by omega, by rw [Hcb.out]; rfl, by rw [Hw.out], _, H3⟩, msr' hlt _ (Hw.out.trans (by omega))⟩
        · obtain rfl : j = k := by omega
          obtain ⟨j0, h30, hor⟩ := H2.out.2.turn Hv.out.1 true
          have HO := hide' hor
          have HC : Hid (Calls Try.prog 18 #[.pointer (some ⟨c, 0, none⟩), .int .i64 tag, .int .i64 (j : Int), .int .i64 0, .int .i64 0, .bool true] wr fun e w' => e = .returned (.tuple #[]) ∧ ∃ s, Hid (Cs w1 c g j b s w' ∧ C3 j j0 tag (j + 0) s)) := hide' ((put_any tag (ti j) true H2.out.1.1 (by rw [H2.out.2.ev]; omega)).mono fun e w' ⟨he, hc, ht⟩ => ⟨he, _, hide' ⟨⟨hc, Own.below H2.out.1.1 H2.out.1.2 ht⟩, h30⟩⟩)
          clear H2 h30 hor
          go_wp2_with fail
          refine HC.out.mono ?_
          rintro e w3 ⟨rfl, s3, H3⟩
          clear HC
          go_wp2_with fail
          go_loopw [16, 17] (fun y i wx => ∃ q : Nat, q ≤ j ∧ y = .int .i64 (gn j0 q : Nat) ∧ i = .int .i64 (q : Int) ∧ ∃ s, Hid (Cs w1 c g j b s wx ∧ C3 j j0 tag (j + q) s)) (fun _ i _ => j - (intOf i).toNat)
          case atStart => exact ⟨0, by omega, by rw [show gn j0 0 = 0 from if_neg (by omega)]; rfl, rfl, _, H3⟩
          case round =>
            clear H3
            obtain ⟨q, hq, rfl, rfl, s4, H4⟩ := hrel
            by_cases hlt : q < j
            · have hlt' : (q : Int) < (j : Int) := by omega
              have Hw := hide' (wsucN q (by have := Hv.out; omega))
              have Hwg := hide' (wsucN (gn j0 q) (by have := gn_le j0 q; omega))
              have HC : Hid (Calls Try.prog 19 #[.pointer (some ⟨c, 0, none⟩), .int .i64 tag, .int .i64 (q : Int), .int .i64 0, .int .i64 0] wr fun e w' => e = .returned (.tuple #[.bool (gta 1 j s4 tag (ti q)).1, .bool (decide (q ≠ j0))]) ∧ Hid (Cs w1 c g j b (gta 1 j s4 tag (ti q)).2.2 w' ∧ C3 j j0 tag (j + (q + 1)) (gta 1 j s4 tag (ti q)).2.2)) := hide' ((get_any tag (ti q) H4.out.1.1 (by have := H4.out.2.hi; have := Hv.out; omega) (by have := H4.out.2.hi; have := Hv.out; omega)).mono fun e w' ⟨he, hc, ht⟩ => by
                have h3 := H4.out.2.get hlt
                exact ⟨by rw [he, h3.1], hide' ⟨⟨hc, Own.below H4.out.1.1 H4.out.1.2 ht⟩, h3.2.mono (by omega)⟩⟩)
              clear H4
              by_cases e : q = j0
              · rw [decide_eq_false (fun z => z e)] at HC
                have Hg := hide' (gn_at e)
                rw [Hg.out.1] at Hwg ⊢
                rcases HO.out with hb | hall
                · have hb' : ((hit / 2 ^ min q 64).tmod 2 != 0) = false := by rw [e]; exact hb
                  clear hb e
                  go_wp2_with fail
                  refine HC.out.mono ?_
                  rintro e w3 ⟨rfl, H3⟩
                  clear HC
                  go_wp2
                  exact ⟨⟨q + 1, by omega, by first | (rw [Hg.out.2]; rfl) | (rw [Hwg.out, Hg.out.2]; rfl), by rw [Hw.out], _, H3⟩, msr' hlt _ (Hw.out.trans (by omega))⟩
                · have hb' : ((hit / 2 ^ min q 64).tmod 2 != 0) = true := hall q hlt
                  have hcb := cb_all (bit := bt hit) (k := j) hall
                  rw [hcb]
                  clear hall e hcb
                  go_wp2_with fail
                  refine HC.out.mono ?_
                  rintro e w3 ⟨rfl, H3⟩
                  clear HC
                  go_wp2
                  exact ⟨⟨q + 1, by omega, by first | (rw [Hg.out.2]; rfl) | (rw [Hwg.out, Hg.out.2]; rfl), by rw [Hw.out], _, H3⟩, msr' hlt _ (Hw.out.trans (by omega))⟩
              · rw [decide_eq_true e] at HC
                have Hg := hide' (gn_ne e)
                clear e
                go_wp2_with fail
                refine HC.out.mono ?_
                rintro e w3 ⟨rfl, H3⟩
                clear HC
                go_wp2
                exact ⟨⟨q + 1, by omega, by rw [Hg.out], by rw [Hw.out], _, H3⟩, msr' hlt _ (Hw.out.trans (by omega))⟩
            · obtain rfl : q = j := by omega
              have HC : Hid (Calls Try.prog 19 #[.pointer (some ⟨c, 0, none⟩), .int .i64 tag, .int .i64 (q : Int), .int .i64 0, .int .i64 0] wr fun e w' => e = .returned (.tuple #[.bool (gta 1 q s4 tag (ti q)).1, .bool true]) ∧ ∃ s, Hid (Cs w1 c g q b s w' ∧ s.ev = 1)) := hide' ((get_any tag (ti q) H4.out.1.1 (by have := H4.out.2.hi; have := Hv.out; omega) (by have := H4.out.2.hi; have := Hv.out; omega)).mono fun e w' ⟨he, hc, ht⟩ => by
                have h3 := H4.out.2.getv
                exact ⟨by rw [he, h3.1], _, hide' ⟨⟨hc, Own.below H4.out.1.1 H4.out.1.2 ht⟩, h3.2.ev⟩⟩)
              rw [gn_lt H4.out.2.lt]
              clear H4
              go_wp2_with fail
              refine HC.out.mono ?_
              rintro e w5 ⟨rfl, s5, H5⟩
              have HS : Hid (Calls Try.prog 13 #[.pointer (some ⟨c, 0, none⟩)] w5 fun e w' => e = .returned (.agg #[.int .i64 (s5.hi : Nat), .int .i64 (s5.mi : Nat), .int .i64 1, .int .i64 (hsm s5.f q 1 : Nat)]) ∧ Below w.heap.size w w') := hide' ((stats_any H5.out.1.1).mono fun e w' ⟨he, hb⟩ => ⟨by rw [he, H5.out.2]; rfl, HB1.out.trans ((H5.out.1.2.trans (hb.mono H5.out.1.2.size)).mono HB1.out.size)⟩)
              clear HC H5
              go_wp2_with fail
              refine HS.out.mono ?_
              rintro e w6 ⟨rfl, b6⟩
              clear HS
              have hf := fun w => fld31 (.int .i64 (s5.hi : Nat)) (.int .i64 (s5.mi : Nat)) (.int .i64 1) (.int .i64 (hsm s5.f q 1 : Nat)) w
              go_wp2
              go_ret
              exact ⟨rfl, b6⟩
end C
end Go.Proofs.Ytfjdfgkdjinbhaa
