import Derived.Test.YtikpjdgigiadnaaOfP
import Derived.Test.YtikpjdgigiadnaaAv
import Derived.Test.YtikpjdgigiadnaaTuW
set_option linter.unusedVariables false
set_option linter.unusedSimpArgs false
namespace Go.Proofs.Ytikpjdgigiadnaa
open Go.RowKit
namespace X
open C F
theorem Ints.take {w : World} {a : Option Addr} {zs : List Int} (h : Ints w a zs) (n : Nat) : Ints w a (zs.take n) := by
  rcases h with h | ⟨b, off, ha, hb, hc⟩
  · exact .inl (by rw [h]; simp)
  · refine .inr ⟨b, off, ha, hb, fun j hj => ?_⟩
    rw [List.length_take] at hj
    rw [hc j (by omega)]
    simp [List.getD, List.getElem?_take_of_lt (show j < n by omega)]
set_option maxRecDepth 100000 in
set_option maxHeartbeats 4000000 in
theorem often_walk (pa : Option Addr) (pc : Nat) (ps : List Int) (ea : Option Addr) (ec : Nat) (es : List Int) (W M : Int) (w : World) (hp : Ints w pa ps) (he : Ints w ea es) (hpn : pa = none → pc = 0) (hen : ea = none → ec = 0) (hpl : ps.length ≤ 17592186043904) (hel : es.length ≤ 17592186043904) (hcap : ps.length ≤ pc) :
    Calls Try.prog 12 #[.slice pa ps.length pc, .slice ea es.length ec, .int .i64 W, .int .i64 M] w fun e w' => e = .returned (.bool true) ∧ Below w.heap.size w w' := by
  have HA := hide' (alive_any w)
  have HP := hide' (fun w' (b : Below w.heap.size w w') => Ints.below hp b)
  have HE := hide' (fun w' (b : Below w.heap.size w w') => Ints.below he b)
  have HN := hide' (And.intro hpn hen)
  have HL := hide' (show (ps.length ≤ 17592186043904 ∧ es.length ≤ 17592186043904) ∧ (ps.length ≤ 17592186044000 ∧ es.length ≤ 17592186044000) ∧ ps.length ≤ pc by omega)
  have HF : Hid (∀ g1 c1 g2 c2 B1 B2 W X, Tw B1 g1 c1 ps X → Tw B2 g2 c2 es X → Calls Try.prog 28 #[.slice (some ⟨g1, 0, none⟩) ps.length c1, .slice (some ⟨g2, 0, none⟩) es.length c2, .int .i64 W] X fun e w' => e = .returned (.bool (fr ps es W)) ∧ Below X.heap.size X w') := hide' (fun g1 c1 g2 c2 B1 B2 W X h1 h2 => fair_any _ c1 ps _ c2 es W X h1.ints h2.ints HL.out.2.1.1 HL.out.2.1.2)
  clear hp he hpn hen hpl hel hcap
  go_enter Try.func12, Try.ntmps12
  go_wp2_with fail
  refine HA.out.mono ?_
  rintro e w1 ⟨rfl, b1⟩
  have B1 := hide' b1
  clear b1 HA
  go_wp2_with fail
  refine (twin_any pa pc ps w1 (HP.out _ B1.out) HN.out.1 HL.out.1.1).mono ?_
  rintro e w2 ⟨g1, c1, rfl, t1, b2⟩
  have B2 := hide' (And.intro t1 (B1.out.trans (b2.mono B1.out.size)))
  clear t1 b2 B1
  go_wp2_with fail
  refine (twin_any ea ec es w2 (HE.out _ B2.out.2) HN.out.2 HL.out.1.2).mono ?_
  rintro e w3 ⟨g2, c2, rfl, t2, b3⟩
  have B3 := hide' (And.intro (B2.out.1.below b3) (And.intro t2 (B2.out.2.trans (b3.mono B2.out.2.size))))
  clear t2 b3 B2
  go_wp2_with fail
  refine (HF.out _ _ _ _ _ _ W _ B3.out.1 B3.out.2.1).mono ?_
  rintro e w4 ⟨rfl, b4⟩
  have B4 := hide' (B3.out.2.2.trans (b4.mono B3.out.2.2.size))
  clear b4 B3
  cases hfr : fr ps es W with
  | false =>
    go_wp2_with fail
    go_ret
    exact ⟨rfl, B4.out⟩
  | true =>
    have HFr := hide' (fr_iff.1 hfr)
    have hW : ¬ W < 1 := by have := HFr.out.1; omega
    clear hfr
    rcases Int.lt_or_le W M with hM | hM
    · have hM' : M > W := hM
      go_wp2_with fail
      refine (twin_any pa pc ps w4 (HP.out _ B4.out) HN.out.1 HL.out.1.1).mono ?_
      rintro e w5 ⟨g3, c3, rfl, t1, b2⟩
      have B5 := hide' (And.intro t1 (B4.out.trans (b2.mono B4.out.size)))
      clear t1 b2 B4
      go_wp2_with fail
      refine (twin_any ea ec es w5 (HE.out _ B5.out.2) HN.out.2 HL.out.1.2).mono ?_
      rintro e w6 ⟨g4, c4, rfl, t2, b3⟩
      have B6 := hide' (And.intro (B5.out.1.below b3) (And.intro t2 (B5.out.2.trans (b3.mono B5.out.2.size))))
      clear t2 b3 B5
      go_wp2_with fail
      refine (HF.out _ _ _ _ _ _ M _ B6.out.1 B6.out.2.1).mono ?_
      rintro e w7 ⟨rfl, b4⟩
      rw [fr_true (fr_more HFr.out (by omega : W ≤ M))]
      have BV := hide' (B6.out.2.2.trans (b4.mono B6.out.2.2.size))
      clear b4 B6
      go_wp2_with fail
      go_loopw [11] (fun i wx => ∃ k : Nat, i = .int .i64 (k : Int) ∧ k ≤ es.length ∧ Below w.heap.size w wx) (fun i _ => es.length - (intOf i).toNat)
      case atStart => exact ⟨0, rfl, Nat.zero_le _, BV.out⟩
      case round =>
        obtain ⟨k, rfl, hk, hb⟩ := hrel
        clear BV
        by_cases hlt : k < es.length
        · have hlt' : (k : Int) < (es.length : Int) := by omega
          have e1 : wrap64 ((k : Int) + 1) = (k : Int) + 1 := by have := HL.out; exact wrap_in (by omega) (by omega)
          have Hend := hide' (msr' hlt _ e1)
          have Hk := hide' hlt
          have HB := hide' hb
          rcases HE.out _ hb with q | ⟨eb, eo, hea, heb, hec⟩
          · rw [q] at hlt; simp at hlt
          have ie := hec k hlt
          obtain ⟨ev, hev⟩ : ∃ ev, es.getD k 0 = ev := ⟨_, rfl⟩
          rw [hev] at ie
          have hle := ef_le ps.length ev
          have hlo := ef_lo ps.length ev
          obtain ⟨En, hEn⟩ : ∃ En : Nat, (En : Int) = ef ps.length ev + 1 := ⟨(ef ps.length ev + 1).toNat, by omega⟩
          have HO := hide' (fr_often HFr.out hlt (E := En) (by rw [hev]; exact hEn))
          have hEl : En ≤ ps.length := by omega
          have hEc : En ≤ pc := by have := HL.out.2.2; omega
          have key : Hid (ev < 0 ∧ wrap64 ((ps.length : Int) - 1) = (En : Int) - 1 ∨ (¬ ev < 0 ∧ ev ≥ (ps.length : Int)) ∧ wrap64 ((ps.length : Int) - 1) = (En : Int) - 1 ∨ (¬ ev < 0 ∧ ¬ ev ≥ (ps.length : Int)) ∧ (En : Int) - 1 = ev) := hide' (by
            have hw : wrap64 ((ps.length : Int) - 1) = (ps.length : Int) - 1 := by have := HL.out; exact wrap_in (by omega) (by omega)
            rw [hw]
            unfold ef at hEn
            by_cases q : ev < 0
            · rw [if_pos (.inl q)] at hEn; exact .inl ⟨q, by omega⟩
            · by_cases q2 : (ps.length : Int) ≤ ev
              · rw [if_pos (.inr q2)] at hEn; exact .inr (.inl ⟨⟨q, q2⟩, by omega⟩)
              · rw [if_neg (by omega)] at hEn; exact .inr (.inr ⟨⟨q, q2⟩, by omega⟩))
          obtain ⟨Ei, hEi⟩ : ∃ Ei : Int, Ei = (En : Int) - 1 := ⟨_, rfl⟩
          rw [← hEi] at key
          have ew : wrap64 (Ei + 1) = (En : Int) := by have := HL.out; rw [wrap_in (by omega) (by omega)]; omega
          have HCnt : Hid (∀ X, Below w.heap.size w X → Calls Try.prog 40 #[.slice pa En pc, .int .i64 (k : Int)] X fun e w' => e = .returned (.int .i64 (cn (ps.take En) (k : Int) : Int)) ∧ w' = X) := hide' (fun X b => by
            have c := count_any pa pc (ps.take En) (k : Int) X (Ints.take (HP.out _ b) En) (by rw [List.length_take]; have := HL.out; omega)
            rw [List.length_take, Nat.min_eq_left hEl] at c
            exact c)
          obtain ⟨cv, hcv⟩ : ∃ cv : Int, cv = (cn (ps.take En) (k : Int) : Int) := ⟨_, rfl⟩
          rw [← hcv] at HCnt HO
          obtain ⟨dq, hdq⟩ : ∃ dq : Int, dq = (En : Int) / W := ⟨_, rfl⟩
          rw [← hdq] at HO
          have hquo : Int.tdiv (En : Int) W = dq := by rw [hdq]; exact Int.tdiv_eq_ediv_of_nonneg (by omega)
          have hW1 : 1 ≤ W := by have := HFr.out.1; omega
          have hdq2 : 0 ≤ dq ∧ dq ≤ (En : Int) := by
            rw [hdq]
            exact ⟨Int.ediv_nonneg (by omega) (by omega), Int.ediv_le_self _ (by omega)⟩
          have hqw : IntKind.i64.wrap dq = dq := by have := HL.out; rw [IntKind.wrap_i64]; omega
          have hW0 : ¬ W = 0 := by omega
          have ho : ¬ cv < dq := HO.out
          obtain rfl := hea
          clear hEi hec heb hev hle hlo hEn hcv hdq hdq2 hb hk
          rcases key.out with ⟨a1, aw⟩ | ⟨⟨a1, a2⟩, aw⟩ | ⟨⟨a1, a2⟩, a3⟩
          rotate_right
          · obtain rfl := a3
            clear key
            go_wp2_with fail
            try rw [aw]
            go_quiet ((go_at_call 40; exact Calls.quiet_of_same (HCnt.out _ (by first | exact HB.out | exact bel_drewN HB.out _))))
            have KB := hide' (bel_drewN HB.out nq)
            try clear aw
            clear ie ew a1 HB HCnt hquo hqw
            try clear a2
            go_wp2_with fail
            exact ⟨⟨k + 1, by first | rfl | (rw [e1]; rfl), Hk.out, KB.out⟩, by first | exact Hend.out | (rw [← e1]; exact Hend.out)⟩
          all_goals
            clear key
            go_wp2_with fail
            try rw [aw]
            go_quiet ((go_at_call 40; exact Calls.quiet_of_same (HCnt.out _ (by first | exact HB.out | exact bel_drewN HB.out _))))
            have KB := hide' (bel_drewN HB.out nq)
            try clear aw
            clear ie ew a1 HB HCnt hquo hqw
            try clear a2
            go_wp2_with fail
            exact ⟨⟨k + 1, by first | rfl | (rw [e1]; rfl), Hk.out, KB.out⟩, by first | exact Hend.out | (rw [← e1]; exact Hend.out)⟩
        · obtain rfl : k = es.length := by omega
          have BW := hide' hb
          clear hlt hk hb
          go_wp2_with fail
          go_loopw [14, 13] (fun i v wx => ∃ (j : Nat) (eo : Option Addr) (oc : Nat), i = .int .i64 (j : Int) ∧ j ≤ es.length ∧ v = .slice eo j oc ∧ wx.ownsRow w.heap.size 3 1 (.slice eo j oc) j (ivs (List.replicate j (-1))) ∧ Below w.heap.size w wx) (fun i _ _ => es.length - (intOf i).toNat)
          case atStart => exact ⟨0, none, 0, rfl, Nat.zero_le _, rfl, World.ownsRow_nil _ _ _ _, BW.out⟩
          case round =>
            obtain ⟨j, eo, oc, rfl, hj, rfl, hrow, hb⟩ := hrel
            have HS := hide' (And.intro hrow hb)
            clear BW
            by_cases hlt : j < es.length
            · have hlt' : (j : Int) < (es.length : Int) := by omega
              have e1 : wrap64 ((j : Int) + 1) = (j : Int) + 1 := by have := HL.out; exact wrap_in (by omega) (by omega)
              have Hend := hide' (msr' hlt _ e1)
              have Hj := hide' hlt
              have HLen : Hid ((List.replicate j (-1 : Int)).length = j) := hide' (by simp)
              have n1 : Hid ((List.replicate j (-1 : Int)).length < 17592186044000) := hide' (by have := HL.out; rw [HLen.out]; omega)
              have HR2 : Hid (wr.ownsRow w.heap.size 3 1 (.slice eo (List.replicate j (-1 : Int)).length oc) (List.replicate j (-1 : Int)).length (ivs (List.replicate j (-1)))) := hide' (by rw [HLen.out]; exact hrow)
              clear hrow hb hj
              go_wp2_with (at_builtin; refine wpList_num wr rfl _ _ rfl HR2.out n1 HS.out.2.size (-1) _ (by rw [HLen.out]; rfl) rfl ?_; intro gg cap' w3 r3 t3 hg3; rw [rep_more] at r3; have K3 : Hid (w3.ownsRow w.heap.size 3 1 (.slice (some ⟨gg, 0, none⟩) (j + 1) cap') (j + 1) (ivs (List.replicate (j + 1) (-1))) ∧ Below w.heap.size w w3) := hide' ⟨by rw [List.length_replicate] at r3; exact r3, HS.out.2.trans (t3.below (fun i q => (HS.out.1.lt i (at_own q)).1) HS.out.2.size)⟩; clear r3 t3 hg3; rw [HLen.out])
              exact ⟨⟨j + 1, _, _, by first | rfl | (rw [e1]; rfl), Hj.out, rfl, K3.out⟩, by first | exact Hend.out | (rw [← e1]; exact Hend.out)⟩
            · obtain rfl : j = es.length := by omega
              clear hrow hb hj hlt
              go_wp2_with fail
              go_loopw [16, 15] (fun i v wx => ∃ (k c : Nat), i = .int .i64 (k : Int) ∧ k ≤ es.length ∧ v = .int .i64 (c : Int) ∧ c ≤ ps.length ∧ (∀ j, j < k → (c : Int) ≤ ef ps.length (es.getD j 0) + 1) ∧ wx.ownsRow w.heap.size 3 1 (.slice eo es.length oc) es.length (ivs (List.replicate es.length (-1))) ∧ Below w.heap.size w wx) (fun i _ _ => es.length - (intOf i).toNat)
              case atStart => exact ⟨0, ps.length, rfl, Nat.zero_le _, rfl, Nat.le_refl _, fun j hj => by omega, HS.out⟩
              case round =>
                obtain ⟨k, c, rfl, hk, rfl, hc, hall, hrow, hb⟩ := hrel
                clear HS
                have HS := hide' (And.intro hrow hb)
                have HC := hide' (And.intro hc hall)
                by_cases hlt : k < es.length
                · have hlt' : (k : Int) < (es.length : Int) := by omega
                  have e1 : wrap64 ((k : Int) + 1) = (k : Int) + 1 := by have := HL.out; exact wrap_in (by omega) (by omega)
                  have Hend := hide' (msr' hlt _ e1)
                  have Hk := hide' hlt
                  rcases HE.out _ hb with q | ⟨eb, e0, hea, heb, hec⟩
                  · rw [q] at hlt; simp at hlt
                  have ie := hec k hlt
                  obtain ⟨ev, hev⟩ : ∃ ev, es.getD k 0 = ev := ⟨_, rfl⟩
                  rw [hev] at ie
                  have HEv := hide' hev
                  have ewv : Hid (ev < (c : Int) → 0 ≤ ev → wrap64 (ev + 1) = ev + 1) := hide' (fun h1 h2 => by have := HL.out; exact wrap_in (by omega) (by omega))
                  obtain rfl := hea
                  clear hec heb hev hrow hb hk hc hall
                  by_cases h0 : ev ≥ 0
                  · by_cases h1 : ev < (c : Int)
                    · have ew := ewv.out h1 h0
                      obtain ⟨c', hc'⟩ : ∃ c' : Nat, ev + 1 = (c' : Int) := ⟨(ev + 1).toNat, by omega⟩
                      have K : Hid (c' ≤ ps.length ∧ ∀ j, j < k + 1 → (c' : Int) ≤ ef ps.length (es.getD j 0) + 1) := hide' (by
                        have h2 := HC.out.1
                        refine ⟨by omega, fun j hj => ?_⟩
                        by_cases q : j = k
                        · rw [q, HEv.out]
                          have : ef ps.length ev = ev := by unfold ef; rw [if_neg (by omega)]
                          omega
                        · have := HC.out.2 j (by omega); omega)
                      have ew2 := ew.trans hc'
                      clear hc' ewv ew
                      go_wp2_with fail
                      exact ⟨⟨k + 1, c', by first | rfl | (rw [e1]; rfl), Hk.out, by first | rfl | rw [ew2], K.out.1, K.out.2, HS.out.1, HS.out.2⟩, by first | exact Hend.out | (rw [← e1]; exact Hend.out)⟩
                    · have K : Hid (∀ j, j < k + 1 → (c : Int) ≤ ef ps.length (es.getD j 0) + 1) := hide' (fun j hj => by
                        by_cases q : j = k
                        · rw [q, HEv.out]
                          have h2 := HC.out.1
                          unfold ef
                          split <;> omega
                        · exact HC.out.2 j (by omega))
                      clear ewv
                      go_wp2_with fail
                      exact ⟨⟨k + 1, c, by first | rfl | (rw [e1]; rfl), Hk.out, rfl, HC.out.1, K.out, HS.out.1, HS.out.2⟩, by first | exact Hend.out | (rw [← e1]; exact Hend.out)⟩
                  · have K : Hid (∀ j, j < k + 1 → (c : Int) ≤ ef ps.length (es.getD j 0) + 1) := hide' (fun j hj => by
                      by_cases q : j = k
                      · rw [q, HEv.out]
                        have h2 := HC.out.1
                        unfold ef
                        split <;> omega
                      · exact HC.out.2 j (by omega))
                    clear ewv
                    go_wp2_with fail
                    exact ⟨⟨k + 1, c, by first | rfl | (rw [e1]; rfl), Hk.out, rfl, HC.out.1, K.out, HS.out.1, HS.out.2⟩, by first | exact Hend.out | (rw [← e1]; exact Hend.out)⟩
                · obtain rfl : k = es.length := by omega
                  have hcc : c ≤ pc := by have := HL.out.2.2; have := HC.out.1; omega
                  have HFc := hide' (fr_true (fr_cut HFr.out HC.out.1 HC.out.2))
                  have hlenc : (ps.take c).length = c := by rw [List.length_take]; have := HC.out.1; omega
                  have HTw := hide' (twin_any pa pc (ps.take c) wr (Ints.take (HP.out _ hb) c) HN.out.1 (by rw [hlenc]; have := HC.out.1; have := HL.out; omega))
                  rw [hlenc] at HTw
                  have HLc := hide' hlenc
                  clear hrow hb hc hall hlt hk hlenc
                  go_wp2_with fail
                  refine HTw.out.mono ?_
                  rintro e w8 ⟨g8, c8, rfl, t8, b8⟩
                  have K8 := hide' (And.intro t8 (And.intro ((turn_below (S := fun _ => False) b8).row HS.out.1 (fun _ _ q => q)) (HS.out.2.trans (b8.mono HS.out.2.size))))
                  clear t8 b8 HTw
                  have HFin := hide' (fair_any (some ⟨g8, 0, none⟩) c8 (ps.take c) eo oc (List.replicate es.length (-1)) W w8 K8.out.1.ints (Ints.of_row (by rw [List.length_replicate]; exact K8.out.2.1)) (by rw [HLc.out]; have := HC.out.1; have := HL.out; omega) (by rw [List.length_replicate]; have := HL.out; omega))
                  rw [HLc.out, List.length_replicate, HFc.out] at HFin
                  go_wp2_with fail
                  refine HFin.out.mono ?_
                  rintro e w9 ⟨rfl, b9⟩
                  have K9 := hide' (K8.out.2.2.trans (b9.mono K8.out.2.2.size))
                  clear b9
                  go_wp2_with fail
                  go_ret
                  exact ⟨rfl, K9.out⟩
    · have hM' : ¬ M > W := by omega
      have BV := B4
      clear B4
      go_wp2_with fail
      go_loopw [11] (fun i wx => ∃ k : Nat, i = .int .i64 (k : Int) ∧ k ≤ es.length ∧ Below w.heap.size w wx) (fun i _ => es.length - (intOf i).toNat)
      case atStart => exact ⟨0, rfl, Nat.zero_le _, BV.out⟩
      case round =>
        obtain ⟨k, rfl, hk, hb⟩ := hrel
        clear BV
        by_cases hlt : k < es.length
        · have hlt' : (k : Int) < (es.length : Int) := by omega
          have e1 : wrap64 ((k : Int) + 1) = (k : Int) + 1 := by have := HL.out; exact wrap_in (by omega) (by omega)
          have Hend := hide' (msr' hlt _ e1)
          have Hk := hide' hlt
          have HB := hide' hb
          rcases HE.out _ hb with q | ⟨eb, eo, hea, heb, hec⟩
          · rw [q] at hlt; simp at hlt
          have ie := hec k hlt
          obtain ⟨ev, hev⟩ : ∃ ev, es.getD k 0 = ev := ⟨_, rfl⟩
          rw [hev] at ie
          have hle := ef_le ps.length ev
          have hlo := ef_lo ps.length ev
          obtain ⟨En, hEn⟩ : ∃ En : Nat, (En : Int) = ef ps.length ev + 1 := ⟨(ef ps.length ev + 1).toNat, by omega⟩
          have HO := hide' (fr_often HFr.out hlt (E := En) (by rw [hev]; exact hEn))
          have hEl : En ≤ ps.length := by omega
          have hEc : En ≤ pc := by have := HL.out.2.2; omega
          have key : Hid (ev < 0 ∧ wrap64 ((ps.length : Int) - 1) = (En : Int) - 1 ∨ (¬ ev < 0 ∧ ev ≥ (ps.length : Int)) ∧ wrap64 ((ps.length : Int) - 1) = (En : Int) - 1 ∨ (¬ ev < 0 ∧ ¬ ev ≥ (ps.length : Int)) ∧ (En : Int) - 1 = ev) := hide' (by
            have hw : wrap64 ((ps.length : Int) - 1) = (ps.length : Int) - 1 := by have := HL.out; exact wrap_in (by omega) (by omega)
            rw [hw]
            unfold ef at hEn
            by_cases q : ev < 0
            · rw [if_pos (.inl q)] at hEn; exact .inl ⟨q, by omega⟩
            · by_cases q2 : (ps.length : Int) ≤ ev
              · rw [if_pos (.inr q2)] at hEn; exact .inr (.inl ⟨⟨q, q2⟩, by omega⟩)
              · rw [if_neg (by omega)] at hEn; exact .inr (.inr ⟨⟨q, q2⟩, by omega⟩))
          obtain ⟨Ei, hEi⟩ : ∃ Ei : Int, Ei = (En : Int) - 1 := ⟨_, rfl⟩
          rw [← hEi] at key
          have ew : wrap64 (Ei + 1) = (En : Int) := by have := HL.out; rw [wrap_in (by omega) (by omega)]; omega
          have HCnt : Hid (∀ X, Below w.heap.size w X → Calls Try.prog 40 #[.slice pa En pc, .int .i64 (k : Int)] X fun e w' => e = .returned (.int .i64 (cn (ps.take En) (k : Int) : Int)) ∧ w' = X) := hide' (fun X b => by
            have c := count_any pa pc (ps.take En) (k : Int) X (Ints.take (HP.out _ b) En) (by rw [List.length_take]; have := HL.out; omega)
            rw [List.length_take, Nat.min_eq_left hEl] at c
            exact c)
          obtain ⟨cv, hcv⟩ : ∃ cv : Int, cv = (cn (ps.take En) (k : Int) : Int) := ⟨_, rfl⟩
          rw [← hcv] at HCnt HO
          obtain ⟨dq, hdq⟩ : ∃ dq : Int, dq = (En : Int) / W := ⟨_, rfl⟩
          rw [← hdq] at HO
          have hquo : Int.tdiv (En : Int) W = dq := by rw [hdq]; exact Int.tdiv_eq_ediv_of_nonneg (by omega)
          have hW1 : 1 ≤ W := by have := HFr.out.1; omega
          have hdq2 : 0 ≤ dq ∧ dq ≤ (En : Int) := by
            rw [hdq]
            exact ⟨Int.ediv_nonneg (by omega) (by omega), Int.ediv_le_self _ (by omega)⟩
          have hqw : IntKind.i64.wrap dq = dq := by have := HL.out; rw [IntKind.wrap_i64]; omega
          have hW0 : ¬ W = 0 := by omega
          have ho : ¬ cv < dq := HO.out
          obtain rfl := hea
          clear hEi hec heb hev hle hlo hEn hcv hdq hdq2 hb hk
          rcases key.out with ⟨a1, aw⟩ | ⟨⟨a1, a2⟩, aw⟩ | ⟨⟨a1, a2⟩, a3⟩
          rotate_right
          · obtain rfl := a3
            clear key
            go_wp2_with fail
            try rw [aw]
            go_quiet ((go_at_call 40; exact Calls.quiet_of_same (HCnt.out _ (by first | exact HB.out | exact bel_drewN HB.out _))))
            have KB := hide' (bel_drewN HB.out nq)
            try clear aw
            clear ie ew a1 HB HCnt hquo hqw
            try clear a2
            go_wp2_with fail
            exact ⟨⟨k + 1, by first | rfl | (rw [e1]; rfl), Hk.out, KB.out⟩, by first | exact Hend.out | (rw [← e1]; exact Hend.out)⟩
          all_goals
            clear key
            go_wp2_with fail
            try rw [aw]
            go_quiet ((go_at_call 40; exact Calls.quiet_of_same (HCnt.out _ (by first | exact HB.out | exact bel_drewN HB.out _))))
            have KB := hide' (bel_drewN HB.out nq)
            try clear aw
            clear ie ew a1 HB HCnt hquo hqw
            try clear a2
            go_wp2_with fail
            exact ⟨⟨k + 1, by first | rfl | (rw [e1]; rfl), Hk.out, KB.out⟩, by first | exact Hend.out | (rw [← e1]; exact Hend.out)⟩
        · obtain rfl : k = es.length := by omega
          have BW := hide' hb
          clear hlt hk hb
          go_wp2_with fail
          go_loopw [14, 13] (fun i v wx => ∃ (j : Nat) (eo : Option Addr) (oc : Nat), i = .int .i64 (j : Int) ∧ j ≤ es.length ∧ v = .slice eo j oc ∧ wx.ownsRow w.heap.size 3 1 (.slice eo j oc) j (ivs (List.replicate j (-1))) ∧ Below w.heap.size w wx) (fun i _ _ => es.length - (intOf i).toNat)
          case atStart => exact ⟨0, none, 0, rfl, Nat.zero_le _, rfl, World.ownsRow_nil _ _ _ _, BW.out⟩
          case round =>
            obtain ⟨j, eo, oc, rfl, hj, rfl, hrow, hb⟩ := hrel
            have HS := hide' (And.intro hrow hb)
            clear BW
            by_cases hlt : j < es.length
            · have hlt' : (j : Int) < (es.length : Int) := by omega
              have e1 : wrap64 ((j : Int) + 1) = (j : Int) + 1 := by have := HL.out; exact wrap_in (by omega) (by omega)
              have Hend := hide' (msr' hlt _ e1)
              have Hj := hide' hlt
              have HLen : Hid ((List.replicate j (-1 : Int)).length = j) := hide' (by simp)
              have n1 : Hid ((List.replicate j (-1 : Int)).length < 17592186044000) := hide' (by have := HL.out; rw [HLen.out]; omega)
              have HR2 : Hid (wr.ownsRow w.heap.size 3 1 (.slice eo (List.replicate j (-1 : Int)).length oc) (List.replicate j (-1 : Int)).length (ivs (List.replicate j (-1)))) := hide' (by rw [HLen.out]; exact hrow)
              clear hrow hb hj
              go_wp2_with (at_builtin; refine wpList_num wr rfl _ _ rfl HR2.out n1 HS.out.2.size (-1) _ (by rw [HLen.out]; rfl) rfl ?_; intro gg cap' w3 r3 t3 hg3; rw [rep_more] at r3; have K3 : Hid (w3.ownsRow w.heap.size 3 1 (.slice (some ⟨gg, 0, none⟩) (j + 1) cap') (j + 1) (ivs (List.replicate (j + 1) (-1))) ∧ Below w.heap.size w w3) := hide' ⟨by rw [List.length_replicate] at r3; exact r3, HS.out.2.trans (t3.below (fun i q => (HS.out.1.lt i (at_own q)).1) HS.out.2.size)⟩; clear r3 t3 hg3; rw [HLen.out])
              exact ⟨⟨j + 1, _, _, by first | rfl | (rw [e1]; rfl), Hj.out, rfl, K3.out⟩, by first | exact Hend.out | (rw [← e1]; exact Hend.out)⟩
            · obtain rfl : j = es.length := by omega
              clear hrow hb hj hlt
              go_wp2_with fail
              go_loopw [16, 15] (fun i v wx => ∃ (k c : Nat), i = .int .i64 (k : Int) ∧ k ≤ es.length ∧ v = .int .i64 (c : Int) ∧ c ≤ ps.length ∧ (∀ j, j < k → (c : Int) ≤ ef ps.length (es.getD j 0) + 1) ∧ wx.ownsRow w.heap.size 3 1 (.slice eo es.length oc) es.length (ivs (List.replicate es.length (-1))) ∧ Below w.heap.size w wx) (fun i _ _ => es.length - (intOf i).toNat)
              case atStart => exact ⟨0, ps.length, rfl, Nat.zero_le _, rfl, Nat.le_refl _, fun j hj => by omega, HS.out⟩
              case round =>
                obtain ⟨k, c, rfl, hk, rfl, hc, hall, hrow, hb⟩ := hrel
                clear HS
                have HS := hide' (And.intro hrow hb)
                have HC := hide' (And.intro hc hall)
                by_cases hlt : k < es.length
                · have hlt' : (k : Int) < (es.length : Int) := by omega
                  have e1 : wrap64 ((k : Int) + 1) = (k : Int) + 1 := by have := HL.out; exact wrap_in (by omega) (by omega)
                  have Hend := hide' (msr' hlt _ e1)
                  have Hk := hide' hlt
                  rcases HE.out _ hb with q | ⟨eb, e0, hea, heb, hec⟩
                  · rw [q] at hlt; simp at hlt
                  have ie := hec k hlt
                  obtain ⟨ev, hev⟩ : ∃ ev, es.getD k 0 = ev := ⟨_, rfl⟩
                  rw [hev] at ie
                  have HEv := hide' hev
                  have ewv : Hid (ev < (c : Int) → 0 ≤ ev → wrap64 (ev + 1) = ev + 1) := hide' (fun h1 h2 => by have := HL.out; exact wrap_in (by omega) (by omega))
                  obtain rfl := hea
                  clear hec heb hev hrow hb hk hc hall
                  by_cases h0 : ev ≥ 0
                  · by_cases h1 : ev < (c : Int)
                    · have ew := ewv.out h1 h0
                      obtain ⟨c', hc'⟩ : ∃ c' : Nat, ev + 1 = (c' : Int) := ⟨(ev + 1).toNat, by omega⟩
                      have K : Hid (c' ≤ ps.length ∧ ∀ j, j < k + 1 → (c' : Int) ≤ ef ps.length (es.getD j 0) + 1) := hide' (by
                        have h2 := HC.out.1
                        refine ⟨by omega, fun j hj => ?_⟩
                        by_cases q : j = k
                        · rw [q, HEv.out]
                          have : ef ps.length ev = ev := by unfold ef; rw [if_neg (by omega)]
                          omega
                        · have := HC.out.2 j (by omega); omega)
                      have ew2 := ew.trans hc'
                      clear hc' ewv ew
                      go_wp2_with fail
                      exact ⟨⟨k + 1, c', by first | rfl | (rw [e1]; rfl), Hk.out, by first | rfl | rw [ew2], K.out.1, K.out.2, HS.out.1, HS.out.2⟩, by first | exact Hend.out | (rw [← e1]; exact Hend.out)⟩
                    · have K : Hid (∀ j, j < k + 1 → (c : Int) ≤ ef ps.length (es.getD j 0) + 1) := hide' (fun j hj => by
                        by_cases q : j = k
                        · rw [q, HEv.out]
                          have h2 := HC.out.1
                          unfold ef
                          split <;> omega
                        · exact HC.out.2 j (by omega))
                      clear ewv
                      go_wp2_with fail
                      exact ⟨⟨k + 1, c, by first | rfl | (rw [e1]; rfl), Hk.out, rfl, HC.out.1, K.out, HS.out.1, HS.out.2⟩, by first | exact Hend.out | (rw [← e1]; exact Hend.out)⟩
                  · have K : Hid (∀ j, j < k + 1 → (c : Int) ≤ ef ps.length (es.getD j 0) + 1) := hide' (fun j hj => by
                      by_cases q : j = k
                      · rw [q, HEv.out]
                        have h2 := HC.out.1
                        unfold ef
                        split <;> omega
                      · exact HC.out.2 j (by omega))
                    clear ewv
                    go_wp2_with fail
                    exact ⟨⟨k + 1, c, by first | rfl | (rw [e1]; rfl), Hk.out, rfl, HC.out.1, K.out, HS.out.1, HS.out.2⟩, by first | exact Hend.out | (rw [← e1]; exact Hend.out)⟩
                · obtain rfl : k = es.length := by omega
                  have hcc : c ≤ pc := by have := HL.out.2.2; have := HC.out.1; omega
                  have HFc := hide' (fr_true (fr_cut HFr.out HC.out.1 HC.out.2))
                  have hlenc : (ps.take c).length = c := by rw [List.length_take]; have := HC.out.1; omega
                  have HTw := hide' (twin_any pa pc (ps.take c) wr (Ints.take (HP.out _ hb) c) HN.out.1 (by rw [hlenc]; have := HC.out.1; have := HL.out; omega))
                  rw [hlenc] at HTw
                  have HLc := hide' hlenc
                  clear hrow hb hc hall hlt hk hlenc
                  go_wp2_with fail
                  refine HTw.out.mono ?_
                  rintro e w8 ⟨g8, c8, rfl, t8, b8⟩
                  have K8 := hide' (And.intro t8 (And.intro ((turn_below (S := fun _ => False) b8).row HS.out.1 (fun _ _ q => q)) (HS.out.2.trans (b8.mono HS.out.2.size))))
                  clear t8 b8 HTw
                  have HFin := hide' (fair_any (some ⟨g8, 0, none⟩) c8 (ps.take c) eo oc (List.replicate es.length (-1)) W w8 K8.out.1.ints (Ints.of_row (by rw [List.length_replicate]; exact K8.out.2.1)) (by rw [HLc.out]; have := HC.out.1; have := HL.out; omega) (by rw [List.length_replicate]; have := HL.out; omega))
                  rw [HLc.out, List.length_replicate, HFc.out] at HFin
                  go_wp2_with fail
                  refine HFin.out.mono ?_
                  rintro e w9 ⟨rfl, b9⟩
                  have K9 := hide' (K8.out.2.2.trans (b9.mono K8.out.2.2.size))
                  clear b9
                  go_wp2_with fail
                  go_ret
                  exact ⟨rfl, K9.out⟩
end X
end Go.Proofs.Ytikpjdgigiadnaa
