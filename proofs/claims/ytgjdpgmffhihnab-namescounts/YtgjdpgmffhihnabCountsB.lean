import Derived.Test.YtgjdpgmffhihnabCountsW
import Derived.LoopTactic
import Derived.Lib.Strings
import Derived.Deep.QuietTactic
set_option linter.unusedVariables false
set_option linter.unusedSimpArgs false
namespace Go.Proofs.Ytgjdpgmffhihnab
open Go.RowKit Go.Maps
namespace S
set_option maxRecDepth 100000 in
set_option maxHeartbeats 4000000 in
theorem walkB (b off len cap N : Nat) (ss : List ByteArray) (other : ByteArray) (w : World) (hlc : len ≤ cap) (hcm : cap ≤ maxLen) (hN : 1000 = N) (hle : ¬ len ≤ 1000) (hN0 : 0 < N) (hss : ss.length = N)
    (hc : ∀ j, j < N → w.cell? ⟨b, off + j, none⟩ = some (.string (ss.getD j ByteArray.empty))) (hsz : ∀ s ∈ ss, s.size ≤ maxLen) (hos : other.size ≤ maxLen) (hbl : b < w.heap.size) :
    Calls Try.prog 4 #[.slice (some ⟨b, off, none⟩) len cap, .string other] w fun e w' => e = .returned (.bool true) ∧ Below w.heap.size w w' := by
  unfold maxLen at hcm
  obtain ⟨i0, hi, hz0, hz1, hz2⟩ := info_parts info3
  have hNl : N ≤ len := by omega
  have hN1 : N ≤ 1000 := by omega
  have e1 : ¬ (len : Int) ≤ 1000 := by omega
  have e2 : (1000 : Int) < (len : Int) := by omega
  have HN := hide' hN
  have Hss := hide' hss
  have Hc := hide' hc
  have Hsz := hide' hsz
  clear hN hss hc hsz
  have nxt : ∀ (k : Nat) (w' : World), k < N → Below w.heap.size w w' → w'.cell? ⟨b, off + k, none⟩ = some (.string (ss.getD k ByteArray.empty)) := fun k w' hk hb => (hb.cell (p := ⟨b, off + k, none⟩) hbl).trans (Hc.out k hk)
  have Hnx := hide' nxt
  clear nxt
  go_enter Try.func4, Try.ntmps4
  go_wp2_with (go_at_call 13; refine (new_any _).mono ?_; rintro e w1 ⟨rfl, hix, hb, hsz1⟩)
  rw [show Value.slice (some ⟨b, off, none⟩) 1000 cap = Value.slice (some ⟨b, off, none⟩) N cap from by rw [HN.out]]
  clear e1 e2 hle
  generalize hB : w.heap.size = B at *
  have HB := hide' hB
  clear hB
  have hBw : B + 2 ≤ w1.heap.size := by omega
  go_loopw [6, 7, 8] (fun v mst i w' => ∃ (k : Nat) (ao : Option Addr) (cp : Nat) (ro : Option Addr) (rc : Nat), k ≤ N ∧ i = .int .i64 k ∧ mst = .int .i64 (ded (ss.take k)).length ∧ v = .slice ro k rc ∧ IxI B (B + 1) B ao cp (ded (ss.take k)) w' ∧ w'.ownsRow B 3 1 (.slice ro k rc) k (nums ss k) ∧ Below B w w' ∧ B + 2 ≤ w'.heap.size) (fun _ _ i _ => N - (intOf i).toNat)
  case atStart => exact ⟨0, none, 0, none, 0, Nat.zero_le _, rfl, rfl, rfl, hix, World.ownsRow_nil _ _ _ _, hb, hBw⟩
  case round =>
    obtain ⟨k, ao, cp, ro, rc, hk, rfl, rfl, rfl, hix, hrow, hb, hBs⟩ := hrel
    by_cases hlt : k < N
    · have hcell := Hnx.out k _ hlt hb
      have hat : ss[k]? = some (ss.getD k ByteArray.empty) := getD_at ss k (by rw [Hss.out]; exact hlt)
      have hks : okk (ss.getD k ByteArray.empty) := Hsz.out _ (getD_mem ss k (by rw [Hss.out]; exact hlt))
      have hnum := num_take ss k _ hat
      have hadd := take_ded ss k _ hat
      have hns := nums_succ ss k _ hat
      have hlen : (ded (ss.take k)).length ≤ k := Nat.le_trans (ded_len _) (List.length_take_le _ _)
      have hrB : ∀ j, (Value.slice ro k rc).ownBlock = some j → B ≤ j := fun j hj => by
        cases ro with
        | none => cases hj
        | some a => cases hj; exact (row_apart hix hrow a rfl).2.1
      generalize ss.getD k ByteArray.empty = s at *
      by_cases hin : s ∈ ded (ss.take k)
      · have hof := of_old B (B + 1) B ao cp (ded (ss.take k)) s
        have Hof := hide' hof
        clear hof
        rw [add_in hin] at hadd
        have hr1 := num_pos hin
        have hr2 := num_le (ded (ss.take k)) s
        rw [hadd] at hnum
        have Hnum := hide' hnum
        have Hadd := hide' hadd
        have Hns := hide' hns
        have Hin := hide' hin
        clear hnum hadd hns hin hat
        go_wp2_with fail
        refine (Hof.out _ hix hks Hin.out).mono ?_
        rintro e w2 ⟨rfl, hww⟩
        have hix2 : IxI B (B + 1) B ao cp (ded (ss.take k)) w2 := by rw [hww]; exact hix
        have hrowN : w2.ownsRow B 3 1 (.slice ro k rc) k (nums ss k) := by rw [hww]; exact hrow
        have hb2 : Below B w w2 := by rw [hww]; exact hb
        have hB2' : B + 2 ≤ w2.heap.size := by rw [hww]; exact hBs
        have hB2 : B ≤ w2.heap.size := by omega
        clear hww hix hrow hb hBs hcell Hof
        obtain ⟨r, hr⟩ : ∃ r : Int, r = (num (ded (ss.take k)) s : Nat) := ⟨_, rfl⟩
        rw [← hr]
        have hr3 : 1 ≤ r := by omega
        have hr4 : r ≤ ((ded (ss.take k)).length : Int) := by omega
        have Hr := hide' hr
        clear hr hr1 hr2
        generalize hzl : (ded (ss.take k)).length = zl at *
        have Hzl := hide' hzl
        clear hzl
        have q1 : (r == (zl : Int) + 1) = false := by simp; omega
        have q2 : decide (r < 1) = false := by simp; omega
        have q3 : decide ((zl : Int) < r) = false := by simp; omega
        go_wp2_with (first | (at_builtin; refine wpList_append_lies _ rfl _ _ 44 rfl B 3 i0 (.int .i64 0) 1 8 Try.underlying44 hi hz0 hz1 hz2 rfl (by decide) _ _ _ rfl (hrowN.alloc _) ⟨w2.heap.size, 0, none⟩ 1 1 [.int .i64 r] rfl rfl (cell_one_new _ _ _) (by simp [Value.oneCell']) (by decide) (by unfold maxLen; omega) (by omega) (by simp; omega) (w2.heap.size + 1) (by simp) ?_; intro g rc' w3 hrow3 hgrow3 hat3 hlt3; have hix3 := ix_append hix2 hrowN hgrow3; have hb3 := hb2.grown ((World.grownBy_alloc w2 _ _).trans hgrow3) hB2 hrB; have hB3 : B + 2 ≤ w3.heap.size := Nat.le_trans hB2' (Nat.le_trans (by simp) hgrow3.size); clear hix2 hrowN hgrow3 hat3 hlt3 hb2) | (go_at_call 15; have hl4 := len_any _ _ _ _ _ _ _ hix3; rw [Hzl.out] at hl4; refine hl4.mono ?_; clear hl4; rintro e w4 ⟨rfl, hw4⟩; have hix4 := hix3; rw [← hw4] at hix3 hrow3 hb3 hB3; clear hw4 hix4))
        exact ⟨⟨k + 1, ao, cp, some ⟨g, 0, none⟩, rc', by omega, by go_num, by rw [Hadd.out, Hzl.out], rfl, by rw [Hadd.out]; exact hix3, by rw [Hns.out, ← Hnum.out, ← Hr.out]; exact hrow3, hb3, hB3⟩, by simp [intOf]; omega⟩
      · have hof := of_new B (B + 1) B ao cp (ded (ss.take k)) s
        have Hof := hide' hof
        clear hof
        rw [add_new hin] at hadd
        have hnn := num_new hin
        rw [hadd, hnn] at hnum
        have hi1 : ((ded (ss.take k)).length : Int) < 1048576 := by omega
        have ap := row_apart hix hrow
        have ob := own_below hix
        have Hnum := hide' hnum
        have Hadd := hide' hadd
        have Hns := hide' hns
        have Hin := hide' hin
        clear hnum hadd hns hin hat hnn
        go_wp2_with fail
        refine (Hof.out _ hix hks Hin.out hi1).mono ?_
        rintro e w2 ⟨rfl, g0, cp0, hix2, ht, _⟩
        rw [← Hadd.out] at hix2
        have hrowN : w2.ownsRow B 3 1 (.slice ro k rc) k (nums ss k) := ht.row hrow (fun j hj => by
          cases ro with
          | none => cases hj
          | some a => cases hj; exact (ap a rfl).1)
        have hb2 : Below B w w2 := hb.trans (ht.below ob (by omega))
        have hB2' : B + 2 ≤ w2.heap.size := Nat.le_trans hBs ht.size
        have hB2 : B ≤ w2.heap.size := by omega
        clear hix hrow hb hBs hcell Hof ht ap ob hi1
        have hzn : (ded (ss.take (k + 1))).length = (ded (ss.take k)).length + 1 := by rw [Hadd.out]; simp
        generalize hzl : (ded (ss.take k)).length = zl0 at *
        obtain ⟨zl, hzz⟩ : ∃ zl, zl = zl0 + 1 := ⟨_, rfl⟩
        obtain ⟨r, hr⟩ : ∃ r : Int, r = ((zl0 + 1 : Nat) : Int) := ⟨_, rfl⟩
        rw [← hr]
        have hr3 : 1 ≤ r := by omega
        have Hzl : Hid ((ded (ss.take (k + 1))).length = zl) := (show (ded (ss.take (k + 1))).length = zl by omega)
        have Hr := hide' hr
        have Hrz : Hid (r = (zl : Int)) := (show r = (zl : Int) by omega)
        have q1 : (r == (zl0 : Int) + 1) = true := by simp; omega
        have q2 : decide (r < 1) = false := by simp; omega
        have q4 : (((zl : Nat) : Int) != r) = false := by simp; omega
        clear hr hzl hzn hzz
        go_wp2_with (first | (at_builtin; refine wpList_append_lies _ rfl _ _ 44 rfl B 3 i0 (.int .i64 0) 1 8 Try.underlying44 hi hz0 hz1 hz2 rfl (by decide) _ _ _ rfl (hrowN.alloc _) ⟨w2.heap.size, 0, none⟩ 1 1 [.int .i64 r] rfl rfl (cell_one_new _ _ _) (by simp [Value.oneCell']) (by decide) (by unfold maxLen; omega) (by omega) (by simp; omega) (w2.heap.size + 1) (by simp) ?_; intro g rc' w3 hrow3 hgrow3 hat3 hlt3; have hix3 := ix_append hix2 hrowN hgrow3; have hb3 := hb2.grown ((World.grownBy_alloc w2 _ _).trans hgrow3) hB2 hrB; have hB3 : B + 2 ≤ w3.heap.size := Nat.le_trans hB2' (Nat.le_trans (by simp) hgrow3.size); clear hix2 hrowN hgrow3 hat3 hlt3 hb2) | (go_at_call 15; have hl4 := len_any _ _ _ _ _ _ _ hix3; rw [Hzl.out] at hl4; refine hl4.mono ?_; clear hl4; rintro e w4 ⟨rfl, hw4⟩; have hix4 := hix3; rw [← hw4] at hix3 hrow3 hb3 hB3; clear hw4 hix4))
        exact ⟨⟨k + 1, _, cp0, some ⟨g, 0, none⟩, rc', by omega, by go_num, by rw [Hzl.out, Hrz.out], rfl, hix3, by rw [Hns.out, ← Hnum.out, ← Hr.out]; exact hrow3, hb3, hB3⟩, by simp [intOf]; omega⟩
    · have hkN : k = N := by omega
      have htk : ss.take k = ss := List.take_of_length_le (by rw [Hss.out]; omega)
      rw [htk] at hix
      rw [htk]
      obtain ⟨g, rc', hv, _, _⟩ := hrow.form (by omega)
      simp only [Value.slice.injEq] at hv
      obtain ⟨hro, hv1, hv2⟩ := hv
      clear hv1 hv2
      have hst : St b off B ao cp N g ss w wr := by
        refine ⟨hix, fun j hj => Hnx.out j _ hj hb, fun j hj => ?_, hb⟩
        rw [hro] at hrow
        exact nums_at hrow j _ (by omega) (getD_at ss j (by rw [Hss.out]; exact hj))
      rw [hro]
      have hzlen : ((ded ss).length : Int) ≤ 1000 := by
        have h1 := ded_len ss
        rw [Hss.out] at h1
        omega
      generalize hzl : (ded ss).length = zl at *
      have Hzl := hide' hzl
      rw [hkN]
      clear hzl htk hkN hrow hix hb hBs hro
      go_wp2
      go_loopw [10, 11] (fun th i w' => ∃ k : Nat, k ≤ N ∧ i = .int .i64 k ∧ th = .bool ((ss.take k).any fun s => s.toList == other.toList) ∧ St b off B ao cp N g ss w w') (fun _ i _ => N - (intOf i).toNat)
      case atStart => exact ⟨0, Nat.zero_le _, rfl, rfl, hst⟩
      case round =>
        obtain ⟨k, hk, rfl, rfl, hst⟩ := hrel
        by_cases hlt : k < N
        · have hcell := hst.txt k hlt
          have hncell := hst.nms k hlt
          have hat : ss[k]? = some (ss.getD k ByteArray.empty) := getD_at ss k (by rw [Hss.out]; exact hlt)
          have hmem : ss.getD k ByteArray.empty ∈ ss := getD_mem ss k (by rw [Hss.out]; exact hlt)
          have hks : okk (ss.getD k ByteArray.empty) := Hsz.out _ hmem
          have hmd : ss.getD k ByteArray.empty ∈ ded ss := (mem_ded ss _).2 hmem
          have hany := any_succ ss k _ other hat
          have hp1 := num_pos hmd
          have hp2 := num_le (ded ss) (ss.getD k ByteArray.empty)
          rw [Hzl.out] at hp2
          have hfd := fun x hx => find_any B (B + 1) B ao cp (ded ss) (ss.getD k ByteArray.empty) x hx hks
          rw [isIn_yes hmd] at hfd
          have hay := fun x hx => at_yes B (B + 1) B ao cp (ded ss) (num (ded ss) (ss.getD k ByteArray.empty) : Nat) (ss.getD k ByteArray.empty) x hx (by omega) (by rw [Hzl.out]; omega) (by rw [Hzl.out]; omega) (by
            have := num_at hmd
            rw [show ((num (ded ss) (ss.getD k ByteArray.empty) : Nat) : Int) - 1 = ((num (ded ss) (ss.getD k ByteArray.empty) - 1 : Nat) : Int) from by omega, Int.toNat_natCast]
            exact this)
          have hpair : ∀ j, j < k → ∀ w', St b off B ao cp N g ss w w' → ∃ (t : ByteArray) (m : Int) (d : Bool), w'.cell? ⟨b, off + j, none⟩ = some (.string t) ∧ w'.cell? ⟨g, j, none⟩ = some (.int .i64 m) ∧ (t.toList == (ss.getD k ByteArray.empty).toList) = d ∧ (m == ((num (ded ss) (ss.getD k ByteArray.empty) : Nat) : Int)) = d := by
            intro j hj w' h'
            have hjm : ss.getD j ByteArray.empty ∈ ded ss := (mem_ded ss _).2 (getD_mem ss j (by rw [Hss.out]; omega))
            refine ⟨_, _, _, h'.txt j (by omega), h'.nms j (by omega), rfl, ?_⟩
            exact same_num hjm hmd
          have Hpair := hide' hpair
          have Hcells := hide' (fun w' (h' : St b off B ao cp N g ss w w') => And.intro (h'.txt k hlt) (h'.nms k hlt))
          have Hfd := hide' hfd
          have Hay := hide' hay
          have Hany := hide' hany
          clear hfd hay hany hmem hmd hat hpair
          generalize ss.getD k ByteArray.empty = s at *
          generalize hnu : ((num (ded ss) s : Nat) : Int) = nu at *
          have hn1 : 1 ≤ nu := by omega
          have hn2 : nu ≤ 1000 := by omega
          clear hnu hp1 hp2
          have q1 : (nu != nu) = false := by simp
          have q2 : (s.toList != s.toList) = false := by simp
          generalize hth : ((ss.take k).any fun s => s.toList == other.toList) = th at *
          have Hth := hide' hth
          clear hth
          have key : ∀ d : Bool, (s.toList == other.toList) = d → True := fun _ _ => trivial
          cases th with
          | true =>
            go_wp2_with fail
            refine (Hfd.out _ hst.ix).mono ?_
            rintro e x1 ⟨rfl, hx1⟩
            have hst1 := hst
            rw [← hx1] at hst1 hcell hncell
            clear hx1
            go_wp2_with fail
            refine (Hay.out _ hst1.ix).mono ?_
            rintro e x2 ⟨rfl, hx2⟩
            have hst2 := hst1
            rw [← hx2] at hst2 hcell hncell
            clear hx2
            go_wp2_with fail
            go_loopw [16] (fun j w' => ∃ m : Nat, m ≤ k ∧ j = .int .i64 m ∧ St b off B ao cp N g ss w w') (fun j _ => k - (intOf j).toNat)
            case atStart => exact ⟨0, Nat.zero_le _, rfl, hst2⟩
            case round =>
              obtain ⟨m, hm, rfl, hst3⟩ := hrel
              by_cases hmk : m < k
              · obtain ⟨t, nm, d, c1, c2, e1, e2⟩ := Hpair.out m hmk _ hst3
                obtain ⟨c3, c4⟩ := Hcells.out _ hst3
                have ed : (d != d) = false := by simp
                have hmi : (m : Int) < (k : Int) := by omega
                have hmn : (m : Int) < (N : Int) := by omega
                have hkn : (k : Int) < (N : Int) := by omega
                clear hcell hncell
                go_wp2_with fail
                go_quiet (fail)
                go_wp2
                exact ⟨⟨m + 1, by omega, by go_num, hst3.drewN _⟩, by simp [intOf]; omega⟩
              · go_wp2
                exact ⟨⟨k + 1, by omega, by go_num, by rw [Hany.out]; rfl, hst3⟩, by simp [intOf]; omega⟩
          | false =>
            cases hso : (s.toList == other.toList) with
            | true =>
              go_wp2_with fail
              refine (Hfd.out _ hst.ix).mono ?_
              rintro e x1 ⟨rfl, hx1⟩
              have hst1 := hst
              rw [← hx1] at hst1 hcell hncell
              clear hx1
              go_wp2_with fail
              refine (Hay.out _ hst1.ix).mono ?_
              rintro e x2 ⟨rfl, hx2⟩
              have hst2 := hst1
              rw [← hx2] at hst2 hcell hncell
              clear hx2
              go_wp2_with fail
              go_loopw [16] (fun j w' => ∃ m : Nat, m ≤ k ∧ j = .int .i64 m ∧ St b off B ao cp N g ss w w') (fun j _ => k - (intOf j).toNat)
              case atStart => exact ⟨0, Nat.zero_le _, rfl, hst2⟩
              case round =>
                obtain ⟨m, hm, rfl, hst3⟩ := hrel
                by_cases hmk : m < k
                · obtain ⟨t, nm, d, c1, c2, e1, e2⟩ := Hpair.out m hmk _ hst3
                  obtain ⟨c3, c4⟩ := Hcells.out _ hst3
                  have ed : (d != d) = false := by simp
                  have hmi : (m : Int) < (k : Int) := by omega
                  have hmn : (m : Int) < (N : Int) := by omega
                  have hkn : (k : Int) < (N : Int) := by omega
                  clear hcell hncell
                  go_wp2_with fail
                  go_quiet (fail)
                  go_wp2
                  exact ⟨⟨m + 1, by omega, by go_num, hst3.drewN _⟩, by simp [intOf]; omega⟩
                · go_wp2
                  exact ⟨⟨k + 1, by omega, by go_num, by rw [Hany.out, hso]; rfl, hst3⟩, by simp [intOf]; omega⟩
            | false =>
              go_wp2_with fail
              refine (Hfd.out _ hst.ix).mono ?_
              rintro e x1 ⟨rfl, hx1⟩
              have hst1 := hst
              rw [← hx1] at hst1 hcell hncell
              clear hx1
              go_wp2_with fail
              refine (Hay.out _ hst1.ix).mono ?_
              rintro e x2 ⟨rfl, hx2⟩
              have hst2 := hst1
              rw [← hx2] at hst2 hcell hncell
              clear hx2
              go_wp2_with fail
              go_loopw [16] (fun j w' => ∃ m : Nat, m ≤ k ∧ j = .int .i64 m ∧ St b off B ao cp N g ss w w') (fun j _ => k - (intOf j).toNat)
              case atStart => exact ⟨0, Nat.zero_le _, rfl, hst2⟩
              case round =>
                obtain ⟨m, hm, rfl, hst3⟩ := hrel
                by_cases hmk : m < k
                · obtain ⟨t, nm, d, c1, c2, e1, e2⟩ := Hpair.out m hmk _ hst3
                  obtain ⟨c3, c4⟩ := Hcells.out _ hst3
                  have ed : (d != d) = false := by simp
                  have hmi : (m : Int) < (k : Int) := by omega
                  have hmn : (m : Int) < (N : Int) := by omega
                  have hkn : (k : Int) < (N : Int) := by omega
                  clear hcell hncell
                  go_wp2_with fail
                  go_quiet (fail)
                  go_wp2
                  exact ⟨⟨m + 1, by omega, by go_num, hst3.drewN _⟩, by simp [intOf]; omega⟩
                · go_wp2
                  exact ⟨⟨k + 1, by omega, by go_num, by rw [Hany.out, hso]; rfl, hst3⟩, by simp [intOf]; omega⟩
        · have hkN : k = N := by omega
          have htk : ss.take k = ss := List.take_of_length_le (by rw [Hss.out]; omega)
          rw [htk]
          have hd : (ss.any fun s => s.toList == other.toList) = isIn (ded ss) other := any_in ss other
          rw [hd]
          clear hd htk
          have hfo := fun x hx => find_any B (B + 1) B ao cp (ded ss) other x hx hos
          have ha0 := fun x hx => at_no B (B + 1) B ao cp (ded ss) 0 x hx (.inl (by omega))
          have ha1 := fun x hx => at_no B (B + 1) B ao cp (ded ss) ((zl : Int) + 1) x hx (.inr (by rw [Hzl.out]; omega))
          have hln := fun x hx => len_any B (B + 1) B ao cp (ded ss) x hx
          rw [Hzl.out] at hln
          have Hfo := hide' hfo
          have Ha0 := hide' ha0
          have Ha1 := hide' ha1
          have Hln := hide' hln
          clear hfo ha0 ha1 hln
          generalize isIn (ded ss) other = d at *
          have hdd : (d == d) = true := by simp
          have HST := hide' hst
          clear hst
          go_wp2_with fail
          refine (Hfo.out _ HST.out.ix).mono ?_
          rintro e x1 ⟨rfl, rfl⟩
          go_wp2_with fail
          refine (Ha0.out _ HST.out.ix).mono ?_
          rintro e x1 ⟨rfl, rfl⟩
          go_wp2_with fail
          refine (Ha1.out _ HST.out.ix).mono ?_
          rintro e x1 ⟨rfl, rfl⟩
          go_wp2_with fail
          refine (Hln.out _ HST.out.ix).mono ?_
          rintro e x1 ⟨rfl, rfl⟩
          go_wp2_with fail
          go_ret
          exact ⟨by simp, by rw [HB.out]; exact HST.out.bel⟩
end S
end Go.Proofs.Ytgjdpgmffhihnab
