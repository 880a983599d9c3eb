import Derived.Test.YtoejcpfodbegeaaPcP
set_option linter.unusedVariables false
set_option linter.unusedSimpArgs false
namespace Go.Proofs.Ytoejcpfodbegeaa
open Go.RowKit
namespace M
set_option maxRecDepth 100000 in
set_option maxHeartbeats 2000000 in
theorem pieces_in (words : Int) (A m : Nat) (w : World) (n : Nat) (hn : n = nof words) (hm2 : (m : Int) ≤ 9223372036854775807) (hin : A + m ≤ n) :
    Calls Try.prog 10 #[.int .i64 words, .int .i64 (A : Nat), .int .i64 (m : Nat)] w fun e w' => e = .returned (.bool true) ∧ Below w.heap.size w w' := by
  obtain ⟨n1, n2, n3⟩ := nof_le words
  clear n3
  have Hm := hide' (made_any words w)
  rw [← hn] at n1 n2 Hm
  clear hn
  have Hst := hide' (fun k h => sto_step n k h)
  have Hval := hide' (fun i h => sto_val n i h)
  have hs := sto_len n n
  obtain ⟨q1, q2, q3⟩ := wi_in (sto n n) A m (by rw [hs]; exact hin)
  have l1 : (fil (sto n n) A 0 m).length = n := by rw [fil_len, hs]
  obtain ⟨p1, p2, p3⟩ := wi_in (fil (sto n n) A 0 m) A m (by rw [l1]; exact hin)
  have l2 : (fil (fil (sto n n) A 0 m) A P m).length = n := by rw [fil_len, l1]
  have Q1 := hide' q1
  have Q2 := hide' q2
  have Q3 := hide' (q3 0)
  have Q1b := hide' p1
  have Q3b := hide' (p3 P)
  obtain ⟨a1, a2⟩ := piece_all _ n l1
  have A1 := hide' a1
  have A2 := hide' a2
  obtain ⟨b1, b2⟩ := piece_all _ n l2
  have B1 := hide' b1
  have B2 := hide' b2
  have LS := hide' l1
  have LB := hide' l2
  have L3 := hide' (show (((sto n n).drop A).take m).length = m by rw [List.length_take, List.length_drop, hs]; omega)
  have V5 := hide' (fun j => fil_at (sto n n) A 0 m j (by rw [hs]; exact hin))
  have V7 := hide' (fun j => fil_at (fil (sto n n) A 0 m) A P m j (by rw [l1]; exact hin))
  have V3 := hide' (fun j hj => piece_getD (sto n n) A m j (by rw [hs]; exact hin) hj)
  clear q1 q2 q3 a1 a2 b1 b2 p1 p2 p3 l1 l2 hs
  have HIN := hide' hin
  have d1 : decide (0 ≤ (A : Int)) = true := by simp
  have d2 : decide (0 ≤ (m : Int)) = true := by simp
  have d3 : decide ((m : Int) ≤ (n : Int)) = true := by simp; omega
  have hmn : m ≤ n := by omega
  have e4 : wrap64 ((n : Int) - (m : Int)) = (n : Int) - (m : Int) := wrap_in (by omega) (by omega)
  have d4 : decide ((A : Int) ≤ (n : Int) - (m : Int)) = true := by simp; omega
  have e5 : wrap64 ((A : Int) + (m : Int)) = (A : Int) + (m : Int) := wrap_in (by omega) (by omega)
  clear hin
  have HM2 := hide' hm2
  rw [← sto_zero] at Hm
  have N1 := hide' n1
  have N2 := hide' n2
  clear hm2 n1
  go_enter Try.func10, Try.ntmps10
  go_wp2_with fail
  refine Hm.out.mono ?_
  rintro e w1 ⟨x, rfl, D, h1, b1⟩
  clear Hm
  go_wp2_with fail
  go_loopw [9] (fun i wx => ∃ (k : Nat), k ≤ n ∧ i = .int .i64 (k : Int) ∧ ∃ D tr, Mem D w.heap.size x (sto n k) tr 0 wx ∧ tr.length = 3 + k ∧ Below w.heap.size w wx) (fun i _ => n - (intOf i).toNat)
  case atStart => exact ⟨0, by omega, rfl, D, _, h1, rfl, b1⟩
  case round =>
    obtain ⟨k, hk, rfl, Dk, tr, hM, htr, bk⟩ := hrel
    have HM := hide' hM
    have Htr := hide' htr
    have Hbk := hide' bk
    clear hM htr bk h1 b1
    by_cases hlt : k < n
    · have Hs := hide' (store_any (k : Int) (100 + (k : Int)) HM.out (by have := Htr.out; have := N2.out; omega))
      obtain ⟨s1, s2⟩ := Hst.out k hlt
      rw [s1, s2, bd_ok s1] at Hs
      clear s1 s2
      go_wp2_with fail
      refine Hs.out.mono ?_
      rintro e w3 ⟨rfl, t3⟩
      obtain ⟨D3, h3, b3⟩ := To.below HM.out Hbk.out t3
      have K := hide' (And.intro h3 b3)
      clear t3 h3 b3 Hs
      go_wp2
      go_roundw
      case rel => exact ⟨k + 1, by omega, by go_num, D3, _, K.out.1, by rw [List.length_append, Htr.out]; simp; omega, K.out.2⟩
      case measure => exact msr2 hlt
    · obtain rfl : k = n := by omega
      clear hlt hk
      have Ht := hide' (trace_any HM.out (by have := Htr.out; have := N2.out; omega))
      rw [Htr.out] at Ht
      go_wp2_with fail
      refine Ht.out.mono ?_
      rintro e w2 ⟨ro2, rc2, rfl, hr2, b2⟩
      have H2 := hide' (And.intro (HM.out.below b2) (Hbk.out.trans (b2.mono HM.out.base)))
      clear Ht hr2 b2 HM Hbk
      go_wp2_with fail
      have Hw := hide' (words_any (A : Int) (m : Int) H2.out.1 HM2.out)
      rw [Q1.out, Q2.out] at Hw
      rw [L3.out] at Hw
      refine Hw.out.mono ?_
      rintro e w3 ⟨ro3, rc3, rfl, hr3, b3⟩
      have H3 := hide' (And.intro (H2.out.1.below b3) (H2.out.2.trans (b3.mono H2.out.1.base)))
      have R3 := hide' hr3
      have hDR : Hid (∀ j, Dk j → j < w2.heap.size) := fun j hj => (H2.out.1.lo hj).2
      clear hr3
      clear Hw b3 H2
      have Hc := hide' (clear_any (A : Int) (m : Int) H3.out.1 HM2.out)
      rw [Q1.out, Q3.out] at Hc
      go_wp2_with fail
      refine Hc.out.mono ?_
      rintro e w4 ⟨rfl, h4, t4⟩
      have H4 := hide' (And.intro h4 (H3.out.2.trans (t4.below (fun j hj => (H3.out.1.lo hj).1) H3.out.1.base)))
      have R4 := hide' (t4.row R3.out (fun g hg q => by have := (World.ownsRow.lt R3.out g hg).1; have := hDR.out g q; omega))
      clear R3
      clear Hc h4 t4 H3
      have Hw := hide' (words_any 0 (k : Int) H4.out.1 (by omega))
      rw [A1.out, A2.out] at Hw
      rw [LS.out] at Hw
      go_wp2_with fail
      refine Hw.out.mono ?_
      rintro e w5 ⟨ro5, rc5, rfl, hr5, b5⟩
      obtain ⟨g5, rfl, l5, u5, m5, c5⟩ := row_ints hr5 LS.out (by have := N1.out; omega)
      have H5 := hide' (And.intro (H4.out.1.below b5) (H4.out.2.trans (b5.mono H4.out.1.base)))
      have C5 := hide' c5
      have hD5 : Hid (∀ j, Dk j → j < g5) := fun j hj => Nat.lt_of_lt_of_le (H4.out.1.lo hj).2 l5
      have R5 := hide' ((turn_below (S := fun _ => False) b5).row R4.out (fun _ _ q => q))
      clear R4
      clear Hw b5 H4 hr5 c5 l5
      have Hc := hide' (poison_any (A : Int) (m : Int) H5.out.1 HM2.out)
      rw [Q1b.out, Q3b.out] at Hc
      go_wp2_with fail
      refine Hc.out.mono ?_
      rintro e w6 ⟨rfl, h6, t6⟩
      have H6 := hide' (And.intro h6 (H5.out.2.trans (t6.below (fun j hj => (H5.out.1.lo hj).1) H5.out.1.base)))
      have C6 := hide' (fun j hj => (t6.cell (p := ⟨g5, j, none⟩) u5 (fun q => by have := hD5.out _ q; exact Nat.lt_irrefl _ this)).trans (C5.out j hj))
      have u6 := Nat.lt_of_lt_of_le u5 t6.size
      have R6 := hide' (t6.row R5.out (fun g hg q => by have := (World.ownsRow.lt R5.out g hg).1; have := hDR.out g q; omega))
      clear R5
      clear Hc h6 t6 H5 C5 u5 hD5
      have Hw := hide' (words_any 0 (k : Int) H6.out.1 (by omega))
      rw [B1.out, B2.out] at Hw
      rw [LB.out] at Hw
      go_wp2_with fail
      refine Hw.out.mono ?_
      rintro e w7 ⟨ro7, rc7, rfl, hr7, b7⟩
      obtain ⟨g7, rfl, l7, u7, m7, c7⟩ := row_ints hr7 LB.out (by have := N1.out; omega)
      have H7 := hide' (And.intro (H6.out.1.below b7) (H6.out.2.trans (b7.mono H6.out.1.base)))
      have C7 := hide' c7
      have C75 := hide' (fun j hj => (b7.cell (p := ⟨g5, j, none⟩) u6).trans (C6.out j hj))
      have u75 := Nat.lt_of_lt_of_le u6 b7.size
      have R7 := hide' ((turn_below (S := fun _ => False) b7).row R6.out (fun _ _ q => q))
      clear R6
      clear Hw b7 H6 hr7 c7 l7 C6 u6
      have Ht := hide' (trace_any H7.out.1 (by have := Htr.out; have := N2.out; omega))
      rw [Htr.out] at Ht
      go_wp2_with fail
      refine Ht.out.mono ?_
      rintro e w8 ⟨ro8, rc8, rfl, hr8, b8⟩
      have H8 := hide' (And.intro (H7.out.1.below b8) (H7.out.2.trans (b8.mono H7.out.1.base)))
      have C87 := hide' (fun j hj => (b8.cell (p := ⟨g7, j, none⟩) u7).trans (C7.out j hj))
      have C85 := hide' (fun j hj => (b8.cell (p := ⟨g5, j, none⟩) u75).trans (C75.out j hj))
      have R8 := hide' ((turn_below (S := fun _ => False) b8).row R7.out (fun _ _ q => q))
      clear R7
      clear Ht hr8 b8 H7 C7 C75 u7 u75
      go_wp2_with fail
      have Hb := hide' (bad_any H8.out.1)
      rw [show ((0 : Nat) : Int) = 0 from rfl] at Hb
      refine Hb.out.mono ?_
      rintro e w9 ⟨rfl, hw9⟩
      replace hw9 := hw9.symm
      subst hw9
      go_wp2_with fail
      go_loopw [20] (fun i wx => wx = w8 ∧ ∃ (j : Nat), j ≤ k ∧ i = .int .i64 (j : Int)) (fun i _ => k - (intOf i).toNat)
      case atStart => exact ⟨rfl, 0, by omega, rfl⟩
      case round =>
        obtain ⟨rfl, j, hj, rfl⟩ := hrel
        by_cases hlt : j < k
        · have c87 := C87.out j hlt
          have c85 := C85.out j hlt
          rw [V5.out j] at c85
          rw [V7.out j, V5.out j] at c87
          rw [Hval.out j hlt] at c85 c87
          by_cases hj1 : A ≤ j
          · by_cases hj2 : j < A + m
            · rw [if_pos ⟨hj1, hj2⟩] at c85 c87
              have dI1 : decide ((A : Int) ≤ (j : Int)) = true := by simpa using hj1
              have dI2 : decide ((j : Int) < (A : Int) + (m : Int)) = true := by simp; omega
              obtain ⟨g3, rfl, _, _, m3, c3⟩ := row_ints R8.out L3.out (by omega)
              have cc := c3 (j - A) (by omega)
              rw [V3.out (j - A) (by omega), show A + (j - A) = j by omega, Hval.out j hlt] at cc
              have hidx : wrap64 ((j : Int) - (A : Int)) = ((j - A : Nat) : Int) := by rw [wrap_in (by omega) (by omega)]; omega
              have hj3 : j - A < m := by omega
              unfold P at c87
              clear c3
              go_wp2
              go_roundw
              case rel => exact ⟨(by first | rfl | trivial), j + 1, by omega, by go_num⟩
              case measure => exact msr2 hlt
            · rw [if_neg (fun q => hj2 q.2)] at c85 c87
              rw [if_neg (fun q => hj2 q.2)] at c87
              have dI1 : decide ((A : Int) ≤ (j : Int)) = true := by simpa using hj1
              have dI2 : decide ((j : Int) < (A : Int) + (m : Int)) = false := by simp; omega
              go_wp2
              go_roundw
              case rel => exact ⟨(by first | rfl | trivial), j + 1, by omega, by go_num⟩
              case measure => exact msr2 hlt
          · rw [if_neg (fun q => hj1 q.1)] at c85 c87
            rw [if_neg (fun q => hj1 q.1)] at c87
            have dI1 : decide ((A : Int) ≤ (j : Int)) = false := by simpa using hj1
            go_wp2
            go_roundw
            case rel => exact ⟨(by first | rfl | trivial), j + 1, by omega, by go_num⟩
            case measure => exact msr2 hlt
        · obtain rfl : j = k := by omega
          have hB := H8.out.2
          go_wp2
          go_ret
          exact ⟨rfl, hB⟩
end M
end Go.Proofs.Ytoejcpfodbegeaa
