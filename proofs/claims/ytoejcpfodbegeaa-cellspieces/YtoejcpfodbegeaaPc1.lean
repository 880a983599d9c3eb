import Derived.Test.YtoejcpfodbegeaaPcP
set_option linter.unusedVariables false
set_option linter.unusedSimpArgs false
namespace Go.Proofs.Ytoejcpfodbegeaa
open Go.RowKit
namespace M
set_option maxRecDepth 100000 in
set_option maxHeartbeats 2000000 in
theorem pieces_no1 (words addr many : Int) (w : World) (n : Nat) (hn : n = nof words) (hm2 : many ≤ 9223372036854775807) (h1 : addr < 0) :
    Calls Try.prog 10 #[.int .i64 words, .int .i64 addr, .int .i64 many] w fun e w' => e = .returned (.bool true) ∧ Below w.heap.size w w' := by
  obtain ⟨n1, n2, n3⟩ := nof_le words
  clear n3
  have Hm := hide' (made_any words w)
  rw [← hn] at n1 n2 Hm
  clear hn
  have Hst := hide' (fun k h => sto_step n k h)
  have Hval := hide' (fun i h => sto_val n i h)
  have hnw : ¬ Wi (sto n n) addr many := by unfold Wi; rw [sto_len]; omega
  obtain ⟨q1, q2, q3⟩ := wi_out _ _ _ hnw
  have Q1 := hide' q1
  have Q1b := hide' q1
  have Q2 := hide' q2
  have Q3 := hide' (q3 0)
  have Q3b := hide' (q3 P)
  obtain ⟨a1, a2⟩ := piece_all (sto n n) n (sto_len n n)
  have A1 := hide' a1
  have A2 := hide' a2
  have B1 := hide' a1
  have B2 := hide' a2
  have LS := hide' (sto_len n n)
  have LB := hide' (sto_len n n)
  clear q1 q2 q3 a1 a2 hnw
  have HM2 := hide' hm2
  rw [← sto_zero] at Hm
  have N1 := hide' n1
  have N2 := hide' n2
  clear hm2 n1
  have d1 : decide (0 ≤ addr) = false := by simp; omega
  clear h1
  go_enter Try.func10, Try.ntmps10
  go_wp2_with fail
  refine Hm.out.mono ?_
  rintro e w1 ⟨x, rfl, D, h1, b1⟩
  clear Hm
  go_wp2_with fail
  go_loopw [9] (fun i wx => ∃ (k : Nat), k ≤ n ∧ i = .int .i64 (k : Int) ∧ ∃ D tr, Mem D w.heap.size x (sto n k) tr 0 wx ∧ tr.length = 3 + k ∧ Below w.heap.size w wx) (fun i _ => n - (intOf i).toNat)
  case atStart => exact ⟨0, by omega, rfl, D, _, h1, rfl, b1⟩
  case round =>
    obtain ⟨k, hk, rfl, Dk, tr, hM, htr, bk⟩ := hrel
    have HM := hide' hM
    have Htr := hide' htr
    have Hbk := hide' bk
    clear hM htr bk h1 b1
    by_cases hlt : k < n
    · have Hs := hide' (store_any (k : Int) (100 + (k : Int)) HM.out (by have := Htr.out; have := N2.out; omega))
      obtain ⟨s1, s2⟩ := Hst.out k hlt
      rw [s1, s2, bd_ok s1] at Hs
      clear s1 s2
      go_wp2_with fail
      refine Hs.out.mono ?_
      rintro e w3 ⟨rfl, t3⟩
      obtain ⟨D3, h3, b3⟩ := To.below HM.out Hbk.out t3
      have K := hide' (And.intro h3 b3)
      clear t3 h3 b3 Hs
      go_wp2
      go_roundw
      case rel => exact ⟨k + 1, by omega, by go_num, D3, _, K.out.1, by rw [List.length_append, Htr.out]; simp; omega, K.out.2⟩
      case measure => exact msr2 hlt
    · obtain rfl : k = n := by omega
      clear hlt hk
      have Ht := hide' (trace_any HM.out (by have := Htr.out; have := N2.out; omega))
      rw [Htr.out] at Ht
      go_wp2_with fail
      refine Ht.out.mono ?_
      rintro e w2 ⟨ro2, rc2, rfl, hr2, b2⟩
      have H2 := hide' (And.intro (HM.out.below b2) (Hbk.out.trans (b2.mono HM.out.base)))
      clear Ht hr2 b2 HM Hbk
      go_wp2_with fail
      have Hw := hide' (words_any addr many H2.out.1 HM2.out)
      rw [Q1.out, Q2.out] at Hw
      simp only [List.length_nil] at Hw
      refine Hw.out.mono ?_
      rintro e w3 ⟨ro3, rc3, rfl, hr3, b3⟩
      have H3 := hide' (And.intro (H2.out.1.below b3) (H2.out.2.trans (b3.mono H2.out.1.base)))
      clear Hw b3 H2
      have Hc := hide' (clear_any addr many H3.out.1 HM2.out)
      rw [Q1.out, Q3.out] at Hc
      go_wp2_with fail
      refine Hc.out.mono ?_
      rintro e w4 ⟨rfl, h4, t4⟩
      have H4 := hide' (And.intro h4 (H3.out.2.trans (t4.below (fun j hj => (H3.out.1.lo hj).1) H3.out.1.base)))
      clear Hc h4 t4 H3
      have Hw := hide' (words_any 0 (k : Int) H4.out.1 (by omega))
      rw [A1.out, A2.out] at Hw
      rw [LS.out] at Hw
      go_wp2_with fail
      refine Hw.out.mono ?_
      rintro e w5 ⟨ro5, rc5, rfl, hr5, b5⟩
      obtain ⟨g5, rfl, l5, u5, m5, c5⟩ := row_ints hr5 LS.out (by have := N1.out; omega)
      have H5 := hide' (And.intro (H4.out.1.below b5) (H4.out.2.trans (b5.mono H4.out.1.base)))
      have C5 := hide' c5
      have hD5 : Hid (∀ j, Dk j → j < g5) := fun j hj => Nat.lt_of_lt_of_le (H4.out.1.lo hj).2 l5
      clear Hw b5 H4 hr5 c5 l5
      have Hc := hide' (poison_any addr many H5.out.1 HM2.out)
      rw [Q1b.out, Q3b.out] at Hc
      go_wp2_with fail
      refine Hc.out.mono ?_
      rintro e w6 ⟨rfl, h6, t6⟩
      have H6 := hide' (And.intro h6 (H5.out.2.trans (t6.below (fun j hj => (H5.out.1.lo hj).1) H5.out.1.base)))
      have C6 := hide' (fun j hj => (t6.cell (p := ⟨g5, j, none⟩) u5 (fun q => by have := hD5.out _ q; exact Nat.lt_irrefl _ this)).trans (C5.out j hj))
      have u6 := Nat.lt_of_lt_of_le u5 t6.size
      clear Hc h6 t6 H5 C5 u5 hD5
      have Hw := hide' (words_any 0 (k : Int) H6.out.1 (by omega))
      rw [B1.out, B2.out] at Hw
      rw [LB.out] at Hw
      go_wp2_with fail
      refine Hw.out.mono ?_
      rintro e w7 ⟨ro7, rc7, rfl, hr7, b7⟩
      obtain ⟨g7, rfl, l7, u7, m7, c7⟩ := row_ints hr7 LB.out (by have := N1.out; omega)
      have H7 := hide' (And.intro (H6.out.1.below b7) (H6.out.2.trans (b7.mono H6.out.1.base)))
      have C7 := hide' c7
      have C75 := hide' (fun j hj => (b7.cell (p := ⟨g5, j, none⟩) u6).trans (C6.out j hj))
      have u75 := Nat.lt_of_lt_of_le u6 b7.size
      clear Hw b7 H6 hr7 c7 l7 C6 u6
      have Ht := hide' (trace_any H7.out.1 (by have := Htr.out; have := N2.out; omega))
      rw [Htr.out] at Ht
      go_wp2_with fail
      refine Ht.out.mono ?_
      rintro e w8 ⟨ro8, rc8, rfl, hr8, b8⟩
      have H8 := hide' (And.intro (H7.out.1.below b8) (H7.out.2.trans (b8.mono H7.out.1.base)))
      have C87 := hide' (fun j hj => (b8.cell (p := ⟨g7, j, none⟩) u7).trans (C7.out j hj))
      have C85 := hide' (fun j hj => (b8.cell (p := ⟨g5, j, none⟩) u75).trans (C75.out j hj))
      clear Ht hr8 b8 H7 C7 C75 u7 u75
      go_wp2_with fail
      have Hb := hide' (bad_any H8.out.1)
      rw [show ((0 : Nat) : Int) = 0 from rfl] at Hb
      refine Hb.out.mono ?_
      rintro e w9 ⟨rfl, hw9⟩
      replace hw9 := hw9.symm
      subst hw9
      go_wp2_with fail
      go_loopw [20] (fun i wx => wx = w8 ∧ ∃ (j : Nat), j ≤ k ∧ i = .int .i64 (j : Int)) (fun i _ => k - (intOf i).toNat)
      case atStart => exact ⟨rfl, 0, by omega, rfl⟩
      case round =>
        obtain ⟨rfl, j, hj, rfl⟩ := hrel
        by_cases hlt : j < k
        · have c87 := C87.out j hlt
          have c85 := C85.out j hlt
          rw [Hval.out j hlt] at c87 c85
          go_wp2
          go_roundw
          case rel => exact ⟨(by first | rfl | trivial), j + 1, by omega, by go_num⟩
          case measure => exact msr2 hlt
        · obtain rfl : j = k := by omega
          have hB := H8.out.2
          go_wp2
          go_ret
          exact ⟨rfl, hB⟩
end M
end Go.Proofs.Ytoejcpfodbegeaa
