import Derived.Test.YtoejcpfodbegeaaPoP
import Derived.Test.YtoejcpfodbegeaaStp
set_option linter.unusedVariables false
set_option linter.unusedSimpArgs false
namespace Go.Proofs.Ytoejcpfodbegeaa
open Go.RowKit
namespace M
set_option maxRecDepth 100000 in
set_option maxHeartbeats 4000000 in
theorem poi_walk (words addr many : Int) (s : St) (w : World) :
    Calls Try.prog 9 #[.int .i64 words, .int .i64 addr, .int .i64 many, .agg s.arr] w fun e w' => e = .returned (.bool true) ∧ Below w.heap.size w w' := by
  obtain ⟨sd, sa, sb, sc, ⟨xk, xa, xv, xo, xg⟩⟩ := s
  unfold St.arr
  simp only
  obtain ⟨n1, n2, n3⟩ := nof_le words
  clear n3
  have Hm := hide' (Cx.made words #[.int .i64 sd, .int .i64 sa, .int .i64 sb, .int .i64 sc, .int .i8 xk, .int .i64 xa, .int .i64 xv, .int .i64 xo, .bool xg] 39 w)
  generalize nof words = n at *
  rw [← sto_zero] at Hm
  have Hst := hide' (fun k h => sto_step n k h)
  have Hval := hide' (fun i h => sto_val n i h)
  have HlenS := hide' (sto_len n n)
  -- the three picks
  have Hp1 := hide' (fun w => pick_any addr (n : Int) w (by omega) (by omega))
  have hb1 := Int.emod_nonneg addr (b := (n : Int)) (by omega)
  have hb2 := Int.emod_lt_of_pos addr (b := (n : Int)) (by omega)
  generalize hq : addr % (n : Int) = q at *
  obtain ⟨A, rfl⟩ : ∃ k : Nat, q = (k : Int) := ⟨q.toNat, by omega⟩
  have hA : A < n := by omega
  clear hq hb1 hb2
  have Hp2 := hide' (fun w => pick_any many ((n : Int) - (A : Int)) w (by omega) (by omega))
  have hb1 := Int.emod_nonneg many (b := (n : Int) - (A : Int)) (by omega)
  have hb2 := Int.emod_lt_of_pos many (b := (n : Int) - (A : Int)) (by omega)
  generalize hq : many % ((n : Int) - (A : Int)) = q at *
  obtain ⟨m, rfl⟩ : ∃ k : Nat, q = (k : Int) := ⟨q.toNat, by omega⟩
  have hm : A + (m + 1) ≤ n := by omega
  clear hq hb1 hb2
  have Hp3 := hide' (fun w => pick_any sa (1 + (m : Int)) w (by omega) (by omega))
  have hb1 := Int.emod_nonneg sa (b := 1 + (m : Int)) (by omega)
  have hb2 := Int.emod_lt_of_pos sa (b := 1 + (m : Int)) (by omega)
  generalize hq : sa % (1 + (m : Int)) = q at *
  obtain ⟨r, rfl⟩ : ∃ k : Nat, q = (k : Int) := ⟨q.toNat, by omega⟩
  have hr : r < m + 1 := by omega
  clear hq hb1 hb2
  obtain ⟨p1, p2⟩ := wi_in' (sto n n) A (m + 1) (1 + (m : Int)) (by omega) (by rw [sto_len]; exact hm)
  have P1 := hide' p1
  have P2 := hide' (p2 P)
  obtain ⟨q1, q2, q3, q4, q5, q6⟩ := poi_at (sto n n) A (m + 1) (A + r) ((A : Int) + (r : Int)) (by omega) (by rw [sto_len]; exact hm) (by omega) (by omega)
  have hl1 : (fil (sto n n) A P (m + 1)).length = n := by rw [fil_len, sto_len]
  have V := hide' (fun j => fil_at (sto n n) A P (m + 1) j (by rw [sto_len]; exact hm))
  generalize hW1 : fil (sto n n) A P (m + 1) = W1 at *
  clear hW1
  obtain ⟨p3, p4⟩ := wi_in' W1 A (m + 1) (1 + (m : Int)) (by omega) (by rw [hl1]; exact hm)
  obtain ⟨r1, r2⟩ := clr_at W1 A (m + 1) (A + r) ((A : Int) + (r : Int)) (by omega) (by rw [hl1]; exact hm) (by omega) (by omega)
  obtain ⟨a1, a2⟩ := piece_all W1 n hl1
  have P3 := hide' p3
  have P4 := hide' (p4 0)
  have Q := hide' (And.intro q1 (And.intro q2 (And.intro q3 (And.intro q4 (And.intro q5 q6)))))
  have R := hide' (And.intro r1 r2)
  have A12 := hide' (And.intro a1 a2)
  have HL1 := hide' hl1
  clear p1 p2 p3 p4 q1 q2 q3 q4 q5 q6 r1 r2 a1 a2 hl1
  go_enter Try.func9, Try.ntmps9
  go_wp2_with fail
  refine Hm.out.mono ?_
  rintro e w1 ⟨x, rfl, h1⟩
  clear Hm
  go_wp2_with fail
  go_loopw [11] (fun i wx => ∃ (k : Nat), k ≤ n ∧ i = .int .i64 (k : Int) ∧ ∃ tr, Cx w w.heap.size (.cells #[.int .i64 sd, .int .i64 sa, .int .i64 sb, .int .i64 sc, .int .i8 xk, .int .i64 xa, .int .i64 xv, .int .i64 xo, .bool xg] 39) (w.heap.size + 1) x (sto n k) tr 0 wx ∧ tr.length = 3 + k) (fun i _ => n - (intOf i).toNat)
  case atStart => exact ⟨0, by omega, rfl, _, h1, rfl⟩
  case round =>
    obtain ⟨k, hk, rfl, tr, hM, htr⟩ := hrel
    have HM := hide' hM
    have Htr := hide' htr
    clear hM htr h1
    by_cases hlt : k < n
    · have Hs := hide' (HM.out.store (k : Int) (100 + (k : Int)) (by have := Htr.out; omega))
      obtain ⟨s1, s2⟩ := Hst.out k hlt
      rw [s1, s2, bd_ok s1] at Hs
      clear s1 s2
      go_wp2_with fail
      refine Hs.out.mono ?_
      rintro e w3 ⟨rfl, h3⟩
      have K := hide' h3
      clear h3 Hs
      go_wp2
      go_roundw
      case rel => exact ⟨k + 1, by omega, by go_num, _, K.out, by rw [List.length_append, Htr.out]; simp; omega⟩
      case measure => exact msr2 hlt
    · obtain rfl : k = n := by omega
      clear hlt hk
      go_wp2_with fail
      refine (Hp1.out _).mono ?_
      rintro e w2 ⟨rfl, hw2⟩
      replace hw2 := hw2.symm
      subst hw2
      clear Hp1
      go_wp2_with fail
      refine (Hp2.out _).mono ?_
      rintro e w2 ⟨rfl, hw2⟩
      replace hw2 := hw2.symm
      subst hw2
      clear Hp2
      have Hc := hide' (HM.out.poison (A : Int) (1 + (m : Int)) (by omega))
      rw [P1.out, P2.out] at Hc
      go_wp2_with fail
      refine Hc.out.mono ?_
      rintro e w2 ⟨rfl, h2⟩
      have H2 := hide' h2
      clear Hc HM h2
      have c1 : w2.cell? ⟨w.heap.size, 1, none⟩ = some (.int .i64 sa) := by rw [Lib.cell_of_heap H2.out.hs]; rfl
      have f1 : w2.frozen? ⟨w.heap.size, 1, none⟩ = false := Lib.frozen_of_heap H2.out.hs 1
      go_wp2_with fail
      refine (Hp3.out _).mono ?_
      rintro e w3 ⟨rfl, hw3⟩
      replace hw3 := hw3.symm
      subst hw3
      clear Hp3
      have H3 := hide' (H2.out.put0 (Nat.le_refl _) 1 (.int .i64 ((A : Int) + (r : Int))))
      go_wp2_with fail
      generalize hw4 : w2.setCell ⟨w.heap.size, 1, none⟩ (.int .i64 ((A : Int) + (r : Int))) = w4 at *
      clear hw4 c1 f1 H2
      have Hb := hide' H3.out.bads
      rw [show ((0 : Nat) : Int) = 0 from rfl] at Hb
      refine Hb.out.mono ?_
      rintro e w5 ⟨rfl, hw5⟩
      replace hw5 := hw5.symm
      subst hw5
      clear Hb
      have c1 : w4.cell? ⟨w.heap.size, 1, none⟩ = some (.int .i64 ((A : Int) + (r : Int))) := by rw [Lib.cell_of_heap H3.out.hs]; rfl
      have Hs := hide' (H3.out.load ((A : Int) + (r : Int)) (by have := Htr.out; omega))
      rw [Q.out.1, Q.out.2.1, Q.out.2.2.2.2.2] at Hs
      unfold P at Hs
      go_wp2_with fail
      refine Hs.out.mono ?_
      rintro e w5 ⟨rfl, h5⟩
      have H5 := hide' h5
      clear Hs h5 H3 c1
      have c1 : w5.cell? ⟨w.heap.size, 1, none⟩ = some (.int .i64 ((A : Int) + (r : Int))) := by rw [Lib.cell_of_heap H5.out.hs]; rfl
      have c2 : w5.cell? ⟨w.heap.size, 2, none⟩ = some (.int .i64 sb) := by rw [Lib.cell_of_heap H5.out.hs]; rfl
      have Hs := hide' (H5.out.store ((A : Int) + (r : Int)) sb (by have := Htr.out; simp; omega))
      rw [Q.out.1, Q.out.2.2.1, Q.out.2.2.2.2.2] at Hs
      go_wp2_with fail
      refine Hs.out.mono ?_
      rintro e w6 ⟨rfl, h6⟩
      have H6 := hide' h6
      clear Hs h6 H5 c1 c2
      have c1 : w6.cell? ⟨w.heap.size, 1, none⟩ = some (.int .i64 ((A : Int) + (r : Int))) := by rw [Lib.cell_of_heap H6.out.hs]; rfl
      have c2 : w6.cell? ⟨w.heap.size, 2, none⟩ = some (.int .i64 sb) := by rw [Lib.cell_of_heap H6.out.hs]; rfl
      have c3 : w6.cell? ⟨w.heap.size, 3, none⟩ = some (.int .i64 sc) := by rw [Lib.cell_of_heap H6.out.hs]; rfl
      have Hs := hide' (H6.out.swap ((A : Int) + (r : Int)) sb sc (by have := Htr.out; simp; omega))
      rw [Q.out.2.1, Q.out.2.2.2.1, Q.out.2.2.2.2.1, Q.out.2.2.2.2.2] at Hs
      unfold P at Hs
      go_wp2_with fail
      refine Hs.out.mono ?_
      rintro e w7 ⟨rfl, h7⟩
      have H7 := hide' h7
      clear Hs h7 H6 c1 c2 c3
      have c1 : w7.cell? ⟨w.heap.size, 1, none⟩ = some (.int .i64 ((A : Int) + (r : Int))) := by rw [Lib.cell_of_heap H7.out.hs]; rfl
      have c2 : w7.cell? ⟨w.heap.size, 2, none⟩ = some (.int .i64 sb) := by rw [Lib.cell_of_heap H7.out.hs]; rfl
      have Hs := hide' (H7.out.add ((A : Int) + (r : Int)) sb (by have := Htr.out; simp; omega))
      rw [Q.out.1, Q.out.2.2.1, Q.out.2.1, Q.out.2.2.2.2.2] at Hs
      unfold P at Hs
      go_wp2_with fail
      refine Hs.out.mono ?_
      rintro e w8 ⟨rfl, h8⟩
      have H8 := hide' h8
      clear Hs h8 H7 c1 c2
      have Hb := hide' H8.out.bads
      rw [show ((0 + 1 + 1 + 1 + 1 : Nat) : Int) = 4 from rfl] at Hb
      go_wp2_with fail
      refine Hb.out.mono ?_
      rintro e w9 ⟨rfl, hw9⟩
      replace hw9 := hw9.symm
      subst hw9
      clear Hb
      have Hw := hide' (H8.out.words 0 (k : Int) (by omega))
      rw [A12.out.1, A12.out.2, HL1.out] at Hw
      go_wp2_with fail
      refine Hw.out.mono ?_
      rintro e w9 ⟨ro, rc, rfl, hr9, b9, h9⟩
      obtain ⟨g9, rfl, l9, u9, m9, c9⟩ := row_ints hr9 HL1.out (by omega)
      have H9 := hide' h9
      have C9 := hide' c9
      clear Hw hr9 b9 h9 H8 c9
      go_wp2_with fail
      go_loopw [25] (fun i wx => wx = w9 ∧ ∃ (j : Nat), j ≤ k ∧ i = .int .i64 (j : Int)) (fun i _ => k - (intOf i).toNat)
      case atStart => exact ⟨rfl, 0, by omega, rfl⟩
      case round =>
        obtain ⟨rfl, j, hj, rfl⟩ := hrel
        by_cases hlt : j < k
        · have cc := C9.out j hlt
          rw [V.out j, Hval.out j hlt] at cc
          have e5 : wrap64 ((A : Int) + (1 + (m : Int))) = (A : Int) + (1 + (m : Int)) := wrap_in (by omega) (by omega)
          by_cases hj1 : A ≤ j
          · by_cases hj2 : j < A + (m + 1)
            · rw [if_pos ⟨hj1, hj2⟩] at cc
              unfold P at cc
              have dI1 : decide ((A : Int) ≤ (j : Int)) = true := by simpa using hj1
              have dI2 : decide ((j : Int) < (A : Int) + (1 + (m : Int))) = true := by simp; omega
              have hj3 : (j : Int) < (A : Int) + (1 + (m : Int)) := by omega
              go_wp2
              go_roundw
              case rel => exact ⟨(by first | rfl | trivial), j + 1, by omega, by go_num⟩
              case measure => exact msr2 hlt
            · rw [if_neg (fun q => hj2 q.2)] at cc
              have dI1 : decide ((A : Int) ≤ (j : Int)) = true := by simpa using hj1
              have dI2 : decide ((j : Int) < (A : Int) + (1 + (m : Int))) = false := by simp; omega
              have hj3 : ¬ (j : Int) < (A : Int) + (1 + (m : Int)) := by omega
              go_wp2
              go_roundw
              case rel => exact ⟨(by first | rfl | trivial), j + 1, by omega, by go_num⟩
              case measure => exact msr2 hlt
          · rw [if_neg (fun q => hj1 q.1)] at cc
            have dI1 : decide ((A : Int) ≤ (j : Int)) = false := by simpa using hj1
            go_wp2
            go_roundw
            case rel => exact ⟨(by first | rfl | trivial), j + 1, by omega, by go_num⟩
            case measure => exact msr2 hlt
        · obtain rfl : j = k := by omega
          have Hc := hide' (H9.out.clear (A : Int) (1 + (m : Int)) (by omega))
          rw [P3.out, P4.out] at Hc
          go_wp2_with fail
          refine Hc.out.mono ?_
          rintro e w10 ⟨rfl, h10⟩
          have H10 := hide' h10
          clear Hc h10 H9
          have c1 : w10.cell? ⟨w.heap.size, 1, none⟩ = some (.int .i64 ((A : Int) + (r : Int))) := by rw [Lib.cell_of_heap H10.out.hs]; rfl
          have Hs := hide' (H10.out.load ((A : Int) + (r : Int)) (by have := Htr.out; simp; omega))
          have e0 := bd_ok R.out.1
          rw [e0] at Hs
          rw [R.out.1, R.out.2] at Hs
          clear e0
          go_wp2_with fail
          refine Hs.out.mono ?_
          rintro e w11 ⟨rfl, h11⟩
          have H11 := hide' h11
          clear Hs h11 H10 c1
          have Hb := hide' H11.out.bads
          rw [show ((0 + 1 + 1 + 1 + 1 + 0 : Nat) : Int) = 4 from rfl] at Hb
          go_wp2_with fail
          refine Hb.out.mono ?_
          rintro e w12 ⟨rfl, hw12⟩
          replace hw12 := hw12.symm
          subst hw12
          have hB := hide' H11.out.bel
          clear H11 Hb
          go_wp2
          go_ret
          exact ⟨rfl, hB.out⟩
end M
end Go.Proofs.Ytoejcpfodbegeaa
