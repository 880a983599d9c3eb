import Derived.Test.YtoejcpfodbegeaaSumP
set_option linter.unusedVariables false
set_option linter.unusedSimpArgs false
namespace Go.Proofs.Ytoejcpfodbegeaa
open Go.RowKit
namespace M
set_option maxRecDepth 100000 in
set_option maxHeartbeats 2000000 in
theorem sum_walk (words addr : Int) (a : Option Addr) (cap : Nat) (ns : List Int) (w : World) (hI : Ints w a ns) (hl : ns.length ≤ 1048576) :
    Calls Try.prog 8 #[.int .i64 words, .int .i64 addr, .slice a ns.length cap] w fun e w' => e = .returned (.bool true) ∧ Below w.heap.size w w' := by
  obtain ⟨n1, n2, n3⟩ := nof_le words
  clear n3
  have Hm := hide' (made_any words w)
  generalize nof words = n at *
  have Hp := hide' (fun w => pick_any addr (n : Int) w (by omega) (by omega))
  have hb1 := Int.emod_nonneg addr (b := (n : Int)) (by omega)
  have hb2 := Int.emod_lt_of_pos addr (b := (n : Int)) (by omega)
  generalize hq : addr % (n : Int) = q at *
  obtain ⟨k0, rfl⟩ : ∃ k : Nat, q = (k : Int) := ⟨q.toNat, by omega⟩
  have hk0 : k0 < n := by omega
  clear hq hb1 hb2
  have HL := hide' hl
  have HI := hide' hI
  clear hl hI
  have Hr := hide' (fun v hv => at_pure (List.replicate n 0) k0 v (by simpa using hk0) hv)
  have Hr0 := hide' (rep_set n k0)
  clear n1 n2 hk0
  have Hst := hide' (fun k h => sum_take ns k h)
  have Hfin := hide' (show sum (ns.take ns.length) = sum ns by rw [List.take_length])
  have H00 := hide' (show sum (ns.take 0) = 0 by rfl)
  have HP0 := hide' (show sum (ns.take 0) ≠ P by rw [H00.out]; decide)
  go_enter Try.func8, Try.ntmps8
  go_wp2_with fail
  refine Hm.out.mono ?_
  rintro e w1 ⟨x, rfl, D, h1, b1⟩
  clear Hm
  go_wp2_with fail
  refine (Hp.out _).mono ?_
  rintro e w2 ⟨rfl, hw2⟩
  replace hw2 := hw2.symm
  subst hw2
  clear Hp
  go_wp2_with fail
  go_loopw [10, 11] (fun s i wx => ∃ (k : Nat), k ≤ ns.length ∧ i = .int .i64 (k : Int) ∧ s = .int .i64 (sum (ns.take k)) ∧ sum (ns.take k) ≠ P ∧ ∃ D tr bad, Mem D w.heap.size x ((List.replicate n 0).set k0 (sum (ns.take k))) tr bad wx ∧ tr.length = 3 + k ∧ Below w.heap.size w wx) (fun _ i _ => ns.length - (intOf i).toNat)
  case atStart => exact ⟨0, by omega, rfl, rfl, HP0.out, D, _, _, (by rw [H00.out, Hr0.out]; exact h1), (by simp [tr0]), b1⟩
  case round =>
    obtain ⟨k, hk, rfl, rfl, hP, Dk, tr, bad, hM, htr, bk⟩ := hrel
    obtain ⟨r1, r2, r3⟩ := Hr.out _ hP
    by_cases hlt : k < ns.length
    · rcases HI.out with hI | ⟨b, off, rfl, hb, hc⟩
      · rw [hI] at hlt; simp at hlt
      have cw := (bk.cell (p := ⟨b, off + k, none⟩) hb).trans (hc k hlt)
      have hst := Hst.out k hlt
      generalize ns.getD k 0 = z at *
      have Ha := hide' (add_any (k0 : Int) z hM (by have := HL.out; omega))
      rw [r1, r2, r3] at Ha
      have Hst2 := hide' hst
      have Hwk2 := hide' (vint_k k (Nat.lt_of_lt_of_le hlt HL.out))
      have Hwk := hide' (wrap_k k (Nat.lt_of_lt_of_le hlt HL.out))
      have HM := hide' hM
      have Htr := hide' htr
      have Hbk := hide' bk
      clear r1 r2 r3 hst hM htr bk h1 b1 hc
      go_wp2_with fail
      refine Ha.out.mono ?_
      rintro e w3 ⟨rfl, t3⟩
      obtain ⟨D3, h3, b3⟩ := To.below HM.out Hbk.out t3
      have cw3 := (b3.cell (p := ⟨b, off + k, none⟩) hb).trans ((Hbk.out.cell (p := ⟨b, off + k, none⟩) hb).symm.trans cw)
      clear Ha t3 cw
      rw [← Hst2.out] at h3
      by_cases hz : sum (ns.take (k + 1)) = P
      · have hz' : wrap64 (sum (ns.take k) + z) = -4611686018427387904 := Hst2.out.symm.trans hz
        have Hb3 := hide' b3
        clear hz Hst2 h3 b3
        go_wp2
        go_ret
        exact ⟨rfl, Hb3.out⟩
      · have hz' : (wrap64 (sum (ns.take k) + z) == -4611686018427387904) = false := by rw [← Hst2.out]; exact ne_lit hz
        have K := hide' (And.intro hz (And.intro h3 b3))
        clear hz h3 b3
        go_wp2
        go_roundw
        case rel => exact ⟨k + 1, by omega, Hwk2.out, by rw [Hst2.out], K.out.1, D3, _, _, K.out.2.1, by rw [List.length_append, Htr.out]; simp; omega, K.out.2.2⟩
        case measure => exact msr hlt Hwk.out
    · obtain rfl : k = ns.length := by omega
      have Hl := hide' (load_any (k0 : Int) hM (by have := HL.out; omega))
      rw [r1, r2] at Hl
      have HM := hide' hM
      have Hbk := hide' bk
      clear r1 r2 r3 hM htr bk h1 b1
      go_wp2_with fail
      refine Hl.out.mono ?_
      rintro e w3 ⟨rfl, t3⟩
      obtain ⟨D3, h3, b3⟩ := To.below HM.out Hbk.out t3
      have Hb3 := hide' b3
      clear Hl t3 h3 b3
      go_wp2
      go_ret
      exact ⟨rfl, Hb3.out⟩
end M
end Go.Proofs.Ytoejcpfodbegeaa
