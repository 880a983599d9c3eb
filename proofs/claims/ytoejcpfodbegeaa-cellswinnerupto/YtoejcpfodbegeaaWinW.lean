import Derived.Test.YtoejcpfodbegeaaWinP
set_option linter.unusedVariables false
set_option linter.unusedSimpArgs false
namespace Go.Proofs.Ytoejcpfodbegeaa
open Go.RowKit
namespace M
set_option maxRecDepth 100000 in
set_option maxHeartbeats 2000000 in
theorem win_walk (words addr old : Int) (a : Option Addr) (cap : Nat) (ns : List Int) (w : World) (hI : Ints w a ns) (hl : ns.length ≤ 1048576) :
    Calls Try.prog 7 #[.int .i64 words, .int .i64 addr, .int .i64 old, .slice a ns.length cap] w fun e w' => e = .returned (.bool true) ∧ Below w.heap.size w w' := by
  obtain ⟨n1, n2, n3⟩ := nof_le words
  clear n3
  have Hm := hide' (made_any words w)
  generalize nof words = n at *
  have Hp := hide' (fun w => pick_any addr (n : Int) w (by omega) (by omega))
  have hb1 := Int.emod_nonneg addr (b := (n : Int)) (by omega)
  have hb2 := Int.emod_lt_of_pos addr (b := (n : Int)) (by omega)
  generalize hq : addr % (n : Int) = q at *
  obtain ⟨k0, rfl⟩ : ∃ k : Nat, q = (k : Int) := ⟨q.toNat, by omega⟩
  have hk0 : k0 < n := by omega
  clear hq hb1 hb2
  have HL := hide' hl
  have HI := hide' hI
  clear hl hI
  obtain ⟨r, hr⟩ : ∃ r, r = List.replicate n (0 : Int) := ⟨_, rfl⟩
  have Hk : Hid (k0 < r.length) := by rw [hr]; show k0 < _; simpa using hk0
  obtain ⟨s1, s2⟩ : er r k0 = 0 ∧ put r k0 old = r.set k0 old := by
    have l1 : k0 < r.length := Hk.out
    have g1 : r.getD k0 0 = 0 := by rw [hr]; exact rep_at _ _ hk0
    obtain ⟨e1, _⟩ := er_ok l1 (by rw [g1]; decide)
    exact ⟨e1, put_ok e1⟩
  have S1 := hide' s1
  have S2 := hide' s2
  rw [← hr] at Hm
  clear n1 n2 hk0 hr s1 s2
  go_enter Try.func7, Try.ntmps7
  go_wp2_with fail
  refine Hm.out.mono ?_
  rintro e w1 ⟨x, rfl, D, h1, b1⟩
  clear Hm
  go_wp2_with fail
  refine (Hp.out _).mono ?_
  rintro e w2 ⟨rfl, hw2⟩
  replace hw2 := hw2.symm
  subst hw2
  clear Hp
  have Hs := hide' (store_any (k0 : Int) old h1 (by simp [tr0]))
  rw [S1.out, S2.out] at Hs
  go_wp2_with fail
  refine Hs.out.mono ?_
  rintro e w2 ⟨rfl, t2⟩
  obtain ⟨D2, h2, b2⟩ := To.below h1 b1 t2
  clear Hs t2 h1 b1 S1 S2
  go_wp2_with fail
  go_loopw [13, 14] (fun b i wx => ∃ (k : Nat) (u : Int) (c : Bool), k ≤ ns.length ∧ i = .int .i64 (k : Int) ∧ b = .bool c ∧ (c = true → u ≠ old ∧ old ≠ P) ∧ (c = false → u = old) ∧ ∃ D tr bad, Mem D w.heap.size x (r.set k0 u) tr bad wx ∧ tr.length ≤ 4 + k ∧ Below w.heap.size w wx) (fun _ i _ => ns.length - (intOf i).toNat)
  case atStart => exact ⟨0, old, false, by omega, rfl, rfl, fun h => (by cases h), fun _ => rfl, D2, _, _, h2, by simp [tr0], b2⟩
  case round =>
    obtain ⟨k, u, c, hk, rfl, rfl, hc1, hc2, Dk, tr, bad, hM, htr, bk⟩ := hrel
    by_cases hlt : k < ns.length
    · rcases HI.out with hI | ⟨b, off, rfl, hb, hc⟩
      · rw [hI] at hlt; simp at hlt
      have cw := (bk.cell (p := ⟨b, off + k, none⟩) hb).trans (hc k hlt)
      have Hwk := hide' (wrap_k k (Nat.lt_of_lt_of_le hlt HL.out))
      have Hwk2 := hide' (vint_k k (Nat.lt_of_lt_of_le hlt HL.out))
      generalize ns.getD k 0 = z at *
      have HM := hide' hM
      have Htr := hide' htr
      have Hbk := hide' bk
      have Hc1 := hide' hc1
      have Hc2 := hide' hc2
      clear hM htr bk h2 b2 hc hc1 hc2
      by_cases hzo : z = old
      · subst hzo
        go_wp2
        go_roundw
        case rel => exact ⟨k + 1, u, c, by omega, Hwk2.out, rfl, Hc1.out, Hc2.out, Dk, tr, bad, HM.out, by have := Htr.out; omega, Hbk.out⟩
        case measure => exact msr hlt Hwk.out
      · have hzo' : (z == old) = false := by simpa using hzo
        have Hs := hide' (swap_any (k0 : Int) old z HM.out (by have := Htr.out; have := HL.out; omega))
        rw [win_std r k0 u Hk.out] at Hs
        cases c with
        | false =>
          obtain rfl := Hc2.out rfl
          by_cases hP : u = P
          · obtain ⟨p1, p2⟩ := win_no r k0 u u z Hk.out (.inr hP)
            rw [p1, p2] at Hs
            have HP := hide' hP
            unfold P at hP
            subst hP
            clear hzo p1 p2
            go_wp2_with fail
            refine Hs.out.mono ?_
            rintro e w3 ⟨rfl, t3⟩
            obtain ⟨D3, h3, b3⟩ := To.below HM.out Hbk.out t3
            have K := hide' (And.intro h3 b3)
            clear t3 h3 b3 Hs
            go_wp2
            go_roundw
            case rel => exact ⟨k + 1, _, false, by omega, Hwk2.out, rfl, fun h => (by cases h), fun _ => rfl, D3, _, _, K.out.1, by rw [List.length_append]; have := Htr.out; simp; omega, K.out.2⟩
            case measure => exact msr hlt Hwk.out
          · obtain ⟨p1, p2⟩ := win_yes r k0 u z Hk.out hP
            rw [p1, p2] at Hs
            have HP := hide' hP
            have HZ := hide' hzo
            have hP' : (u == -4611686018427387904) = false := ne_lit hP
            clear hzo p1 p2 hP
            go_wp2_with fail
            refine Hs.out.mono ?_
            rintro e w3 ⟨rfl, t3⟩
            obtain ⟨D3, h3, b3⟩ := To.below HM.out Hbk.out t3
            have K := hide' (And.intro h3 b3)
            clear t3 h3 b3 Hs
            go_wp2
            go_roundw
            case rel => exact ⟨k + 1, z, true, by omega, Hwk2.out, rfl, fun _ => ⟨HZ.out, HP.out⟩, fun h => (by cases h), D3, _, _, K.out.1, by rw [List.length_append]; have := Htr.out; simp; omega, K.out.2⟩
            case measure => exact msr hlt Hwk.out
        | true =>
          obtain ⟨huo, hP⟩ := Hc1.out rfl
          obtain ⟨p1, p2⟩ := win_no r k0 u old z Hk.out (.inl huo)
          rw [p1, p2] at Hs
          have HU := hide' huo
          have HP := hide' hP
          have hP' : (old == -4611686018427387904) = false := ne_lit hP
          have huo' : (u == old) = false := by simpa using huo
          clear hzo p1 p2 hP huo
          go_wp2_with fail
          refine Hs.out.mono ?_
          rintro e w3 ⟨rfl, t3⟩
          obtain ⟨D3, h3, b3⟩ := To.below HM.out Hbk.out t3
          have Hw := hide' (words_any (k0 : Int) 1 h3 (by omega))
          obtain ⟨q1, q2⟩ := piece_one r k0 u Hk.out
          rw [q1, q2] at Hw
          have K := hide' (And.intro h3 b3)
          clear t3 h3 b3 Hs q1 q2
          go_wp2_with fail
          refine Hw.out.mono ?_
          rintro e w4 ⟨ro, rc, rfl, hrow, b4⟩
          obtain ⟨g, rfl, _, _, hrc, hcell⟩ := row_ints hrow rfl (by simp)
          have hc0 := hcell 0 (by simp)
          have K2 := hide' (And.intro (K.out.1.below b4) (K.out.2.trans (b4.mono (K.out.1.base))))
          clear hrow b4 hcell K Hw
          go_wp2
          go_roundw
          case rel => exact ⟨k + 1, u, true, by omega, Hwk2.out, rfl, fun _ => ⟨HU.out, HP.out⟩, fun h => (by cases h), D3, _, _, K2.out.1, by rw [List.length_append]; have := Htr.out; simp; omega, K2.out.2⟩
          case measure => exact msr hlt Hwk.out
    · go_wp2
      go_ret
      exact ⟨rfl, bk⟩
end M
end Go.Proofs.Ytoejcpfodbegeaa
