import Derived.Test.YtnpdmeeolcjmlaaSsP
set_option linter.unusedVariables false
set_option linter.unusedSimpArgs false
namespace Go.Proofs.Ytnpdmeeolcjmlaa
open Go.RowKit
namespace M
theorem ssw1 {n n1 : Nat} (h : n1 = n + 1) : wrap64 ((n1 : Int) - (n : Int)) = 1 := by subst h; unfold wrap64; omega
theorem ssw0 (n : Nat) : wrap64 ((n : Int) - (n : Int)) = 0 := by unfold wrap64; omega
theorem ssw2 {n n1 : Nat} (h : n1 = n + 1) (hl : n < 1999999999999) : wrap64 ((n : Int) + 1) = (n1 : Int) := by subst h; unfold wrap64; omega
theorem neP {a : Int} (h : a ≠ P) : (a == -4611686018427387904) = false := by simpa [P] using h
theorem kk4 {z : Int} : z % 4 = 0 ∨ z % 4 = 1 ∨ z % 4 = 2 ∨ z % 4 = 3 := by omega
theorem made_ss {D : Nat → Prop} {x : Nat} {bg vp : Int} {tr : List Ac} {bad : Nat} {w0 w w2 w3 : World} (hm : Mem D w0.heap.size x [bg, vp] tr bad w) (ht : tr.length = 2) (hv : wrap64 vp = vp) (b0 : Below w0.heap.size w0 w)
    (h2 : w2 = w.alloc (.cells #[.pointer (some ⟨x, 0, none⟩), .int .i64 ((0 : Nat) : Int), .int .i64 ((1 : Nat) : Int)] 71)) (h3 : w3 = w2.alloc (.cells #[.pointer (some ⟨w.heap.size, 0, none⟩), .int .i64 (-1), .bool false, .bool false] 73)) : Ss w0 bg vp x w.heap.size w2.heap.size 0 0 2 false w3 := by
  have t2 : Below w.heap.size w w2 := by rw [h2]; exact (Below.refl _ _).alloc (Nat.le_refl _) _
  have t3 : Below w2.heap.size w2 w3 := by rw [h3]; exact (Below.refl _ _).alloc (Nat.le_refl _) _
  have hk : Lk w.heap.size x 0 1 w2 := by rw [h2]; exact lnew_lk x 0 1 w
  have hw : Wt w2.heap.size w.heap.size (-1) false false w3 := by rw [h3]; exact wait_wt _ w2
  have hv' : wrap64 (vp + ((0 : Nat) : Int)) = vp := by rw [show vp + ((0 : Nat) : Int) = vp by omega]; exact hv
  refine ⟨⟨D, tr, bad, ?_, hk.below t3, hw, ht⟩, (b0.trans (t2.mono b0.size)).trans (t3.mono (Nat.le_trans b0.size t2.size)), Nat.le_trans b0.size t2.size, fun _ => rfl⟩
  rw [hv']
  exact (hm.below t2).below t3
theorem wrap_idem (a : Int) : wrap64 (wrap64 a) = wrap64 a := by unfold wrap64; omega
set_option maxRecDepth 100000 in
set_option maxHeartbeats 4000000 in
theorem steps_walk (b0 ot : Int) (a : Option Addr) (cap : Nat) (ns : List Int) (w : World) (hI : Ints w a ns) (hl : ns.length ≤ 1048576) :
    Calls Try.prog 7 #[.int .i64 b0, .int .i64 ot, .slice a ns.length cap] w fun e w' => e = .returned (.bool true) ∧ Below w.heap.size w w' := by
  have H1 := hide' (new_any 2 w (by omega) (by omega) 2 rfl)
  have HP := hide' (fun w => pick_any ot 3 w (by omega) (by omega))
  have HL := hide' hl
  have HI := hide' hI
  generalize ot % 3 = p at *
  clear hl hI
  by_cases hb : b0 = P
  · subst hb
    unfold P
    go_enter Try.func7, Try.ntmps7
    go_wp2_with fail
    refine H1.out.mono ?_
    rintro e w1 ⟨x, rfl, D, h1, b1⟩
    clear H1
    have HS : Hid (Calls Try.prog 23 #[.pointer (some ⟨x, 0, none⟩), .int .i64 0, .int .i64 0] w1 fun e w' => e = .returned (.int .i64 0) ∧ To D w.heap.size x [0, 0] [⟨2, 0, 0, 0, true⟩] 0 w1 w') := hide' (store_any 0 0 h1 (by simp))
    have HM := hide' (And.intro h1 b1)
    clear h1 b1
    go_wp2_with fail
    refine HS.out.mono ?_
    rintro e w2 ⟨rfl, t2⟩
    have T2 := hide' (To.below HM.out.1 HM.out.2 t2)
    clear HS t2 HM
    obtain ⟨bg, hz⟩ : ∃ bg : Int, 0 = bg := ⟨0, rfl⟩
    have HT : Hid (∃ D' tr, Mem D' w.heap.size x [bg, 0] tr 0 w2 ∧ tr.length = 1 ∧ Below w.heap.size w w2) := by obtain ⟨D', q1, q2⟩ := T2.out; exact ⟨D', _, by rw [← hz]; exact q1, rfl, q2⟩
    have HB : Hid (bg ≠ P) := hide' (by rw [← hz]; decide)
    rw [hz]
    clear hz T2
    go_wp2_with fail
    refine (HP.out w2).mono ?_
    rintro e w3 ⟨rfl, hw3⟩
    replace hw3 := hw3.symm
    subst hw3
    obtain ⟨vp, hvp⟩ : ∃ vp : Int, wrap64 (bg - p) = vp := ⟨_, rfl⟩
    have HV : Hid (wrap64 vp = vp) := hide' (by rw [← hvp]; exact wrap_idem _)
    have HVP := hide' hvp
    obtain ⟨D2, tr2, m2, l2, b2⟩ := HT.out
    have HS : Hid (Calls Try.prog 23 #[.pointer (some ⟨x, 0, none⟩), .int .i64 1, .int .i64 vp] w2 fun e w' => e = .returned (.int .i64 0) ∧ To D2 w.heap.size x [bg, vp] (tr2 ++ [⟨2, 1, vp, 0, true⟩]) 0 w2 w') := hide' (store_any 1 vp m2 (by omega))
    have T2 := hide' (And.intro m2 (And.intro l2 b2))
    clear m2 l2 b2 HT
    go_wp2_with fail
    refine HS.out.mono ?_
    rintro e w4 ⟨rfl, t4⟩
    obtain ⟨D4, m4, b4⟩ := To.below T2.out.1 T2.out.2.2 t4
    have H9 : Hid (Calls Try.prog 9 #[.pointer (some ⟨x, 0, none⟩), .int .i64 0, .int .i64 1] w4 fun e w' => e = .returned (.tuple #[.pointer (some ⟨w4.heap.size, 0, none⟩), .int .i64 0]) ∧ w' = w4.alloc (.cells #[.pointer (some ⟨x, 0, none⟩), .int .i64 ((0 : Nat) : Int), .int .i64 ((1 : Nat) : Int)] 71)) := hide' (lnew_ok 0 1 m4 (by simp) (by simp) (by decide))
    have HM := hide' (fun w5 w6 q5 q6 => made_ss (w2 := w5) (w3 := w6) m4 (by simp [T2.out.2.1]) HV.out b4 q5 q6)
    clear HS t4 m4 b4 T2 hvp
    go_wp2_with fail
    refine H9.out.mono ?_
    rintro e w5 ⟨rfl, hw5⟩
    have HW5 := hide' hw5
    have HE := hide' (wait_new w4.heap.size w5)
    clear H9 hw5
    go_wp2_with fail
    refine HE.out.mono ?_
    rintro e w6 ⟨rfl, hw6⟩
    have S0 := hide' (HM.out w5 w6 HW5.out hw6)
    clear HE hw6 HW5 HM
    generalize w4.heap.size = l at *
    generalize w5.heap.size = b at *
    have HC := hide' (S0.out.trace (by omega))
    go_wp2_with fail
    refine HC.out.mono ?_
    rintro e w7 ⟨ro7, rc7, rfl, q7⟩
    have S7 := hide' q7
    clear HC q7 S0
    go_wp2_with fail
    rw [HVP.out]
    go_loopw [12, 13, 14, 15] (fun st hd lf i wx => ∃ (k s f n : Nat) (h : Bool), k ≤ ns.length ∧ s ≤ k ∧ f ≤ k ∧ n ≤ k + 2 ∧ st = .int .i64 (s : Int) ∧ hd = .bool h ∧ lf = .int .i64 (f : Int) ∧ i = .int .i64 (k : Int) ∧ Ss w bg vp x l b s f n h wx) (fun _ _ _ i _ => ns.length - (intOf i).toNat)
    case atStart => exact ⟨0, 0, 0, 2, false, by omega, by omega, by omega, by omega, rfl, rfl, rfl, rfl, S7.out⟩
    case round => as_aux_lemma =>
      obtain ⟨k, s, f, n, h, hk, hs, hf, hn, rfl, rfl, rfl, rfl, hS⟩ := hrel
      by_cases hlt : k < ns.length
      · rcases HI.out with hI | ⟨ab, off, rfl, hab, hc⟩
        · rw [hI] at hlt; simp at hlt
        have HN := hide' (show n < 1999999999998 by have := HL.out; omega)
        have HC := hide' (hS.trace (by have := HN.out; omega))
        have Hcell := hide' (fun wy (q : Ss w bg vp x l b s f n h wy) => (q.bel.cell (p := ⟨ab, off + k, none⟩) hab).trans (hc k hlt))
        have Wk := hide' (wrap_k k (Nat.lt_of_lt_of_le hlt HL.out))
        have Ws := hide' (wrap_k s (Nat.lt_of_le_of_lt hs (Nat.lt_of_lt_of_le hlt HL.out)))
        have Wf := hide' (wrap_k f (Nat.lt_of_le_of_lt hf (Nat.lt_of_lt_of_le hlt HL.out)))
        have HB4 := hide' (And.intro hs (And.intro hf hn))
        generalize ns.getD k 0 = z at *
        clear hS hc hs hf hn hk
        go_wp2_with fail
        refine HC.out.mono ?_
        rintro e w8 ⟨ro8, rc8, rfl, q8⟩
        have cw := Hcell.out w8 q8
        have S8 := hide' q8
        have HP4 := hide' (pick_any z 4 w8 (by omega) (by omega))
        clear HC q8 Hcell
        go_wp2_with fail
        refine HP4.out.mono ?_
        rintro e w9 ⟨rfl, hw9⟩
        replace hw9 := hw9.symm
        subst hw9
        clear HP4 cw
        rcases kk4 (z := z) with hz | hz | hz | hz
        · rw [hz]
          clear hz
          by_cases hs0 : s = 0
          · have hh := S8.out.h0 hs0
            subst hs0
            subst hh
            have HC := hide' (S8.out.first (by have := HN.out; omega) HB.out)
            go_wp2_with fail
            refine HC.out.mono ?_
            rintro e w10 ⟨rfl, q10⟩
            obtain ⟨n1, hn1⟩ : ∃ n1, n1 = n + 1 := ⟨_, rfl⟩
            rw [← hn1] at q10
            have HC2 := hide' (q10.trace (by have := HN.out; omega))
            have e1 := ssw1 hn1
            have HN1 := hide' hn1
            clear HC q10 S8 hn1
            go_wp2_with fail
            refine HC2.out.mono ?_
            rintro e w11 ⟨ro, rc, rfl, q11⟩
            have S11 := hide' q11
            clear HC2 q11
            go_wp2
            exact ⟨⟨k + 1, 1, f, n1, false, by omega, by omega, by have := HB4.out.2.1; omega, by have := HB4.out.2.2; have := HN1.out; omega, rfl, rfl, rfl, by rw [Wk.out]; go_num, S11.out⟩, msr' hlt _ Wk.out⟩
          have Hs1 : ((s : Int) == 0) = false := by simp; exact hs0
          have HS0 := hide' hs0
          clear hs0
          cases h with
          | true =>
            have HC := hide' (S8.out.hold (by have := HN.out; omega))
            go_wp2_with fail
            refine HC.out.mono ?_
            rintro e w10 ⟨rfl, q10⟩
            have HC2 := hide' (q10.trace (by have := HN.out; omega))
            clear HC q10 S8
            go_wp2_with fail
            refine HC2.out.mono ?_
            rintro e w11 ⟨ro, rc, rfl, q11⟩
            have S11 := hide' q11
            have e0 := ssw0 n
            clear HC2 q11
            go_wp2
            exact ⟨⟨k + 1, s + 1, f, n, true, by omega, by have := HB4.out.1; omega, by have := HB4.out.2.1; omega, by have := HB4.out.2.2; omega, by rw [Ws.out]; go_num, rfl, rfl, by rw [Wk.out]; go_num, S11.out⟩, msr' hlt _ Wk.out⟩
          | false =>
            have HC := hide' (S8.out.wait HS0.out (by have := HN.out; omega))
            go_wp2_with fail
            refine HC.out.mono ?_
            rintro e w10 ⟨r, rfl, q10⟩
            obtain ⟨n1, hn1⟩ : ∃ n1, n1 = n + 1 := ⟨_, rfl⟩
            rw [← hn1] at q10
            have HC2 := hide' (q10.trace (by have := HN.out; omega))
            have e1 := ssw1 hn1
            have HN1 := hide' hn1
            clear HC q10 S8 hn1
            go_wp2_with fail
            refine HC2.out.mono ?_
            rintro e w11 ⟨ro, rc, rfl, q11⟩
            have S11 := hide' q11
            clear HC2 q11
            go_wp2
            exact ⟨⟨k + 1, s + 1, f, n1, r, by omega, by have := HB4.out.1; omega, by have := HB4.out.2.1; omega, by have := HB4.out.2.2; have := HN1.out; omega, by rw [Ws.out]; go_num, rfl, rfl, by rw [Wk.out]; go_num, S11.out⟩, msr' hlt _ Wk.out⟩
        · rw [hz]
          clear hz
          have HC := hide' (S8.out.ready)
          go_wp2_with fail
          refine HC.out.mono ?_
          rintro e w10 ⟨r, rfl, q10⟩
          have HC2 := hide' (q10.trace (by have := HN.out; omega))
          clear HC q10 S8
          go_wp2_with fail
          refine HC2.out.mono ?_
          rintro e w11 ⟨ro, rc, rfl, q11⟩
          have S11 := hide' q11
          clear HC2 q11
          go_wp2
          exact ⟨⟨k + 1, s, f, n, h, by omega, by have := HB4.out.1; omega, by have := HB4.out.2.1; omega, by have := HB4.out.2.2; omega, rfl, rfl, rfl, by rw [Wk.out]; go_num, S11.out⟩, msr' hlt _ Wk.out⟩
        · rw [hz]
          clear hz
          have HC := hide' (S8.out.ticket)
          have HC2 := hide' (S8.out.trace (by have := HN.out; omega))
          by_cases hs0 : s = 0
          · subst hs0
            rw [show vt 0 bg = -1 from rfl] at HC
            go_wp2_with fail
            refine HC.out.mono ?_
            rintro e w10 ⟨rfl, hw10⟩
            replace hw10 := hw10.symm
            subst hw10
            go_wp2_with fail
            refine HC2.out.mono ?_
            rintro e w11 ⟨ro, rc, rfl, q11⟩
            have S11 := hide' q11
            clear HC HC2 q11 S8
            go_wp2
            exact ⟨⟨k + 1, 0, f, n, h, by omega, by omega, by have := HB4.out.2.1; omega, by have := HB4.out.2.2; omega, rfl, rfl, rfl, by rw [Wk.out]; go_num, S11.out⟩, msr' hlt _ Wk.out⟩
          · rw [vt_pos hs0] at HC
            have Hs1 : ((s : Int) == 0) = false := by simp; exact hs0
            have Hs2 : decide (0 < (s : Int)) = true := decide_eq_true (by omega)
            have Hs3 : (0 : Int) < (s : Int) := by omega
            clear hs0
            go_wp2_with fail
            refine HC.out.mono ?_
            rintro e w10 ⟨rfl, hw10⟩
            replace hw10 := hw10.symm
            subst hw10
            go_wp2_with fail
            refine HC2.out.mono ?_
            rintro e w11 ⟨ro, rc, rfl, q11⟩
            have S11 := hide' q11
            clear HC HC2 q11 S8
            go_wp2
            exact ⟨⟨k + 1, s, f, n, h, by omega, by have := HB4.out.1; omega, by have := HB4.out.2.1; omega, by have := HB4.out.2.2; omega, rfl, rfl, rfl, by rw [Wk.out]; go_num, S11.out⟩, msr' hlt _ Wk.out⟩
        · rw [hz]
          clear hz
          have HPw := hide' (HP.out w8)
          go_wp2_with fail
          refine HPw.out.mono ?_
          rintro e w9 ⟨rfl, hw9⟩
          replace hw9 := hw9.symm
          subst hw9
          have e2 := HVP.out
          obtain ⟨vf, hvf⟩ : ∃ vf : Int, wrap64 (vp + (f : Nat)) = vf := ⟨_, rfl⟩
          by_cases hq : vf = P
          · have hq' : vf = -4611686018427387904 := hq
            subst hq'
            clear hq
            go_wp2
            exact ⟨⟨k + 1, s, f, n, h, by omega, by have := HB4.out.1; omega, by have := HB4.out.2.1; omega, by have := HB4.out.2.2; omega, rfl, rfl, rfl, by rw [Wk.out]; go_num, S8.out⟩, msr' hlt _ Wk.out⟩
          · have hq' := neP hq
            have HQ := hide' hq
            have HVF := hide' hvf
            clear hq
            go_wp2_with fail
            refine HPw.out.mono ?_
            rintro e w9 ⟨rfl, hw9⟩
            replace hw9 := hw9.symm
            subst hw9
            obtain ⟨vg, hvg⟩ : ∃ vg : Int, wrap64 (vf + 1) = vg := ⟨_, rfl⟩
            by_cases hr : vg = P
            · have hr' : vg = -4611686018427387904 := hr
              subst hr'
              clear hr
              go_wp2
              exact ⟨⟨k + 1, s, f, n, h, by omega, by have := HB4.out.1; omega, by have := HB4.out.2.1; omega, by have := HB4.out.2.2; omega, rfl, rfl, rfl, by rw [Wk.out]; go_num, S8.out⟩, msr' hlt _ Wk.out⟩
            · have hr' := neP hr
              have HC := hide' (S8.out.leave (by have := HN.out; omega) (by rw [HVF.out]; exact HQ.out))
              clear hr
              go_wp2_with fail
              refine HC.out.mono ?_
              rintro e w10 ⟨rfl, q10⟩
              obtain ⟨n1, hn1⟩ : ∃ n1, n1 = n + 1 := ⟨_, rfl⟩
              rw [← hn1] at q10
              have HC2 := hide' (q10.trace (by have := HN.out; omega))
              have e1 := ssw2 hn1 (by have := HN.out; omega)
              have HN1 := hide' hn1
              clear HC q10 S8 hn1 e2 hvf hvg hq' hr'
              go_wp2_with fail
              refine HC2.out.mono ?_
              rintro e w11 ⟨ro, rc, rfl, q11⟩
              have S11 := hide' q11
              clear HC2 q11
              go_wp2
              exact ⟨⟨k + 1, s, f + 1, n1, h, by omega, by have := HB4.out.1; omega, by have := HB4.out.2.1; omega, by have := HB4.out.2.2; have := HN1.out; omega, rfl, rfl, by rw [Wf.out]; go_num, by rw [Wk.out]; go_num, S11.out⟩, msr' hlt _ Wk.out⟩
      · obtain rfl : k = ns.length := by omega
        have K := hide' hS.bel
        clear hS
        go_wp2
        go_ret
        exact ⟨rfl, K.out⟩
  have hb1 : (b0 == -4611686018427387904) = false := neP hb
  by_cases hb2 : wrap64 (b0 + 1) = -4611686018427387904
  · clear hb
    go_enter Try.func7, Try.ntmps7
    go_wp2_with fail
    refine H1.out.mono ?_
    rintro e w1 ⟨x, rfl, D, h1, b1⟩
    clear H1
    have HS : Hid (Calls Try.prog 23 #[.pointer (some ⟨x, 0, none⟩), .int .i64 0, .int .i64 0] w1 fun e w' => e = .returned (.int .i64 0) ∧ To D w.heap.size x [0, 0] [⟨2, 0, 0, 0, true⟩] 0 w1 w') := hide' (store_any 0 0 h1 (by simp))
    have HM := hide' (And.intro h1 b1)
    clear h1 b1
    go_wp2_with fail
    refine HS.out.mono ?_
    rintro e w2 ⟨rfl, t2⟩
    have T2 := hide' (To.below HM.out.1 HM.out.2 t2)
    clear HS t2 HM
    obtain ⟨bg, hz⟩ : ∃ bg : Int, 0 = bg := ⟨0, rfl⟩
    have HT : Hid (∃ D' tr, Mem D' w.heap.size x [bg, 0] tr 0 w2 ∧ tr.length = 1 ∧ Below w.heap.size w w2) := by obtain ⟨D', q1, q2⟩ := T2.out; exact ⟨D', _, by rw [← hz]; exact q1, rfl, q2⟩
    have HB : Hid (bg ≠ P) := hide' (by rw [← hz]; decide)
    rw [hz]
    clear hz T2
    go_wp2_with fail
    refine (HP.out w2).mono ?_
    rintro e w3 ⟨rfl, hw3⟩
    replace hw3 := hw3.symm
    subst hw3
    obtain ⟨vp, hvp⟩ : ∃ vp : Int, wrap64 (bg - p) = vp := ⟨_, rfl⟩
    have HV : Hid (wrap64 vp = vp) := hide' (by rw [← hvp]; exact wrap_idem _)
    have HVP := hide' hvp
    obtain ⟨D2, tr2, m2, l2, b2⟩ := HT.out
    have HS : Hid (Calls Try.prog 23 #[.pointer (some ⟨x, 0, none⟩), .int .i64 1, .int .i64 vp] w2 fun e w' => e = .returned (.int .i64 0) ∧ To D2 w.heap.size x [bg, vp] (tr2 ++ [⟨2, 1, vp, 0, true⟩]) 0 w2 w') := hide' (store_any 1 vp m2 (by omega))
    have T2 := hide' (And.intro m2 (And.intro l2 b2))
    clear m2 l2 b2 HT
    go_wp2_with fail
    refine HS.out.mono ?_
    rintro e w4 ⟨rfl, t4⟩
    obtain ⟨D4, m4, b4⟩ := To.below T2.out.1 T2.out.2.2 t4
    have H9 : Hid (Calls Try.prog 9 #[.pointer (some ⟨x, 0, none⟩), .int .i64 0, .int .i64 1] w4 fun e w' => e = .returned (.tuple #[.pointer (some ⟨w4.heap.size, 0, none⟩), .int .i64 0]) ∧ w' = w4.alloc (.cells #[.pointer (some ⟨x, 0, none⟩), .int .i64 ((0 : Nat) : Int), .int .i64 ((1 : Nat) : Int)] 71)) := hide' (lnew_ok 0 1 m4 (by simp) (by simp) (by decide))
    have HM := hide' (fun w5 w6 q5 q6 => made_ss (w2 := w5) (w3 := w6) m4 (by simp [T2.out.2.1]) HV.out b4 q5 q6)
    clear HS t4 m4 b4 T2 hvp
    go_wp2_with fail
    refine H9.out.mono ?_
    rintro e w5 ⟨rfl, hw5⟩
    have HW5 := hide' hw5
    have HE := hide' (wait_new w4.heap.size w5)
    clear H9 hw5
    go_wp2_with fail
    refine HE.out.mono ?_
    rintro e w6 ⟨rfl, hw6⟩
    have S0 := hide' (HM.out w5 w6 HW5.out hw6)
    clear HE hw6 HW5 HM
    generalize w4.heap.size = l at *
    generalize w5.heap.size = b at *
    have HC := hide' (S0.out.trace (by omega))
    go_wp2_with fail
    refine HC.out.mono ?_
    rintro e w7 ⟨ro7, rc7, rfl, q7⟩
    have S7 := hide' q7
    clear HC q7 S0
    go_wp2_with fail
    rw [HVP.out]
    go_loopw [12, 13, 14, 15] (fun st hd lf i wx => ∃ (k s f n : Nat) (h : Bool), k ≤ ns.length ∧ s ≤ k ∧ f ≤ k ∧ n ≤ k + 2 ∧ st = .int .i64 (s : Int) ∧ hd = .bool h ∧ lf = .int .i64 (f : Int) ∧ i = .int .i64 (k : Int) ∧ Ss w bg vp x l b s f n h wx) (fun _ _ _ i _ => ns.length - (intOf i).toNat)
    case atStart => exact ⟨0, 0, 0, 2, false, by omega, by omega, by omega, by omega, rfl, rfl, rfl, rfl, S7.out⟩
    case round => as_aux_lemma =>
      obtain ⟨k, s, f, n, h, hk, hs, hf, hn, rfl, rfl, rfl, rfl, hS⟩ := hrel
      by_cases hlt : k < ns.length
      · rcases HI.out with hI | ⟨ab, off, rfl, hab, hc⟩
        · rw [hI] at hlt; simp at hlt
        have HN := hide' (show n < 1999999999998 by have := HL.out; omega)
        have HC := hide' (hS.trace (by have := HN.out; omega))
        have Hcell := hide' (fun wy (q : Ss w bg vp x l b s f n h wy) => (q.bel.cell (p := ⟨ab, off + k, none⟩) hab).trans (hc k hlt))
        have Wk := hide' (wrap_k k (Nat.lt_of_lt_of_le hlt HL.out))
        have Ws := hide' (wrap_k s (Nat.lt_of_le_of_lt hs (Nat.lt_of_lt_of_le hlt HL.out)))
        have Wf := hide' (wrap_k f (Nat.lt_of_le_of_lt hf (Nat.lt_of_lt_of_le hlt HL.out)))
        have HB4 := hide' (And.intro hs (And.intro hf hn))
        generalize ns.getD k 0 = z at *
        clear hS hc hs hf hn hk
        go_wp2_with fail
        refine HC.out.mono ?_
        rintro e w8 ⟨ro8, rc8, rfl, q8⟩
        have cw := Hcell.out w8 q8
        have S8 := hide' q8
        have HP4 := hide' (pick_any z 4 w8 (by omega) (by omega))
        clear HC q8 Hcell
        go_wp2_with fail
        refine HP4.out.mono ?_
        rintro e w9 ⟨rfl, hw9⟩
        replace hw9 := hw9.symm
        subst hw9
        clear HP4 cw
        rcases kk4 (z := z) with hz | hz | hz | hz
        · rw [hz]
          clear hz
          by_cases hs0 : s = 0
          · have hh := S8.out.h0 hs0
            subst hs0
            subst hh
            have HC := hide' (S8.out.first (by have := HN.out; omega) HB.out)
            go_wp2_with fail
            refine HC.out.mono ?_
            rintro e w10 ⟨rfl, q10⟩
            obtain ⟨n1, hn1⟩ : ∃ n1, n1 = n + 1 := ⟨_, rfl⟩
            rw [← hn1] at q10
            have HC2 := hide' (q10.trace (by have := HN.out; omega))
            have e1 := ssw1 hn1
            have HN1 := hide' hn1
            clear HC q10 S8 hn1
            go_wp2_with fail
            refine HC2.out.mono ?_
            rintro e w11 ⟨ro, rc, rfl, q11⟩
            have S11 := hide' q11
            clear HC2 q11
            go_wp2
            exact ⟨⟨k + 1, 1, f, n1, false, by omega, by omega, by have := HB4.out.2.1; omega, by have := HB4.out.2.2; have := HN1.out; omega, rfl, rfl, rfl, by rw [Wk.out]; go_num, S11.out⟩, msr' hlt _ Wk.out⟩
          have Hs1 : ((s : Int) == 0) = false := by simp; exact hs0
          have HS0 := hide' hs0
          clear hs0
          cases h with
          | true =>
            have HC := hide' (S8.out.hold (by have := HN.out; omega))
            go_wp2_with fail
            refine HC.out.mono ?_
            rintro e w10 ⟨rfl, q10⟩
            have HC2 := hide' (q10.trace (by have := HN.out; omega))
            clear HC q10 S8
            go_wp2_with fail
            refine HC2.out.mono ?_
            rintro e w11 ⟨ro, rc, rfl, q11⟩
            have S11 := hide' q11
            have e0 := ssw0 n
            clear HC2 q11
            go_wp2
            exact ⟨⟨k + 1, s + 1, f, n, true, by omega, by have := HB4.out.1; omega, by have := HB4.out.2.1; omega, by have := HB4.out.2.2; omega, by rw [Ws.out]; go_num, rfl, rfl, by rw [Wk.out]; go_num, S11.out⟩, msr' hlt _ Wk.out⟩
          | false =>
            have HC := hide' (S8.out.wait HS0.out (by have := HN.out; omega))
            go_wp2_with fail
            refine HC.out.mono ?_
            rintro e w10 ⟨r, rfl, q10⟩
            obtain ⟨n1, hn1⟩ : ∃ n1, n1 = n + 1 := ⟨_, rfl⟩
            rw [← hn1] at q10
            have HC2 := hide' (q10.trace (by have := HN.out; omega))
            have e1 := ssw1 hn1
            have HN1 := hide' hn1
            clear HC q10 S8 hn1
            go_wp2_with fail
            refine HC2.out.mono ?_
            rintro e w11 ⟨ro, rc, rfl, q11⟩
            have S11 := hide' q11
            clear HC2 q11
            go_wp2
            exact ⟨⟨k + 1, s + 1, f, n1, r, by omega, by have := HB4.out.1; omega, by have := HB4.out.2.1; omega, by have := HB4.out.2.2; have := HN1.out; omega, by rw [Ws.out]; go_num, rfl, rfl, by rw [Wk.out]; go_num, S11.out⟩, msr' hlt _ Wk.out⟩
        · rw [hz]
          clear hz
          have HC := hide' (S8.out.ready)
          go_wp2_with fail
          refine HC.out.mono ?_
          rintro e w10 ⟨r, rfl, q10⟩
          have HC2 := hide' (q10.trace (by have := HN.out; omega))
          clear HC q10 S8
          go_wp2_with fail
          refine HC2.out.mono ?_
          rintro e w11 ⟨ro, rc, rfl, q11⟩
          have S11 := hide' q11
          clear HC2 q11
          go_wp2
          exact ⟨⟨k + 1, s, f, n, h, by omega, by have := HB4.out.1; omega, by have := HB4.out.2.1; omega, by have := HB4.out.2.2; omega, rfl, rfl, rfl, by rw [Wk.out]; go_num, S11.out⟩, msr' hlt _ Wk.out⟩
        · rw [hz]
          clear hz
          have HC := hide' (S8.out.ticket)
          have HC2 := hide' (S8.out.trace (by have := HN.out; omega))
          by_cases hs0 : s = 0
          · subst hs0
            rw [show vt 0 bg = -1 from rfl] at HC
            go_wp2_with fail
            refine HC.out.mono ?_
            rintro e w10 ⟨rfl, hw10⟩
            replace hw10 := hw10.symm
            subst hw10
            go_wp2_with fail
            refine HC2.out.mono ?_
            rintro e w11 ⟨ro, rc, rfl, q11⟩
            have S11 := hide' q11
            clear HC HC2 q11 S8
            go_wp2
            exact ⟨⟨k + 1, 0, f, n, h, by omega, by omega, by have := HB4.out.2.1; omega, by have := HB4.out.2.2; omega, rfl, rfl, rfl, by rw [Wk.out]; go_num, S11.out⟩, msr' hlt _ Wk.out⟩
          · rw [vt_pos hs0] at HC
            have Hs1 : ((s : Int) == 0) = false := by simp; exact hs0
            have Hs2 : decide (0 < (s : Int)) = true := decide_eq_true (by omega)
            have Hs3 : (0 : Int) < (s : Int) := by omega
            clear hs0
            go_wp2_with fail
            refine HC.out.mono ?_
            rintro e w10 ⟨rfl, hw10⟩
            replace hw10 := hw10.symm
            subst hw10
            go_wp2_with fail
            refine HC2.out.mono ?_
            rintro e w11 ⟨ro, rc, rfl, q11⟩
            have S11 := hide' q11
            clear HC HC2 q11 S8
            go_wp2
            exact ⟨⟨k + 1, s, f, n, h, by omega, by have := HB4.out.1; omega, by have := HB4.out.2.1; omega, by have := HB4.out.2.2; omega, rfl, rfl, rfl, by rw [Wk.out]; go_num, S11.out⟩, msr' hlt _ Wk.out⟩
        · rw [hz]
          clear hz
          have HPw := hide' (HP.out w8)
          go_wp2_with fail
          refine HPw.out.mono ?_
          rintro e w9 ⟨rfl, hw9⟩
          replace hw9 := hw9.symm
          subst hw9
          have e2 := HVP.out
          obtain ⟨vf, hvf⟩ : ∃ vf : Int, wrap64 (vp + (f : Nat)) = vf := ⟨_, rfl⟩
          by_cases hq : vf = P
          · have hq' : vf = -4611686018427387904 := hq
            subst hq'
            clear hq
            go_wp2
            exact ⟨⟨k + 1, s, f, n, h, by omega, by have := HB4.out.1; omega, by have := HB4.out.2.1; omega, by have := HB4.out.2.2; omega, rfl, rfl, rfl, by rw [Wk.out]; go_num, S8.out⟩, msr' hlt _ Wk.out⟩
          · have hq' := neP hq
            have HQ := hide' hq
            have HVF := hide' hvf
            clear hq
            go_wp2_with fail
            refine HPw.out.mono ?_
            rintro e w9 ⟨rfl, hw9⟩
            replace hw9 := hw9.symm
            subst hw9
            obtain ⟨vg, hvg⟩ : ∃ vg : Int, wrap64 (vf + 1) = vg := ⟨_, rfl⟩
            by_cases hr : vg = P
            · have hr' : vg = -4611686018427387904 := hr
              subst hr'
              clear hr
              go_wp2
              exact ⟨⟨k + 1, s, f, n, h, by omega, by have := HB4.out.1; omega, by have := HB4.out.2.1; omega, by have := HB4.out.2.2; omega, rfl, rfl, rfl, by rw [Wk.out]; go_num, S8.out⟩, msr' hlt _ Wk.out⟩
            · have hr' := neP hr
              have HC := hide' (S8.out.leave (by have := HN.out; omega) (by rw [HVF.out]; exact HQ.out))
              clear hr
              go_wp2_with fail
              refine HC.out.mono ?_
              rintro e w10 ⟨rfl, q10⟩
              obtain ⟨n1, hn1⟩ : ∃ n1, n1 = n + 1 := ⟨_, rfl⟩
              rw [← hn1] at q10
              have HC2 := hide' (q10.trace (by have := HN.out; omega))
              have e1 := ssw2 hn1 (by have := HN.out; omega)
              have HN1 := hide' hn1
              clear HC q10 S8 hn1 e2 hvf hvg hq' hr'
              go_wp2_with fail
              refine HC2.out.mono ?_
              rintro e w11 ⟨ro, rc, rfl, q11⟩
              have S11 := hide' q11
              clear HC2 q11
              go_wp2
              exact ⟨⟨k + 1, s, f + 1, n1, h, by omega, by have := HB4.out.1; omega, by have := HB4.out.2.1; omega, by have := HB4.out.2.2; have := HN1.out; omega, rfl, rfl, by rw [Wf.out]; go_num, by rw [Wk.out]; go_num, S11.out⟩, msr' hlt _ Wk.out⟩
      · obtain rfl : k = ns.length := by omega
        have K := hide' hS.bel
        clear hS
        go_wp2
        go_ret
        exact ⟨rfl, K.out⟩
  · have hb3 : (wrap64 (b0 + 1) == -4611686018427387904) = false := by simpa using hb2
    go_enter Try.func7, Try.ntmps7
    go_wp2_with fail
    refine H1.out.mono ?_
    rintro e w1 ⟨x, rfl, D, h1, b1⟩
    clear H1
    have HS : Hid (Calls Try.prog 23 #[.pointer (some ⟨x, 0, none⟩), .int .i64 0, .int .i64 b0] w1 fun e w' => e = .returned (.int .i64 0) ∧ To D w.heap.size x [b0, 0] [⟨2, 0, b0, 0, true⟩] 0 w1 w') := hide' (store_any 0 b0 h1 (by simp))
    have HM := hide' (And.intro h1 b1)
    clear h1 b1
    go_wp2_with fail
    refine HS.out.mono ?_
    rintro e w2 ⟨rfl, t2⟩
    have T2 := hide' (To.below HM.out.1 HM.out.2 t2)
    clear HS t2 HM
    have HT : Hid (∃ D' tr, Mem D' w.heap.size x [b0, 0] tr 0 w2 ∧ tr.length = 1 ∧ Below w.heap.size w w2) := by obtain ⟨D', q1, q2⟩ := T2.out; exact ⟨D', _, q1, rfl, q2⟩
    have HB : Hid (b0 ≠ P) := hide' hb
    clear T2 hb hb1 hb2 hb3
    generalize b0 = bg at *
    go_wp2_with fail
    refine (HP.out w2).mono ?_
    rintro e w3 ⟨rfl, hw3⟩
    replace hw3 := hw3.symm
    subst hw3
    obtain ⟨vp, hvp⟩ : ∃ vp : Int, wrap64 (bg - p) = vp := ⟨_, rfl⟩
    have HV : Hid (wrap64 vp = vp) := hide' (by rw [← hvp]; exact wrap_idem _)
    have HVP := hide' hvp
    obtain ⟨D2, tr2, m2, l2, b2⟩ := HT.out
    have HS : Hid (Calls Try.prog 23 #[.pointer (some ⟨x, 0, none⟩), .int .i64 1, .int .i64 vp] w2 fun e w' => e = .returned (.int .i64 0) ∧ To D2 w.heap.size x [bg, vp] (tr2 ++ [⟨2, 1, vp, 0, true⟩]) 0 w2 w') := hide' (store_any 1 vp m2 (by omega))
    have T2 := hide' (And.intro m2 (And.intro l2 b2))
    clear m2 l2 b2 HT
    go_wp2_with fail
    refine HS.out.mono ?_
    rintro e w4 ⟨rfl, t4⟩
    obtain ⟨D4, m4, b4⟩ := To.below T2.out.1 T2.out.2.2 t4
    have H9 : Hid (Calls Try.prog 9 #[.pointer (some ⟨x, 0, none⟩), .int .i64 0, .int .i64 1] w4 fun e w' => e = .returned (.tuple #[.pointer (some ⟨w4.heap.size, 0, none⟩), .int .i64 0]) ∧ w' = w4.alloc (.cells #[.pointer (some ⟨x, 0, none⟩), .int .i64 ((0 : Nat) : Int), .int .i64 ((1 : Nat) : Int)] 71)) := hide' (lnew_ok 0 1 m4 (by simp) (by simp) (by decide))
    have HM := hide' (fun w5 w6 q5 q6 => made_ss (w2 := w5) (w3 := w6) m4 (by simp [T2.out.2.1]) HV.out b4 q5 q6)
    clear HS t4 m4 b4 T2 hvp
    go_wp2_with fail
    refine H9.out.mono ?_
    rintro e w5 ⟨rfl, hw5⟩
    have HW5 := hide' hw5
    have HE := hide' (wait_new w4.heap.size w5)
    clear H9 hw5
    go_wp2_with fail
    refine HE.out.mono ?_
    rintro e w6 ⟨rfl, hw6⟩
    have S0 := hide' (HM.out w5 w6 HW5.out hw6)
    clear HE hw6 HW5 HM
    generalize w4.heap.size = l at *
    generalize w5.heap.size = b at *
    have HC := hide' (S0.out.trace (by omega))
    go_wp2_with fail
    refine HC.out.mono ?_
    rintro e w7 ⟨ro7, rc7, rfl, q7⟩
    have S7 := hide' q7
    clear HC q7 S0
    go_wp2_with fail
    rw [HVP.out]
    go_loopw [12, 13, 14, 15] (fun st hd lf i wx => ∃ (k s f n : Nat) (h : Bool), k ≤ ns.length ∧ s ≤ k ∧ f ≤ k ∧ n ≤ k + 2 ∧ st = .int .i64 (s : Int) ∧ hd = .bool h ∧ lf = .int .i64 (f : Int) ∧ i = .int .i64 (k : Int) ∧ Ss w bg vp x l b s f n h wx) (fun _ _ _ i _ => ns.length - (intOf i).toNat)
    case atStart => exact ⟨0, 0, 0, 2, false, by omega, by omega, by omega, by omega, rfl, rfl, rfl, rfl, S7.out⟩
    case round => as_aux_lemma =>
      obtain ⟨k, s, f, n, h, hk, hs, hf, hn, rfl, rfl, rfl, rfl, hS⟩ := hrel
      by_cases hlt : k < ns.length
      · rcases HI.out with hI | ⟨ab, off, rfl, hab, hc⟩
        · rw [hI] at hlt; simp at hlt
        have HN := hide' (show n < 1999999999998 by have := HL.out; omega)
        have HC := hide' (hS.trace (by have := HN.out; omega))
        have Hcell := hide' (fun wy (q : Ss w bg vp x l b s f n h wy) => (q.bel.cell (p := ⟨ab, off + k, none⟩) hab).trans (hc k hlt))
        have Wk := hide' (wrap_k k (Nat.lt_of_lt_of_le hlt HL.out))
        have Ws := hide' (wrap_k s (Nat.lt_of_le_of_lt hs (Nat.lt_of_lt_of_le hlt HL.out)))
        have Wf := hide' (wrap_k f (Nat.lt_of_le_of_lt hf (Nat.lt_of_lt_of_le hlt HL.out)))
        have HB4 := hide' (And.intro hs (And.intro hf hn))
        generalize ns.getD k 0 = z at *
        clear hS hc hs hf hn hk
        go_wp2_with fail
        refine HC.out.mono ?_
        rintro e w8 ⟨ro8, rc8, rfl, q8⟩
        have cw := Hcell.out w8 q8
        have S8 := hide' q8
        have HP4 := hide' (pick_any z 4 w8 (by omega) (by omega))
        clear HC q8 Hcell
        go_wp2_with fail
        refine HP4.out.mono ?_
        rintro e w9 ⟨rfl, hw9⟩
        replace hw9 := hw9.symm
        subst hw9
        clear HP4 cw
        rcases kk4 (z := z) with hz | hz | hz | hz
        · rw [hz]
          clear hz
          by_cases hs0 : s = 0
          · have hh := S8.out.h0 hs0
            subst hs0
            subst hh
            have HC := hide' (S8.out.first (by have := HN.out; omega) HB.out)
            go_wp2_with fail
            refine HC.out.mono ?_
            rintro e w10 ⟨rfl, q10⟩
            obtain ⟨n1, hn1⟩ : ∃ n1, n1 = n + 1 := ⟨_, rfl⟩
            rw [← hn1] at q10
            have HC2 := hide' (q10.trace (by have := HN.out; omega))
            have e1 := ssw1 hn1
            have HN1 := hide' hn1
            clear HC q10 S8 hn1
            go_wp2_with fail
            refine HC2.out.mono ?_
            rintro e w11 ⟨ro, rc, rfl, q11⟩
            have S11 := hide' q11
            clear HC2 q11
            go_wp2
            exact ⟨⟨k + 1, 1, f, n1, false, by omega, by omega, by have := HB4.out.2.1; omega, by have := HB4.out.2.2; have := HN1.out; omega, rfl, rfl, rfl, by rw [Wk.out]; go_num, S11.out⟩, msr' hlt _ Wk.out⟩
          have Hs1 : ((s : Int) == 0) = false := by simp; exact hs0
          have HS0 := hide' hs0
          clear hs0
          cases h with
          | true =>
            have HC := hide' (S8.out.hold (by have := HN.out; omega))
            go_wp2_with fail
            refine HC.out.mono ?_
            rintro e w10 ⟨rfl, q10⟩
            have HC2 := hide' (q10.trace (by have := HN.out; omega))
            clear HC q10 S8
            go_wp2_with fail
            refine HC2.out.mono ?_
            rintro e w11 ⟨ro, rc, rfl, q11⟩
            have S11 := hide' q11
            have e0 := ssw0 n
            clear HC2 q11
            go_wp2
            exact ⟨⟨k + 1, s + 1, f, n, true, by omega, by have := HB4.out.1; omega, by have := HB4.out.2.1; omega, by have := HB4.out.2.2; omega, by rw [Ws.out]; go_num, rfl, rfl, by rw [Wk.out]; go_num, S11.out⟩, msr' hlt _ Wk.out⟩
          | false =>
            have HC := hide' (S8.out.wait HS0.out (by have := HN.out; omega))
            go_wp2_with fail
            refine HC.out.mono ?_
            rintro e w10 ⟨r, rfl, q10⟩
            obtain ⟨n1, hn1⟩ : ∃ n1, n1 = n + 1 := ⟨_, rfl⟩
            rw [← hn1] at q10
            have HC2 := hide' (q10.trace (by have := HN.out; omega))
            have e1 := ssw1 hn1
            have HN1 := hide' hn1
            clear HC q10 S8 hn1
            go_wp2_with fail
            refine HC2.out.mono ?_
            rintro e w11 ⟨ro, rc, rfl, q11⟩
            have S11 := hide' q11
            clear HC2 q11
            go_wp2
            exact ⟨⟨k + 1, s + 1, f, n1, r, by omega, by have := HB4.out.1; omega, by have := HB4.out.2.1; omega, by have := HB4.out.2.2; have := HN1.out; omega, by rw [Ws.out]; go_num, rfl, rfl, by rw [Wk.out]; go_num, S11.out⟩, msr' hlt _ Wk.out⟩
        · rw [hz]
          clear hz
          have HC := hide' (S8.out.ready)
          go_wp2_with fail
          refine HC.out.mono ?_
          rintro e w10 ⟨r, rfl, q10⟩
          have HC2 := hide' (q10.trace (by have := HN.out; omega))
          clear HC q10 S8
          go_wp2_with fail
          refine HC2.out.mono ?_
          rintro e w11 ⟨ro, rc, rfl, q11⟩
          have S11 := hide' q11
          clear HC2 q11
          go_wp2
          exact ⟨⟨k + 1, s, f, n, h, by omega, by have := HB4.out.1; omega, by have := HB4.out.2.1; omega, by have := HB4.out.2.2; omega, rfl, rfl, rfl, by rw [Wk.out]; go_num, S11.out⟩, msr' hlt _ Wk.out⟩
        · rw [hz]
          clear hz
          have HC := hide' (S8.out.ticket)
          have HC2 := hide' (S8.out.trace (by have := HN.out; omega))
          by_cases hs0 : s = 0
          · subst hs0
            rw [show vt 0 bg = -1 from rfl] at HC
            go_wp2_with fail
            refine HC.out.mono ?_
            rintro e w10 ⟨rfl, hw10⟩
            replace hw10 := hw10.symm
            subst hw10
            go_wp2_with fail
            refine HC2.out.mono ?_
            rintro e w11 ⟨ro, rc, rfl, q11⟩
            have S11 := hide' q11
            clear HC HC2 q11 S8
            go_wp2
            exact ⟨⟨k + 1, 0, f, n, h, by omega, by omega, by have := HB4.out.2.1; omega, by have := HB4.out.2.2; omega, rfl, rfl, rfl, by rw [Wk.out]; go_num, S11.out⟩, msr' hlt _ Wk.out⟩
          · rw [vt_pos hs0] at HC
            have Hs1 : ((s : Int) == 0) = false := by simp; exact hs0
            have Hs2 : decide (0 < (s : Int)) = true := decide_eq_true (by omega)
            have Hs3 : (0 : Int) < (s : Int) := by omega
            clear hs0
            go_wp2_with fail
            refine HC.out.mono ?_
            rintro e w10 ⟨rfl, hw10⟩
            replace hw10 := hw10.symm
            subst hw10
            go_wp2_with fail
            refine HC2.out.mono ?_
            rintro e w11 ⟨ro, rc, rfl, q11⟩
            have S11 := hide' q11
            clear HC HC2 q11 S8
            go_wp2
            exact ⟨⟨k + 1, s, f, n, h, by omega, by have := HB4.out.1; omega, by have := HB4.out.2.1; omega, by have := HB4.out.2.2; omega, rfl, rfl, rfl, by rw [Wk.out]; go_num, S11.out⟩, msr' hlt _ Wk.out⟩
        · rw [hz]
          clear hz
          have HPw := hide' (HP.out w8)
          go_wp2_with fail
          refine HPw.out.mono ?_
          rintro e w9 ⟨rfl, hw9⟩
          replace hw9 := hw9.symm
          subst hw9
          have e2 := HVP.out
          obtain ⟨vf, hvf⟩ : ∃ vf : Int, wrap64 (vp + (f : Nat)) = vf := ⟨_, rfl⟩
          by_cases hq : vf = P
          · have hq' : vf = -4611686018427387904 := hq
            subst hq'
            clear hq
            go_wp2
            exact ⟨⟨k + 1, s, f, n, h, by omega, by have := HB4.out.1; omega, by have := HB4.out.2.1; omega, by have := HB4.out.2.2; omega, rfl, rfl, rfl, by rw [Wk.out]; go_num, S8.out⟩, msr' hlt _ Wk.out⟩
          · have hq' := neP hq
            have HQ := hide' hq
            have HVF := hide' hvf
            clear hq
            go_wp2_with fail
            refine HPw.out.mono ?_
            rintro e w9 ⟨rfl, hw9⟩
            replace hw9 := hw9.symm
            subst hw9
            obtain ⟨vg, hvg⟩ : ∃ vg : Int, wrap64 (vf + 1) = vg := ⟨_, rfl⟩
            by_cases hr : vg = P
            · have hr' : vg = -4611686018427387904 := hr
              subst hr'
              clear hr
              go_wp2
              exact ⟨⟨k + 1, s, f, n, h, by omega, by have := HB4.out.1; omega, by have := HB4.out.2.1; omega, by have := HB4.out.2.2; omega, rfl, rfl, rfl, by rw [Wk.out]; go_num, S8.out⟩, msr' hlt _ Wk.out⟩
            · have hr' := neP hr
              have HC := hide' (S8.out.leave (by have := HN.out; omega) (by rw [HVF.out]; exact HQ.out))
              clear hr
              go_wp2_with fail
              refine HC.out.mono ?_
              rintro e w10 ⟨rfl, q10⟩
              obtain ⟨n1, hn1⟩ : ∃ n1, n1 = n + 1 := ⟨_, rfl⟩
              rw [← hn1] at q10
              have HC2 := hide' (q10.trace (by have := HN.out; omega))
              have e1 := ssw2 hn1 (by have := HN.out; omega)
              have HN1 := hide' hn1
              clear HC q10 S8 hn1 e2 hvf hvg hq' hr'
              go_wp2_with fail
              refine HC2.out.mono ?_
              rintro e w11 ⟨ro, rc, rfl, q11⟩
              have S11 := hide' q11
              clear HC2 q11
              go_wp2
              exact ⟨⟨k + 1, s, f + 1, n1, h, by omega, by have := HB4.out.1; omega, by have := HB4.out.2.1; omega, by have := HB4.out.2.2; have := HN1.out; omega, rfl, rfl, by rw [Wf.out]; go_num, by rw [Wk.out]; go_num, S11.out⟩, msr' hlt _ Wk.out⟩
      · obtain rfl : k = ns.length := by omega
        have K := hide' hS.bel
        clear hS
        go_wp2
        go_ret
        exact ⟨rfl, K.out⟩
end M
end Go.Proofs.Ytnpdmeeolcjmlaa
