import Derived.Test.YtnpdmeeolcjmlaaRmE
set_option linter.unusedVariables false
set_option linter.unusedSimpArgs false
namespace Go.Proofs.Ytnpdmeeolcjmlaa
open Go.RowKit
namespace T
open M
theorem Rm.drewN {w w0 : World} {bg : Int} {N r x lb l1 l2 g tc : Nat} {ts : List Tk} {c f o : Nat} {D : Nat → Prop} {tr : List Ac} {bad : Nat} {oo : Option Addr} {oc : Nat} (h : Rm w0 bg N r x lb l1 l2 g tc ts c f o D tr bad oo oc w) (n : Nat) : Rm w0 bg N r x lb l1 l2 g tc ts c f o D tr bad oo oc (w.drewN n) :=
  ⟨h.mem.drewN n, h.len, h.hr, ((Turn.refl (fun _ => False) w).drewN n).row h.ord (fun _ _ q => q), h.dis, h.hL, h.k1, h.k2, ((Turn.refl (fun _ => False) w).drewN n).row h.row (fun _ _ q => q), h.wt, h.one, h.lr, h.bel.trans ⟨rfl, rfl, rfl, Nat.le_refl _, fun _ _ => rfl⟩⟩
theorem no_poison {b : Int} {len : Nat} (h1 : -9223372036854775808 ≤ b ∧ b ≤ 9223372036854775807) (hl : len ≤ 1048576) (h : ¬ (P - (len : Int) - 1 ≤ b ∧ b ≤ P)) : ∀ m : Nat, m ≤ len → wrap64 (b + (m : Nat)) ≠ P := by
  intro m hm e
  unfold P at *
  unfold wrap64 at e
  omega
theorem no_poison0 : ∀ m : Nat, m ≤ 1048576 → wrap64 (0 + (m : Nat)) ≠ P := by
  intro m hm e
  unfold P at e
  unfold wrap64 at e
  omega
theorem wrap_b {b : Int} (h1 : -9223372036854775808 ≤ b ∧ b ≤ 9223372036854775807) : wrap64 b = b := by unfold wrap64; omega
theorem wrap_p {len : Nat} (hl : len ≤ 1048576) : wrap64 (-4611686018427387904 - (len : Int)) = -4611686018427387904 - (len : Int) ∧ wrap64 (-4611686018427387904 - (len : Int) - 1) = -4611686018427387904 - (len : Int) - 1 := by
  constructor <;> (unfold wrap64; omega)
theorem Inv.ends {ts : List Tk} {c f o : Nat} (h : Inv ts c f o) (hf : f < 1999999999999) : ∃ f1 : Nat, wrap64 ((f : Int) + 1) = (f1 : Int) ∧ decide ((f1 : Int) < (o : Int)) = false ∧ ¬ ((f1 : Int) < (o : Int)) ∧ decide ((1 : Int) < (hc ts : Int)) = false ∧ ¬ ((1 : Int) < (hc ts : Int)) := by
  have h1 := h.hc_le
  have h2 : o ≤ f + 1 := by rcases h.ord with ⟨q, _⟩ | ⟨q, _⟩ <;> omega
  refine ⟨f + 1, by unfold wrap64; omega, decide_eq_false (by omega), by omega, decide_eq_false (by omega), by omega⟩
def ntk (tasks : Int) : Nat := 1 + (tasks % 8).toNat
theorem ntk_le (tasks : Int) : 1 ≤ ntk tasks ∧ ntk tasks ≤ 8 ∧ ((ntk tasks : Nat) : Int) = 1 + tasks % 8 := by
  have h3 := Int.emod_nonneg tasks (b := 8) (by omega)
  have h4 := Int.emod_lt_of_pos tasks (b := 8) (by omega)
  unfold ntk
  omega
theorem wsucF (k : Nat) (h : k < 1999999999999) : wrap64 ((k : Int) + 1) = (k : Int) + 1 := by unfold wrap64; omega
theorem range_cell {w : World} {B o oc : Nat} {oo : Option Addr} (h : w.ownsRow B 3 1 (.slice oo o oc) o (ivs ((List.range o).map fun (k : Nat) => (k : Int)))) {k : Nat} (hk : k < o) : ∃ g, oo = some ⟨g, 0, none⟩ ∧ w.cell? ⟨g, k, none⟩ = some (.int .i64 (k : Nat)) := by
  obtain ⟨g, cap', hv, _, _⟩ := h.form (by omega)
  simp only [Value.slice.injEq] at hv
  obtain ⟨rfl, _, rfl⟩ := hv
  refine ⟨g, rfl, ?_⟩
  have := row_cell h k (.int .i64 (k : Nat)) (by simp [ivs, hk])
  rw [show (⟨g, 0, none⟩ : Addr).add k = ⟨g, k, none⟩ by unfold Addr.add; split <;> simp_all] at this
  exact this
theorem Rn.drewN {w0 : World} {bg : Int} {r x lb l1 l2 g tc n k : Nat} {w : World} (h : Rn w0 bg r x lb l1 l2 g tc n k w) (nn : Nat) : Rn w0 bg r x lb l1 l2 g tc n k (w.drewN nn) := by
  obtain ⟨ts, c, f, o, D, tr, bad, oo, oc, hR, q⟩ := h
  exact ⟨ts, c, f, o, D, tr, bad, oo, oc, hR.drewN nn, q⟩
set_option maxRecDepth 100000 in
set_option maxHeartbeats 4000000 in
theorem turns_walk (tasks b0 : Int) (hb : -9223372036854775808 ≤ b0 ∧ b0 ≤ 9223372036854775807) (a a2 : Option Addr) (cap cap2 : Nat) (ns ns2 : List Int) (w : World) (hI : Ints w a ns) (hI2 : Ints w a2 ns2) (hl : ns.length ≤ 1048576) (hl2 : ns2.length ≤ 1048576) :
    Calls Try.prog 6 #[.int .i64 tasks, .int .i64 b0, .slice a ns.length cap, .slice a2 ns2.length cap2] w fun e w' => e = .returned (.bool true) ∧ Below w.heap.size w w' := by
  obtain ⟨n1, n2, n3⟩ := ntk_le tasks
  have Hp := hide' (pick_any tasks 8 w (by omega) (by omega))
  have hb1 := Int.emod_nonneg tasks (b := 8) (by omega)
  have hb2 := Int.emod_lt_of_pos tasks (b := 8) (by omega)
  have HN12 := hide' (And.intro n1 n2)
  have N3 := hide' n3
  clear n3 n1 n2
  generalize ntk tasks = n at *
  generalize hm : tasks % 8 = m at *
  have hb1' : 0 ≤ m := hb1
  clear hm
  have HI := hide' hI
  have HI2 := hide' hI2
  have HL := hide' hl
  have HBR := hide' hb
  obtain ⟨W1, W2⟩ := wrap_p hl
  obtain ⟨V1, hV1⟩ : ∃ V1 : Int, -4611686018427387904 - (ns.length : Int) = V1 := ⟨_, rfl⟩
  obtain ⟨V2, hV2⟩ : ∃ V2 : Int, V1 - 1 = V2 := ⟨_, rfl⟩
  have HV : Hid (P - (ns.length : Int) - 1 = V2) := hide' (by rw [← hV2, ← hV1]; rfl)
  have w1 : wrap64 (-4611686018427387904 - (ns.length : Int)) = V1 := by rw [W1, hV1]
  have w2 : wrap64 (V1 - 1) = V2 := by rw [← hV2, ← hV1, W2]
  clear hI hI2 hl hl2 W1 W2 hV1 hV2 hb
  by_cases hA : V2 ≤ b0
  · by_cases hB : b0 ≤ -4611686018427387904
    · have dA : decide (V2 ≤ b0) = true := decide_eq_true hA
      have dB : decide (b0 ≤ -4611686018427387904) = true := decide_eq_true hB
      go_enter Try.func6, Try.ntmps6
      go_wp2_with fail
      refine Hp.out.mono ?_
      rintro e wa ⟨rfl, hwa⟩
      replace hwa := hwa.symm
      subst hwa
      clear Hp
      go_wp2_with fail
      rw [← N3.out]
      have HR := hide' (room_any n HN12.out 0 (wrap_b (by omega)) w)
      have HPO : Hid (∀ m : Nat, m ≤ ns.length → wrap64 (0 + (m : Nat)) ≠ P) := hide' (fun m hm => no_poison0 m (by have := HL.out; omega))
      clear N3 hb1 hb2 hb1' w1 w2
      refine HR.out.mono ?_
      rintro e wb ⟨r, x, lb, l1, l2, g, tc, D, tr, bad, rfl, hR⟩
      obtain ⟨bg, HPB, hS⟩ : ∃ bg, Hid (∀ m : Nat, m ≤ ns.length → wrap64 (bg + (m : Nat)) ≠ P) ∧ Rn w bg r x lb l1 l2 g tc n 0 wb := ⟨0, HPO, _, _, _, _, _, _, _, _, _, hR, inv_start n, by simp, Nat.le_refl _, Nat.le_refl _⟩
      have S0 := hide' hS
      clear HR HPO hR hS
      go_wp2_with fail
      go_loopw [12] (fun i wx => ∃ k : Nat, k ≤ ns.length ∧ i = .int .i64 (k : Int) ∧ Rn w bg r x lb l1 l2 g tc n k wx) (fun i _ => ns.length - (intOf i).toNat)
      case atStart => exact ⟨0, by omega, rfl, S0.out⟩
      case round => as_aux_lemma =>
        obtain ⟨k, hk, rfl, hS⟩ := hrel
        have Sk := hide' hS
        by_cases hlt : k < ns.length
        · rcases HI.out with hI | ⟨ab, off, rfl, hab, hc⟩
          · rw [hI] at hlt; simp at hlt
          obtain ⟨ts0, c0, f0, o0, D0, tr0, bad0, oo0, oc0, hR0, _⟩ := hS
          have cw := (hR0.bel.cell (p := ⟨ab, off + k, none⟩) hab).trans (hc k hlt)
          have Hwk := hide' (wsucF k (by have := HL.out; omega))
          have hlt' : (k : Int) < (ns.length : Int) := by omega
          generalize ns.getD k 0 = z at *
          have hz1 := Int.emod_nonneg z (b := (n : Int)) (by have := HN12.out; omega)
          have hz2 := Int.emod_lt_of_pos z (b := (n : Int)) (by have := HN12.out; omega)
          have HPk := hide' (fun w => pick_any z (n : Int) w (by have := HN12.out; omega) (by have := HN12.out; omega))
          generalize z % (n : Int) = zi at *
          obtain ⟨i, rfl⟩ : ∃ i : Nat, zi = (i : Int) := ⟨zi.toNat, by omega⟩
          have Hin : Hid (i < n) := hide' (by omega)
          clear hc hz1 hz2
          have HKB := hide' (show k + 1 < 1999999999999 by have := HL.out; omega)
          have HMV := hide' (fun sy => move_all Sk.out i Hin.out HN12.out.2 (by have := HL.out; omega) (fun m hm => HPB.out m (by omega)) sy)
          by_cases hs : k < ns2.length
          · rcases HI2.out with hI2 | ⟨ab2, off2, rfl, hab2, hc2⟩
            · rw [hI2] at hs; simp at hs
            have hs' : (k : Int) < (ns2.length : Int) := by omega
            have cw2 := (hR0.bel.cell (p := ⟨ab2, off2 + k, none⟩) hab2).trans (hc2 k hs)
            generalize ns2.getD k 0 = y at *
            have HP6 := hide' (fun w => pick_any y 6 w (by omega) (by omega))
            clear hR0 hc2
            go_wp2_with fail
            refine (HP6.out _).mono ?_
            rintro e wc ⟨rfl, hwc⟩
            replace hwc := hwc.symm
            subst hwc
            generalize y % 6 = sy at *
            clear HP6 cw2
            go_wp2_with fail
            refine (HPk.out _).mono ?_
            rintro e wd ⟨rfl, hwd⟩
            replace hwd := hwd.symm
            subst hwd
            clear HPk cw
            go_wp2_with fail
            refine (HMV.out sy).mono ?_
            rintro e we ⟨rfl, hS'⟩
            have Sk' := hide' hS'
            obtain ⟨ts, c, f, o, D, tr, bad, oo, oc, hR, hV, hn, h1, h2⟩ := hS'
            have HQ := hide' (fun nn => holding_any (hR.drewN nn) (by have := HN12.out; omega))
            have c5 : we.cell? ⟨r, 5, none⟩ = some (.slice oo o oc) := by rw [Lib.cell_of_heap hR.hr]; rfl
            have c4 : we.cell? ⟨r, 4, none⟩ = some (.int .i64 (f : Nat)) := by rw [Lib.cell_of_heap hR.hr]; rfl
            obtain ⟨f1, g2, g3, g3', g1, g1'⟩ := hV.ends (Nat.lt_of_le_of_lt h2 (HKB.out))
            generalize hc ts = hcv at *
            clear hR hV hn h1 h2 HMV
            go_wp2_with fail
            go_quiet ((go_at_call 22; exact Calls.quiet_of_same (HQ.out _)))
            go_wp2
            exact ⟨⟨k + 1, hlt, by rw [Hwk.out]; go_num, Rn.drewN Sk'.out _⟩, msr' hlt _ Hwk.out⟩
          · have hs' : ¬ ((k : Int) < (ns2.length : Int)) := by omega
            clear hR0
            obtain ⟨sy, hsy⟩ : ∃ sy : Int, sy = 0 := ⟨_, rfl⟩
            have HMV := hide' (HMV.out sy)
            rw [hsy] at HMV
            clear hsy
            go_wp2_with fail
            refine (HPk.out _).mono ?_
            rintro e wd ⟨rfl, hwd⟩
            replace hwd := hwd.symm
            subst hwd
            clear HPk cw
            go_wp2_with fail
            refine (HMV.out).mono ?_
            rintro e we ⟨rfl, hS'⟩
            have Sk' := hide' hS'
            obtain ⟨ts, c, f, o, D, tr, bad, oo, oc, hR, hV, hn, h1, h2⟩ := hS'
            have HQ := hide' (fun nn => holding_any (hR.drewN nn) (by have := HN12.out; omega))
            have c5 : we.cell? ⟨r, 5, none⟩ = some (.slice oo o oc) := by rw [Lib.cell_of_heap hR.hr]; rfl
            have c4 : we.cell? ⟨r, 4, none⟩ = some (.int .i64 (f : Nat)) := by rw [Lib.cell_of_heap hR.hr]; rfl
            obtain ⟨f1, g2, g3, g3', g1, g1'⟩ := hV.ends (Nat.lt_of_le_of_lt h2 (HKB.out))
            generalize hc ts = hcv at *
            clear hR hV hn h1 h2 HMV
            go_wp2_with fail
            go_quiet ((go_at_call 22; exact Calls.quiet_of_same (HQ.out _)))
            go_wp2
            exact ⟨⟨k + 1, hlt, by rw [Hwk.out]; go_num, Rn.drewN Sk'.out _⟩, msr' hlt _ Hwk.out⟩
        · obtain rfl : k = ns.length := by omega
          obtain ⟨ts, c, f, o, D, tr, bad, oo, oc, hR, hV, hn, h1, h2⟩ := hS
          have HRm := hide' hR
          have c5 : wr.cell? ⟨r, 5, none⟩ = some (.slice oo o oc) := by rw [Lib.cell_of_heap hR.hr]; rfl
          have Ho : Hid (o < 1999999999999) := hide' (by have := HL.out; rcases hV.ord with ⟨q, _⟩ | ⟨q, _⟩ <;> omega)
          clear hR hV hn h1 h2
          go_wp2_with fail
          go_loopw [16] (fun i wx => ∃ k : Nat, k ≤ o ∧ i = .int .i64 (k : Int) ∧ wx = wr) (fun i _ => o - (intOf i).toNat)
          case atStart => exact ⟨0, by omega, rfl, rfl⟩
          case round =>
            obtain ⟨k, hk2, rfl, hwx⟩ := hrel
            replace hwx := hwx.symm
            subst hwx
            by_cases hlt2 : k < o
            · obtain ⟨og, rfl, co⟩ := range_cell HRm.out.ord hlt2
              have hlt3 : (k : Int) < (o : Int) := by omega
              have Hwk := hide' (wsucF k (by have := Ho.out; omega))
              go_wp2
              exact ⟨⟨k + 1, by omega, by rw [Hwk.out]; go_num, trivial⟩, msr' hlt2 _ Hwk.out⟩
            · obtain rfl : k = o := by omega
              go_wp2
              go_ret
              exact ⟨rfl, HRm.out.bel⟩
    · have dA : decide (V2 ≤ b0) = true := decide_eq_true hA
      have dB : decide (b0 ≤ -4611686018427387904) = false := decide_eq_false hB
      have HNP : Hid (∀ m : Nat, m ≤ ns.length → wrap64 (b0 + (m : Nat)) ≠ P) := hide' (no_poison HBR.out HL.out (fun q => hB q.2))
      go_enter Try.func6, Try.ntmps6
      go_wp2_with fail
      refine Hp.out.mono ?_
      rintro e wa ⟨rfl, hwa⟩
      replace hwa := hwa.symm
      subst hwa
      clear Hp
      go_wp2_with fail
      rw [← N3.out]
      have HR := hide' (room_any n HN12.out b0 (wrap_b HBR.out) w)
      have HPO : Hid (∀ m : Nat, m ≤ ns.length → wrap64 (b0 + (m : Nat)) ≠ P) := hide' (HNP.out)
      clear N3 hb1 hb2 hb1' w1 w2
      refine HR.out.mono ?_
      rintro e wb ⟨r, x, lb, l1, l2, g, tc, D, tr, bad, rfl, hR⟩
      obtain ⟨bg, HPB, hS⟩ : ∃ bg, Hid (∀ m : Nat, m ≤ ns.length → wrap64 (bg + (m : Nat)) ≠ P) ∧ Rn w bg r x lb l1 l2 g tc n 0 wb := ⟨b0, HPO, _, _, _, _, _, _, _, _, _, hR, inv_start n, by simp, Nat.le_refl _, Nat.le_refl _⟩
      have S0 := hide' hS
      clear HR HPO hR hS
      go_wp2_with fail
      go_loopw [12] (fun i wx => ∃ k : Nat, k ≤ ns.length ∧ i = .int .i64 (k : Int) ∧ Rn w bg r x lb l1 l2 g tc n k wx) (fun i _ => ns.length - (intOf i).toNat)
      case atStart => exact ⟨0, by omega, rfl, S0.out⟩
      case round => as_aux_lemma =>
        obtain ⟨k, hk, rfl, hS⟩ := hrel
        have Sk := hide' hS
        by_cases hlt : k < ns.length
        · rcases HI.out with hI | ⟨ab, off, rfl, hab, hc⟩
          · rw [hI] at hlt; simp at hlt
          obtain ⟨ts0, c0, f0, o0, D0, tr0, bad0, oo0, oc0, hR0, _⟩ := hS
          have cw := (hR0.bel.cell (p := ⟨ab, off + k, none⟩) hab).trans (hc k hlt)
          have Hwk := hide' (wsucF k (by have := HL.out; omega))
          have hlt' : (k : Int) < (ns.length : Int) := by omega
          generalize ns.getD k 0 = z at *
          have hz1 := Int.emod_nonneg z (b := (n : Int)) (by have := HN12.out; omega)
          have hz2 := Int.emod_lt_of_pos z (b := (n : Int)) (by have := HN12.out; omega)
          have HPk := hide' (fun w => pick_any z (n : Int) w (by have := HN12.out; omega) (by have := HN12.out; omega))
          generalize z % (n : Int) = zi at *
          obtain ⟨i, rfl⟩ : ∃ i : Nat, zi = (i : Int) := ⟨zi.toNat, by omega⟩
          have Hin : Hid (i < n) := hide' (by omega)
          clear hc hz1 hz2
          have HKB := hide' (show k + 1 < 1999999999999 by have := HL.out; omega)
          have HMV := hide' (fun sy => move_all Sk.out i Hin.out HN12.out.2 (by have := HL.out; omega) (fun m hm => HPB.out m (by omega)) sy)
          by_cases hs : k < ns2.length
          · rcases HI2.out with hI2 | ⟨ab2, off2, rfl, hab2, hc2⟩
            · rw [hI2] at hs; simp at hs
            have hs' : (k : Int) < (ns2.length : Int) := by omega
            have cw2 := (hR0.bel.cell (p := ⟨ab2, off2 + k, none⟩) hab2).trans (hc2 k hs)
            generalize ns2.getD k 0 = y at *
            have HP6 := hide' (fun w => pick_any y 6 w (by omega) (by omega))
            clear hR0 hc2
            go_wp2_with fail
            refine (HP6.out _).mono ?_
            rintro e wc ⟨rfl, hwc⟩
            replace hwc := hwc.symm
            subst hwc
            generalize y % 6 = sy at *
            clear HP6 cw2
            go_wp2_with fail
            refine (HPk.out _).mono ?_
            rintro e wd ⟨rfl, hwd⟩
            replace hwd := hwd.symm
            subst hwd
            clear HPk cw
            go_wp2_with fail
            refine (HMV.out sy).mono ?_
            rintro e we ⟨rfl, hS'⟩
            have Sk' := hide' hS'
            obtain ⟨ts, c, f, o, D, tr, bad, oo, oc, hR, hV, hn, h1, h2⟩ := hS'
            have HQ := hide' (fun nn => holding_any (hR.drewN nn) (by have := HN12.out; omega))
            have c5 : we.cell? ⟨r, 5, none⟩ = some (.slice oo o oc) := by rw [Lib.cell_of_heap hR.hr]; rfl
            have c4 : we.cell? ⟨r, 4, none⟩ = some (.int .i64 (f : Nat)) := by rw [Lib.cell_of_heap hR.hr]; rfl
            obtain ⟨f1, g2, g3, g3', g1, g1'⟩ := hV.ends (Nat.lt_of_le_of_lt h2 (HKB.out))
            generalize hc ts = hcv at *
            clear hR hV hn h1 h2 HMV
            go_wp2_with fail
            go_quiet ((go_at_call 22; exact Calls.quiet_of_same (HQ.out _)))
            go_wp2
            exact ⟨⟨k + 1, hlt, by rw [Hwk.out]; go_num, Rn.drewN Sk'.out _⟩, msr' hlt _ Hwk.out⟩
          · have hs' : ¬ ((k : Int) < (ns2.length : Int)) := by omega
            clear hR0
            obtain ⟨sy, hsy⟩ : ∃ sy : Int, sy = 0 := ⟨_, rfl⟩
            have HMV := hide' (HMV.out sy)
            rw [hsy] at HMV
            clear hsy
            go_wp2_with fail
            refine (HPk.out _).mono ?_
            rintro e wd ⟨rfl, hwd⟩
            replace hwd := hwd.symm
            subst hwd
            clear HPk cw
            go_wp2_with fail
            refine (HMV.out).mono ?_
            rintro e we ⟨rfl, hS'⟩
            have Sk' := hide' hS'
            obtain ⟨ts, c, f, o, D, tr, bad, oo, oc, hR, hV, hn, h1, h2⟩ := hS'
            have HQ := hide' (fun nn => holding_any (hR.drewN nn) (by have := HN12.out; omega))
            have c5 : we.cell? ⟨r, 5, none⟩ = some (.slice oo o oc) := by rw [Lib.cell_of_heap hR.hr]; rfl
            have c4 : we.cell? ⟨r, 4, none⟩ = some (.int .i64 (f : Nat)) := by rw [Lib.cell_of_heap hR.hr]; rfl
            obtain ⟨f1, g2, g3, g3', g1, g1'⟩ := hV.ends (Nat.lt_of_le_of_lt h2 (HKB.out))
            generalize hc ts = hcv at *
            clear hR hV hn h1 h2 HMV
            go_wp2_with fail
            go_quiet ((go_at_call 22; exact Calls.quiet_of_same (HQ.out _)))
            go_wp2
            exact ⟨⟨k + 1, hlt, by rw [Hwk.out]; go_num, Rn.drewN Sk'.out _⟩, msr' hlt _ Hwk.out⟩
        · obtain rfl : k = ns.length := by omega
          obtain ⟨ts, c, f, o, D, tr, bad, oo, oc, hR, hV, hn, h1, h2⟩ := hS
          have HRm := hide' hR
          have c5 : wr.cell? ⟨r, 5, none⟩ = some (.slice oo o oc) := by rw [Lib.cell_of_heap hR.hr]; rfl
          have Ho : Hid (o < 1999999999999) := hide' (by have := HL.out; rcases hV.ord with ⟨q, _⟩ | ⟨q, _⟩ <;> omega)
          clear hR hV hn h1 h2
          go_wp2_with fail
          go_loopw [16] (fun i wx => ∃ k : Nat, k ≤ o ∧ i = .int .i64 (k : Int) ∧ wx = wr) (fun i _ => o - (intOf i).toNat)
          case atStart => exact ⟨0, by omega, rfl, rfl⟩
          case round =>
            obtain ⟨k, hk2, rfl, hwx⟩ := hrel
            replace hwx := hwx.symm
            subst hwx
            by_cases hlt2 : k < o
            · obtain ⟨og, rfl, co⟩ := range_cell HRm.out.ord hlt2
              have hlt3 : (k : Int) < (o : Int) := by omega
              have Hwk := hide' (wsucF k (by have := Ho.out; omega))
              go_wp2
              exact ⟨⟨k + 1, by omega, by rw [Hwk.out]; go_num, trivial⟩, msr' hlt2 _ Hwk.out⟩
            · obtain rfl : k = o := by omega
              go_wp2
              go_ret
              exact ⟨rfl, HRm.out.bel⟩
  · have dA : decide (V2 ≤ b0) = false := decide_eq_false hA
    have HNP : Hid (∀ m : Nat, m ≤ ns.length → wrap64 (b0 + (m : Nat)) ≠ P) := hide' (no_poison HBR.out HL.out (fun q => hA (by rw [← HV.out]; exact q.1)))
    go_enter Try.func6, Try.ntmps6
    go_wp2_with fail
    refine Hp.out.mono ?_
    rintro e wa ⟨rfl, hwa⟩
    replace hwa := hwa.symm
    subst hwa
    clear Hp
    go_wp2_with fail
    rw [← N3.out]
    have HR := hide' (room_any n HN12.out b0 (wrap_b HBR.out) w)
    have HPO : Hid (∀ m : Nat, m ≤ ns.length → wrap64 (b0 + (m : Nat)) ≠ P) := hide' (HNP.out)
    clear N3 hb1 hb2 hb1' w1 w2
    refine HR.out.mono ?_
    rintro e wb ⟨r, x, lb, l1, l2, g, tc, D, tr, bad, rfl, hR⟩
    obtain ⟨bg, HPB, hS⟩ : ∃ bg, Hid (∀ m : Nat, m ≤ ns.length → wrap64 (bg + (m : Nat)) ≠ P) ∧ Rn w bg r x lb l1 l2 g tc n 0 wb := ⟨b0, HPO, _, _, _, _, _, _, _, _, _, hR, inv_start n, by simp, Nat.le_refl _, Nat.le_refl _⟩
    have S0 := hide' hS
    clear HR HPO hR hS
    go_wp2_with fail
    go_loopw [12] (fun i wx => ∃ k : Nat, k ≤ ns.length ∧ i = .int .i64 (k : Int) ∧ Rn w bg r x lb l1 l2 g tc n k wx) (fun i _ => ns.length - (intOf i).toNat)
    case atStart => exact ⟨0, by omega, rfl, S0.out⟩
    case round => as_aux_lemma =>
      obtain ⟨k, hk, rfl, hS⟩ := hrel
      have Sk := hide' hS
      by_cases hlt : k < ns.length
      · rcases HI.out with hI | ⟨ab, off, rfl, hab, hc⟩
        · rw [hI] at hlt; simp at hlt
        obtain ⟨ts0, c0, f0, o0, D0, tr0, bad0, oo0, oc0, hR0, _⟩ := hS
        have cw := (hR0.bel.cell (p := ⟨ab, off + k, none⟩) hab).trans (hc k hlt)
        have Hwk := hide' (wsucF k (by have := HL.out; omega))
        have hlt' : (k : Int) < (ns.length : Int) := by omega
        generalize ns.getD k 0 = z at *
        have hz1 := Int.emod_nonneg z (b := (n : Int)) (by have := HN12.out; omega)
        have hz2 := Int.emod_lt_of_pos z (b := (n : Int)) (by have := HN12.out; omega)
        have HPk := hide' (fun w => pick_any z (n : Int) w (by have := HN12.out; omega) (by have := HN12.out; omega))
        generalize z % (n : Int) = zi at *
        obtain ⟨i, rfl⟩ : ∃ i : Nat, zi = (i : Int) := ⟨zi.toNat, by omega⟩
        have Hin : Hid (i < n) := hide' (by omega)
        clear hc hz1 hz2
        have HKB := hide' (show k + 1 < 1999999999999 by have := HL.out; omega)
        have HMV := hide' (fun sy => move_all Sk.out i Hin.out HN12.out.2 (by have := HL.out; omega) (fun m hm => HPB.out m (by omega)) sy)
        by_cases hs : k < ns2.length
        · rcases HI2.out with hI2 | ⟨ab2, off2, rfl, hab2, hc2⟩
          · rw [hI2] at hs; simp at hs
          have hs' : (k : Int) < (ns2.length : Int) := by omega
          have cw2 := (hR0.bel.cell (p := ⟨ab2, off2 + k, none⟩) hab2).trans (hc2 k hs)
          generalize ns2.getD k 0 = y at *
          have HP6 := hide' (fun w => pick_any y 6 w (by omega) (by omega))
          clear hR0 hc2
          go_wp2_with fail
          refine (HP6.out _).mono ?_
          rintro e wc ⟨rfl, hwc⟩
          replace hwc := hwc.symm
          subst hwc
          generalize y % 6 = sy at *
          clear HP6 cw2
          go_wp2_with fail
          refine (HPk.out _).mono ?_
          rintro e wd ⟨rfl, hwd⟩
          replace hwd := hwd.symm
          subst hwd
          clear HPk cw
          go_wp2_with fail
          refine (HMV.out sy).mono ?_
          rintro e we ⟨rfl, hS'⟩
          have Sk' := hide' hS'
          obtain ⟨ts, c, f, o, D, tr, bad, oo, oc, hR, hV, hn, h1, h2⟩ := hS'
          have HQ := hide' (fun nn => holding_any (hR.drewN nn) (by have := HN12.out; omega))
          have c5 : we.cell? ⟨r, 5, none⟩ = some (.slice oo o oc) := by rw [Lib.cell_of_heap hR.hr]; rfl
          have c4 : we.cell? ⟨r, 4, none⟩ = some (.int .i64 (f : Nat)) := by rw [Lib.cell_of_heap hR.hr]; rfl
          obtain ⟨f1, g2, g3, g3', g1, g1'⟩ := hV.ends (Nat.lt_of_le_of_lt h2 (HKB.out))
          generalize hc ts = hcv at *
          clear hR hV hn h1 h2 HMV
          go_wp2_with fail
          go_quiet ((go_at_call 22; exact Calls.quiet_of_same (HQ.out _)))
          go_wp2
          exact ⟨⟨k + 1, hlt, by rw [Hwk.out]; go_num, Rn.drewN Sk'.out _⟩, msr' hlt _ Hwk.out⟩
        · have hs' : ¬ ((k : Int) < (ns2.length : Int)) := by omega
          clear hR0
          obtain ⟨sy, hsy⟩ : ∃ sy : Int, sy = 0 := ⟨_, rfl⟩
          have HMV := hide' (HMV.out sy)
          rw [hsy] at HMV
          clear hsy
          go_wp2_with fail
          refine (HPk.out _).mono ?_
          rintro e wd ⟨rfl, hwd⟩
          replace hwd := hwd.symm
          subst hwd
          clear HPk cw
          go_wp2_with fail
          refine (HMV.out).mono ?_
          rintro e we ⟨rfl, hS'⟩
          have Sk' := hide' hS'
          obtain ⟨ts, c, f, o, D, tr, bad, oo, oc, hR, hV, hn, h1, h2⟩ := hS'
          have HQ := hide' (fun nn => holding_any (hR.drewN nn) (by have := HN12.out; omega))
          have c5 : we.cell? ⟨r, 5, none⟩ = some (.slice oo o oc) := by rw [Lib.cell_of_heap hR.hr]; rfl
          have c4 : we.cell? ⟨r, 4, none⟩ = some (.int .i64 (f : Nat)) := by rw [Lib.cell_of_heap hR.hr]; rfl
          obtain ⟨f1, g2, g3, g3', g1, g1'⟩ := hV.ends (Nat.lt_of_le_of_lt h2 (HKB.out))
          generalize hc ts = hcv at *
          clear hR hV hn h1 h2 HMV
          go_wp2_with fail
          go_quiet ((go_at_call 22; exact Calls.quiet_of_same (HQ.out _)))
          go_wp2
          exact ⟨⟨k + 1, hlt, by rw [Hwk.out]; go_num, Rn.drewN Sk'.out _⟩, msr' hlt _ Hwk.out⟩
      · obtain rfl : k = ns.length := by omega
        obtain ⟨ts, c, f, o, D, tr, bad, oo, oc, hR, hV, hn, h1, h2⟩ := hS
        have HRm := hide' hR
        have c5 : wr.cell? ⟨r, 5, none⟩ = some (.slice oo o oc) := by rw [Lib.cell_of_heap hR.hr]; rfl
        have Ho : Hid (o < 1999999999999) := hide' (by have := HL.out; rcases hV.ord with ⟨q, _⟩ | ⟨q, _⟩ <;> omega)
        clear hR hV hn h1 h2
        go_wp2_with fail
        go_loopw [16] (fun i wx => ∃ k : Nat, k ≤ o ∧ i = .int .i64 (k : Int) ∧ wx = wr) (fun i _ => o - (intOf i).toNat)
        case atStart => exact ⟨0, by omega, rfl, rfl⟩
        case round =>
          obtain ⟨k, hk2, rfl, hwx⟩ := hrel
          replace hwx := hwx.symm
          subst hwx
          by_cases hlt2 : k < o
          · obtain ⟨og, rfl, co⟩ := range_cell HRm.out.ord hlt2
            have hlt3 : (k : Int) < (o : Int) := by omega
            have Hwk := hide' (wsucF k (by have := Ho.out; omega))
            go_wp2
            exact ⟨⟨k + 1, by omega, by rw [Hwk.out]; go_num, trivial⟩, msr' hlt2 _ Hwk.out⟩
          · obtain rfl : k = o := by omega
            go_wp2
            go_ret
            exact ⟨rfl, HRm.out.bel⟩
end T
end Go.Proofs.Ytnpdmeeolcjmlaa
