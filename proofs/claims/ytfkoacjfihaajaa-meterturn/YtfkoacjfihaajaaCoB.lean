import Derived.Test.YtfkoacjfihaajaaCoA
set_option linter.unusedVariables false
set_option linter.unusedSimpArgs false
namespace Go.Proofs.Ytfkoacjfihaajaa
open Go.RowKit
namespace N
open Fl M
theorem wrapI {x : Int} (h : -9223372036854775808 ≤ x ∧ x ≤ 9223372036854775807) : wrap64 x = x := by unfold wrap64; omega
/-- what a round adds to the counts -/
theorem cnt_step {l : List Int} {k : Nat} {z : Int} (hz : l[k]? = some z) (hl : l.length ≤ 17592186044000) : re (l.take (k + 1)) = re (l.take k) + cr z ∧ im (l.take (k + 1)) = im (l.take k) + ci z ∧ (-17592186044001 ≤ re (l.take k) ∧ re (l.take k) ≤ 17592186044001) ∧ (-17592186044001 ≤ im (l.take k) ∧ im (l.take k) ≤ 17592186044001) := by
  have s1 := take_le l k
  have hk := (List.getElem?_eq_some_iff.1 hz).1
  rw [take_one hz, re_add, im_add, re_one, im_one]
  exact ⟨rfl, rfl, by omega, by omega⟩
theorem tmod4 {z : Int} : (Int.tmod z 4 < 0 ∧ wrap64 (Int.tmod z 4 + 4) = z % 4) ∨ (¬ (Int.tmod z 4 < 0) ∧ Int.tmod z 4 = z % 4) := by
  by_cases h : Int.tmod z 4 < 0
  · refine .inl ⟨h, ?_⟩
    have h1 := Int.emod_nonneg z (b := 4) (by omega)
    have h2 := Int.emod_lt_of_pos z (b := 4) (by omega)
    rw [spt_neg (by omega) h]
    exact wrapI (by omega)
  · exact .inr ⟨h, spt_pos (by omega) h⟩
set_option maxRecDepth 100000 in
set_option maxHeartbeats 4000000 in
theorem rcompass_any (a : Option Addr) (cap : Nat) (l : List Int) (w : World) (hI : Rw 1 iarr w a l) (hl : l.length ≤ 17592186044000) :
    Calls Try.prog 28 #[.slice a l.length cap] w fun e w' => e = .returned (.tuple #[.float .f64 (floatOfInt .f64 (re l)), .float .f64 (floatOfInt .f64 (im l))]) ∧ w' = w := by
  have HI := hide' hI
  have HL := hide' hl
  clear hI hl
  go_enter Try.func28, Try.ntmps28
  go_wp2_with fail
  go_loopw [4, 5, 6] (fun x y i wx => ∃ k : Nat, x = .int .i64 (re (l.take k)) ∧ y = .int .i64 (im (l.take k)) ∧ i = .int .i64 (k : Int) ∧ k ≤ l.length ∧ wx = w) (fun _ _ i _ => l.length - (intOf i).toNat)
  case atStart => exact ⟨0, rfl, rfl, rfl, Nat.zero_le _, rfl⟩
  case round =>
    obtain ⟨k, rfl, rfl, rfl, hk, rfl⟩ := hrel
    by_cases hlt : k < l.length
    · have hlt' : (k : Int) < (l.length : Int) := by omega
      obtain ⟨z, hz⟩ : ∃ z, l[k]? = some z := ⟨_, List.getElem?_eq_getElem hlt⟩
      obtain ⟨b, off, rfl, hb, c0⟩ := icell HI.out hz
      have hst := cnt_step hz HL.out
      obtain ⟨h1, h2, b1, b2⟩ := hst
      obtain ⟨R, hR⟩ : ∃ R, R = re (l.take k) := ⟨_, rfl⟩
      obtain ⟨I, hI⟩ : ∃ I, I = im (l.take k) := ⟨_, rfl⟩
      rw [← hR] at h1 b1 ⊢
      rw [← hI] at h2 b2 ⊢
      have HE := hide' (And.intro h1 h2)
      have Hlt := hide' hlt
      have Hms := hide' (msr' hlt _ rfl)
      have hkb := HL.out
      have e1 := hide' (wsucN k (by omega))
      have w1 := wrapI (x := R + 1) (by omega)
      have w2 := wrapI (x := R - 1) (by omega)
      have w3 := wrapI (x := I + 1) (by omega)
      have w4 := wrapI (x := I - 1) (by omega)
      have HW := hide' (And.intro (And.intro w1 w2) (And.intro w3 w4))
      obtain ⟨T, hT⟩ : ∃ T, T = Int.tmod z 4 := ⟨_, rfl⟩
      have ht := tmod4 (z := z)
      rw [← hT] at ht
      have hT' := hT.symm
      clear hz hb hlt hk hkb h1 h2 hR hI b1 b2 w1 w2 w3 w4 hT
      have ht' := hT'
      clear hT'
      rcases four_ways z with ⟨h, hc, hi⟩ | ⟨h, hc, hi⟩ | ⟨h, hc, hi⟩ | ⟨h, hc, hi⟩
      · replace hc := hide' hc
        replace hi := hide' hi
        rw [h] at ht
        clear h
        rcases ht with ⟨q1, q2⟩ | ⟨q1, q2⟩
        ·
          obtain ⟨⟨w1, w2⟩, w3, w4⟩ := HW.out
          go_wp2
          clear w1 w2 w3 w4 q1 q2 ht'
          exact ⟨⟨k + 1, congrArg (Value.int .i64) (by rw [HE.out.1, hc.out]; first | omega | rw [HW.out.1.1] | (rw [HW.out.1.2]; rfl)), congrArg (Value.int .i64) (by rw [HE.out.2, hi.out]; first | omega | rw [HW.out.2.1] | (rw [HW.out.2.2]; rfl)), by first | rfl | (rw [e1.out]), Hlt.out, trivial⟩, by first | exact Hms.out | (rw [e1.out]; exact Hms.out)⟩
        ·
          obtain ⟨⟨w1, w2⟩, w3, w4⟩ := HW.out
          go_wp2
          clear w1 w2 w3 w4 q1 q2 ht'
          exact ⟨⟨k + 1, congrArg (Value.int .i64) (by rw [HE.out.1, hc.out]; first | omega | rw [HW.out.1.1] | (rw [HW.out.1.2]; rfl)), congrArg (Value.int .i64) (by rw [HE.out.2, hi.out]; first | omega | rw [HW.out.2.1] | (rw [HW.out.2.2]; rfl)), by first | rfl | (rw [e1.out]), Hlt.out, trivial⟩, by first | exact Hms.out | (rw [e1.out]; exact Hms.out)⟩
      · replace hc := hide' hc
        replace hi := hide' hi
        rw [h] at ht
        clear h
        rcases ht with ⟨q1, q2⟩ | ⟨q1, q2⟩
        ·
          obtain ⟨⟨w1, w2⟩, w3, w4⟩ := HW.out
          go_wp2
          clear w1 w2 w3 w4 q1 q2 ht'
          exact ⟨⟨k + 1, congrArg (Value.int .i64) (by rw [HE.out.1, hc.out]; first | omega | rw [HW.out.1.1] | (rw [HW.out.1.2]; rfl)), congrArg (Value.int .i64) (by rw [HE.out.2, hi.out]; first | omega | rw [HW.out.2.1] | (rw [HW.out.2.2]; rfl)), by first | rfl | (rw [e1.out]), Hlt.out, trivial⟩, by first | exact Hms.out | (rw [e1.out]; exact Hms.out)⟩
        ·
          obtain ⟨⟨w1, w2⟩, w3, w4⟩ := HW.out
          go_wp2
          clear w1 w2 w3 w4 q1 q2 ht'
          exact ⟨⟨k + 1, congrArg (Value.int .i64) (by rw [HE.out.1, hc.out]; first | omega | rw [HW.out.1.1] | (rw [HW.out.1.2]; rfl)), congrArg (Value.int .i64) (by rw [HE.out.2, hi.out]; first | omega | rw [HW.out.2.1] | (rw [HW.out.2.2]; rfl)), by first | rfl | (rw [e1.out]), Hlt.out, trivial⟩, by first | exact Hms.out | (rw [e1.out]; exact Hms.out)⟩
      · replace hc := hide' hc
        replace hi := hide' hi
        rw [h] at ht
        clear h
        rcases ht with ⟨q1, q2⟩ | ⟨q1, q2⟩
        ·
          obtain ⟨⟨w1, w2⟩, w3, w4⟩ := HW.out
          go_wp2
          clear w1 w2 w3 w4 q1 q2 ht'
          exact ⟨⟨k + 1, congrArg (Value.int .i64) (by rw [HE.out.1, hc.out]; first | omega | rw [HW.out.1.1] | (rw [HW.out.1.2]; rfl)), congrArg (Value.int .i64) (by rw [HE.out.2, hi.out]; first | omega | rw [HW.out.2.1] | (rw [HW.out.2.2]; rfl)), by first | rfl | (rw [e1.out]), Hlt.out, trivial⟩, by first | exact Hms.out | (rw [e1.out]; exact Hms.out)⟩
        ·
          obtain ⟨⟨w1, w2⟩, w3, w4⟩ := HW.out
          go_wp2
          clear w1 w2 w3 w4 q1 q2 ht'
          exact ⟨⟨k + 1, congrArg (Value.int .i64) (by rw [HE.out.1, hc.out]; first | omega | rw [HW.out.1.1] | (rw [HW.out.1.2]; rfl)), congrArg (Value.int .i64) (by rw [HE.out.2, hi.out]; first | omega | rw [HW.out.2.1] | (rw [HW.out.2.2]; rfl)), by first | rfl | (rw [e1.out]), Hlt.out, trivial⟩, by first | exact Hms.out | (rw [e1.out]; exact Hms.out)⟩
      · replace hc := hide' hc
        replace hi := hide' hi
        rw [h] at ht
        clear h
        rcases ht with ⟨q1, q2⟩ | ⟨q1, q2⟩
        ·
          obtain ⟨⟨w1, w2⟩, w3, w4⟩ := HW.out
          go_wp2
          clear w1 w2 w3 w4 q1 q2 ht'
          exact ⟨⟨k + 1, congrArg (Value.int .i64) (by rw [HE.out.1, hc.out]; first | omega | rw [HW.out.1.1] | (rw [HW.out.1.2]; rfl)), congrArg (Value.int .i64) (by rw [HE.out.2, hi.out]; first | omega | rw [HW.out.2.1] | (rw [HW.out.2.2]; rfl)), by first | rfl | (rw [e1.out]), Hlt.out, trivial⟩, by first | exact Hms.out | (rw [e1.out]; exact Hms.out)⟩
        ·
          obtain ⟨⟨w1, w2⟩, w3, w4⟩ := HW.out
          go_wp2
          clear w1 w2 w3 w4 q1 q2 ht'
          exact ⟨⟨k + 1, congrArg (Value.int .i64) (by rw [HE.out.1, hc.out]; first | omega | rw [HW.out.1.1] | (rw [HW.out.1.2]; rfl)), congrArg (Value.int .i64) (by rw [HE.out.2, hi.out]; first | omega | rw [HW.out.2.1] | (rw [HW.out.2.2]; rfl)), by first | rfl | (rw [e1.out]), Hlt.out, trivial⟩, by first | exact Hms.out | (rw [e1.out]; exact Hms.out)⟩
    · obtain rfl : k = l.length := by omega
      rw [List.take_length]
      clear hlt hk
      go_wp2
      go_ret2
      exact ⟨rfl, rfl⟩
set_option maxRecDepth 100000 in
set_option maxHeartbeats 2000000 in
theorem compass_walk (a : Option Addr) (cap : Nat) (l : List Int) (w : World) (hI : Rw 1 iarr w a l) (hl : l.length ≤ 17592186043904) (hn : a = none → cap = 0) (hc : l.length ≤ cap) :
    Calls Try.prog 7 #[.slice a l.length cap] w fun e w' => e = .returned (.bool true) ∧ Below w.heap.size w w' := by
  have HI := hide' (fun w' (b : Below w.heap.size w w') => hI.below b)
  have HR := hide' hI
  have HL := hide' (And.intro hl (And.intro hn hc))
  clear hI hl hn hc
  go_enter Try.func7, Try.ntmps7
  go_wp2_with (at_builtin; refine wpList_all (arr := iarr) ha_i Try.underlying50 info3 rfl (by omega) _ rfl _ _ rfl rfl rfl HL.out.2.1 HL.out.2.2 HR.out one_i (by have := HL.out.1; unfold maxLen; omega) (by have := HL.out.1; omega) ?_; intro v1 w1 o1 b1)
  obtain ⟨ao, c, rfl, hc, _, _⟩ := o1.form
  have HK := hide' (And.intro o1 (And.intro hc b1))
  clear o1 b1 hc
  have C1 := hide' (compass_any ao c l w1 (HK.out.1.rw' ha_i) (by have := HL.out.1; omega))
  have C2 := hide' (rcompass_any a cap l w1 (HI.out _ HK.out.2.2) (by have := HL.out.1; omega))
  go_wp2_with fail
  refine C1.out.mono ?_
  rintro e w2 ⟨X, Y, rfl, HXY, rfl⟩
  go_wp2_with fail
  refine C2.out.mono ?_
  rintro e w3 ⟨rfl, rfl⟩
  have hs := size_le l
  have hl := HL.out.1
  have o1 := fin_same HXY.out.1 (int_fin (n := re l) (by omega))
  have o2 := fin_same HXY.out.2 (int_fin (n := im l) (by omega))
  rw [show FloatKind.f64.nearest (re l) = floatOfInt .f64 (re l) from rfl] at o1
  rw [show FloatKind.f64.nearest (im l) = floatOfInt .f64 (im l) from rfl] at o2
  have HO := hide' (And.intro o1 o2)
  clear C1 C2 HXY o1 o2 hs hl HR
  generalize floatOfInt .f64 (re l) = U at *
  generalize floatOfInt .f64 (im l) = V' at *
  go_wp2_with fail
  go_loopw [7] (fun i wx => ∃ k m : Nat, i = .int .i64 (k : Int) ∧ k ≤ l.length ∧ wx = w3.drewN m) (fun i _ => l.length - (intOf i).toNat)
  case atStart => exact ⟨0, 0, rfl, Nat.zero_le _, rfl⟩
  case round =>
    obtain ⟨k, m, rfl, hk, rfl⟩ := hrel
    by_cases hlt : k < l.length
    · have hlt' : (k : Int) < (l.length : Int) := by omega
      obtain ⟨z, hz⟩ : ∃ z, l[k]? = some z := ⟨_, List.getElem?_eq_getElem hlt⟩
      obtain ⟨b1, off1, e1, _, c1⟩ := icell (HI.out _ HK.out.2.2) hz
      obtain ⟨b2, off2, e2, _, c2⟩ := icell (HK.out.1.rw' ha_i) hz
      have Hlt := hide' hlt
      have hkb := HL.out.1
      have ek := hide' (wsucN k (by omega))
      subst e1
      subst e2
      clear hz hlt hk hkb
      replace c1 : (w3.drewN m).cell? ⟨b1, off1 + k, none⟩ = some (.int .i64 z) := c1
      replace c2 : (w3.drewN m).cell? ⟨b2, off2 + k, none⟩ = some (.int .i64 z) := c2
      have HWW : Hid (∀ n, (w3.drewN m).drewN n = w3.drewN (m + n)) := hide' (fun n => World.drewN_drewN _ _ _)
      generalize w3.drewN m = W at *
      go_wp2_with fail
      go_quiet (fail)
      go_wp2
      exact ⟨⟨k + 1, _, by first | rfl | (rw [ek.out]), Hlt.out, HWW.out _⟩, by first | exact msr' Hlt.out _ rfl | (exact msr' Hlt.out _ (ek.out.trans (by omega)))⟩
    · obtain rfl : k = l.length := by omega
      obtain ⟨o1, o2⟩ := HO.out
      clear hlt hk
      go_wp2
      go_ret
      exact ⟨rfl, HK.out.2.2.trans ((below_drewN w3 m).mono HK.out.2.2.size)⟩
end N
end Go.Proofs.Ytfkoacjfihaajaa
