import Derived.Test.YtfkoacjfihaajaaMeA
set_option linter.unusedVariables false
set_option linter.unusedSimpArgs false
namespace Go.Proofs.Ytfkoacjfihaajaa
open Go.RowKit
namespace N
open Fl M
set_option maxRecDepth 100000 in
set_option maxHeartbeats 2000000 in
theorem rmean_any (a : Option Addr) (cap : Nat) (l : List Nat) (w : World) (hI : Rw 1 farr w a l) (hl : l.length ≤ 17592186044000) (h0 : 0 < l.length) :
    Calls Try.prog 23 #[.slice a l.length cap] w fun e w' => ∃ x y k, e = .returned (.tuple #[.float .f64 x, .float .f64 y]) ∧ Hid (lk x (mnO l) ∧ lk y (spO l)) ∧ w' = w.drewN k := by
  have HI := hide' hI
  have HL := hide' hl
  have h00 : ¬ ((l.length : Int) = 0) := by omega
  clear hI hl h0
  go_enter Try.func23, Try.ntmps23
  go_wp2_with fail
  go_loopw [4, 5] (fun s i wx => ∃ k x m : Nat, s = .float .f64 x ∧ i = .int .i64 (k : Int) ∧ k ≤ l.length ∧ lk x (smO (l.take k)) ∧ wx = w.drewN m) (fun _ i _ => l.length - (intOf i).toNat)
  case atStart => exact ⟨0, 0, 0, rfl, rfl, Nat.zero_le _, lk0, rfl⟩
  case round =>
    obtain ⟨k, x, m, rfl, rfl, hk, hx, rfl⟩ := hrel
    by_cases hlt : k < l.length
    · have hlt' : (k : Int) < (l.length : Int) := by omega
      obtain ⟨z, hz⟩ : ∃ z, l[k]? = some z := ⟨_, List.getElem?_eq_getElem hlt⟩
      obtain ⟨b, off, rfl, hb, c0⟩ := fcell HI.out hz
      obtain ⟨r, j, er, hr⟩ := op_any .add (.inl rfl) hx (lk_vl z) (w.drewN m)
      rw [← smO_step hz] at hr
      rw [World.drewN_drewN] at er
      have HR := hide' hr
      have Hlt := hide' hlt
      have hkb := HL.out
      have e1 := hide' (wsucN k (by omega))
      clear hx hr hz hb hlt hk hkb
      go_wp2
      exact ⟨⟨k + 1, r, m + j, rfl, by first | rfl | (rw [e1.out]), Hlt.out, HR.out, rfl⟩, by first | exact msr' Hlt.out _ rfl | (exact msr' Hlt.out _ (e1.out.trans (by omega)))⟩
    · obtain rfl : k = l.length := by omega
      rw [List.take_length] at hx
      obtain ⟨r, j, er, hr⟩ := op_any .quo (.inr (.inr (.inr rfl))) hx (lk_vl (cnt l)) (w.drewN m)
      rw [World.drewN_drewN] at er
      have HR : Hid (lk r (mnO l)) := hide' hr
      obtain ⟨M, hM⟩ : ∃ M, M = m + j := ⟨_, rfl⟩
      rw [← hM] at er
      rw [show cnt l = floatOfInt .f64 (l.length : Int) from rfl] at er
      clear hx hr hM hlt hk
      go_wp2
      go_loopw [4, 7] (fun s i wx => ∃ k x m : Nat, s = .float .f64 x ∧ i = .int .i64 (k : Int) ∧ k ≤ l.length ∧ lk x (sqO (mnO l) (l.take k)) ∧ wx = w.drewN m) (fun _ i _ => l.length - (intOf i).toNat)
      case atStart => exact ⟨0, 0, M, rfl, rfl, Nat.zero_le _, lk0, rfl⟩
      case round =>
        obtain ⟨k, x, m, rfl, rfl, hk, hx, rfl⟩ := hrel
        clear er
        by_cases hlt : k < l.length
        · have hlt' : (k : Int) < (l.length : Int) := by omega
          obtain ⟨z, hz⟩ : ∃ z, l[k]? = some z := ⟨_, List.getElem?_eq_getElem hlt⟩
          obtain ⟨b, off, rfl, hb, c0⟩ := fcell HI.out hz
          obtain ⟨r1, j1, er1, hr1⟩ := op_any .sub (.inr (.inl rfl)) (lk_vl z) HR.out (w.drewN m)
          obtain ⟨r2, j2, er2, hr2⟩ := op_any .mul (.inr (.inr (.inl rfl))) hr1 hr1 ((w.drewN m).drewN j1)
          obtain ⟨r3, j3, er3, hr3⟩ := op_any .add (.inl rfl) hx hr2 (((w.drewN m).drewN j1).drewN j2)
          rw [← sqO_step hz] at hr3
          simp only [World.drewN_drewN] at er1 er2 er3
          have HR3 := hide' hr3
          have Hlt := hide' hlt
          have hkb := HL.out
          have e1 := hide' (wsucN k (by omega))
          clear hx hr1 hr2 hr3 hz hb hlt hk hkb
          go_wp2
          exact ⟨⟨k + 1, r3, _, rfl, by first | rfl | (rw [e1.out]), Hlt.out, HR3.out, rfl⟩, by first | exact msr' Hlt.out _ rfl | (exact msr' Hlt.out _ (e1.out.trans (by omega)))⟩
        · obtain rfl : k = l.length := by omega
          rw [List.take_length] at hx
          obtain ⟨r5, j5, er5, hr5⟩ := op_any .quo (.inr (.inr (.inr rfl))) hx (lk_vl (cnt l)) (w.drewN m)
          rw [World.drewN_drewN, show cnt l = floatOfInt .f64 (l.length : Int) from rfl] at er5
          have HR5 : Hid (lk r5 (spO l)) := hide' hr5
          clear hx hr5 hlt hk
          go_wp2
          go_ret2
          exact ⟨r, r5, _, rfl, hide' ⟨HR.out, HR5.out⟩, rfl⟩
set_option maxRecDepth 100000 in
set_option maxHeartbeats 1000000 in
theorem mean_nil (a : Option Addr) (cap : Nat) (w : World) : Calls Try.prog 22 #[.slice a 0 cap] w fun e w' => e = .returned (.tuple #[.float .f64 0, .float .f64 0]) ∧ w' = w := by
  go_enter Try.func22, Try.ntmps22
  go_wp2
  go_ret2
  exact ⟨rfl, rfl⟩
set_option maxRecDepth 100000 in
set_option maxHeartbeats 1000000 in
theorem rmean_nil (a : Option Addr) (cap : Nat) (w : World) : Calls Try.prog 23 #[.slice a 0 cap] w fun e w' => e = .returned (.tuple #[.float .f64 0, .float .f64 0]) ∧ w' = w := by
  go_enter Try.func23, Try.ntmps23
  go_wp2
  go_ret2
  exact ⟨rfl, rfl⟩
theorem ha_f (q : Nat) : (farr q).size = 1 := rfl
theorem ha_i (q : Int) : (iarr q).size = 1 := rfl
/-- whatever list: the two answers alike -/
theorem both_mean (l : List Nat) (hl : l.length ≤ 17592186044000) : ∃ o p : Option Nat, (∀ a cap w, Rw 1 farr w a l → Calls Try.prog 22 #[.slice a l.length cap] w fun e w' => ∃ x y k, e = .returned (.tuple #[.float .f64 x, .float .f64 y]) ∧ Hid (lk x o ∧ lk y p) ∧ w' = w.drewN k) ∧ (∀ a cap w, Rw 1 farr w a l → Calls Try.prog 23 #[.slice a l.length cap] w fun e w' => ∃ x y k, e = .returned (.tuple #[.float .f64 x, .float .f64 y]) ∧ Hid (lk x o ∧ lk y p) ∧ w' = w.drewN k) := by
  rcases Nat.eq_zero_or_pos l.length with e | e
  · refine ⟨some 0, some 0, fun a cap w h => ?_, fun a cap w h => ?_⟩
    · rw [e]; exact (mean_nil a cap w).mono (fun e w' ⟨h1, h2⟩ => ⟨0, 0, 0, h1, hide' ⟨lk0, lk0⟩, h2⟩)
    · rw [e]; exact (rmean_nil a cap w).mono (fun e w' ⟨h1, h2⟩ => ⟨0, 0, 0, h1, hide' ⟨lk0, lk0⟩, h2⟩)
  · exact ⟨mnO l, spO l, fun a cap w h => mean_any a cap l w h hl e, fun a cap w h => rmean_any a cap l w h hl e⟩
set_option maxRecDepth 100000 in
set_option maxHeartbeats 1000000 in
theorem floats_any (a : Option Addr) (cap : Nat) (l : List Nat) (w : World) (hI : Rw 1 farr w a l) (hl : l.length ≤ 17592186044000) (hn : a = none → cap = 0) (hc : l.length ≤ cap) :
    Calls Try.prog 21 #[.slice a l.length cap] w fun e w' => ∃ ao c, e = .returned (.slice ao l.length c) ∧ Hid (Own 1 27 farr w.heap.size (.slice ao l.length c) l w' ∧ l.length ≤ c ∧ Below w.heap.size w w') := by
  have HI := hide' hI
  have HL := hide' (And.intro hl (And.intro hn hc))
  clear hI hl hn hc
  go_enter Try.func21, Try.ntmps21
  go_wp2_with (at_builtin; refine wpList_all (arr := farr) ha_f Try.underlying39 info27 rfl (by omega) _ rfl _ _ rfl rfl rfl HL.out.2.1 HL.out.2.2 HI.out one_f (by have := HL.out.1; unfold maxLen; omega) (by have := HL.out.1; omega) ?_; intro v1 w1 o1 b1)
  obtain ⟨ao, c, rfl, hc, _, _⟩ := o1.form
  have K := hide' (And.intro o1 (And.intro hc b1))
  clear o1 b1 hc
  go_wp2
  go_ret
  exact ⟨ao, c, rfl, hide' K.out⟩
set_option maxRecDepth 100000 in
set_option maxHeartbeats 2000000 in
theorem mean_walk (a : Option Addr) (cap : Nat) (l : List Nat) (w : World) (hI : Rw 1 farr w a l) (hl : l.length ≤ 17592186043904) (hn : a = none → cap = 0) (hc : l.length ≤ cap) :
    Calls Try.prog 5 #[.slice a l.length cap] w fun e w' => e = .returned (.bool true) ∧ Below w.heap.size w w' := by
  have H1 := hide' (floats_any a cap l w hI (by omega) hn hc)
  obtain ⟨o, p, hm, hr⟩ := both_mean l (by omega)
  have HM := hide' hm
  have HR := hide' hr
  have HI := hide' (fun w' (b : Below w.heap.size w w') => hI.below b)
  have HL := hide' hl
  clear hI hl hn hc hm hr
  go_enter Try.func5, Try.ntmps5
  go_wp2_with fail
  refine H1.out.mono ?_
  rintro e w1 ⟨ao, c, rfl, HK⟩
  clear H1
  go_wp2_with fail
  refine (HM.out _ _ _ (HK.out.1.rw' ha_f)).mono ?_
  rintro e w2 ⟨x, y, k2, rfl, HX, rfl⟩
  have B2 := hide' (HK.out.2.2.trans ((below_drewN w1 k2).mono HK.out.2.2.size))
  go_wp2_with fail
  refine (HR.out _ _ _ (HI.out _ B2.out)).mono ?_
  rintro e w3 ⟨x', y', k3, rfl, HY, rfl⟩
  have S1 := hide' (fun w => same_any w HX.out.1 HY.out.1)
  have S2 := hide' (fun w => same_any w HX.out.2 HY.out.2)
  clear HM HR B2
  simp only [World.drewN_drewN]
  go_wp2_with fail
  refine (S1.out _).mono ?_
  rintro e w4 ⟨rfl, rfl⟩
  go_wp2_with fail
  refine (S2.out _).mono ?_
  rintro e w5 ⟨rfl, rfl⟩
  clear S1 S2 HX HY
  obtain ⟨M, hM⟩ : ∃ M, M = k2 + k3 := ⟨_, rfl⟩
  rw [← hM]
  clear hM
  go_wp2_with fail
  go_loopw [8] (fun i wx => ∃ k m : Nat, i = .int .i64 (k : Int) ∧ k ≤ l.length ∧ wx = w1.drewN m) (fun i _ => l.length - (intOf i).toNat)
  case atStart => exact ⟨0, M, rfl, Nat.zero_le _, rfl⟩
  case round =>
    obtain ⟨k, m, rfl, hk, rfl⟩ := hrel
    by_cases hlt : k < l.length
    · have hlt' : (k : Int) < (l.length : Int) := by omega
      obtain ⟨z, hz⟩ : ∃ z, l[k]? = some z := ⟨_, List.getElem?_eq_getElem hlt⟩
      obtain ⟨b1, off1, e1, _, c1⟩ := fcell (HI.out _ HK.out.2.2) hz
      obtain ⟨b2, off2, e2, _, c2⟩ := fcell (HK.out.1.rw' ha_f) hz
      have S := hide' (fun w => same_any w (lk_vl z) (lk_vl z))
      have Hlt := hide' hlt
      have hkb := HL.out
      have ek := hide' (wsucN k (by omega))
      subst e1
      subst e2
      clear hz hlt hk hkb
      replace c1 : (w1.drewN m).cell? ⟨b1, off1 + k, none⟩ = some (.float .f64 z) := c1
      replace c2 : (w1.drewN m).cell? ⟨b2, off2 + k, none⟩ = some (.float .f64 z) := c2
      have HWW : Hid (∀ n, (w1.drewN m).drewN n = w1.drewN (m + n)) := hide' (fun n => World.drewN_drewN _ _ _)
      generalize w1.drewN m = W at *
      go_wp2_with fail
      go_quiet ((exact Calls.quiet_of_same (S.out _)))
      go_wp2
      exact ⟨⟨k + 1, _, by first | rfl | (rw [ek.out]), Hlt.out, HWW.out _⟩, by first | exact msr' Hlt.out _ rfl | (exact msr' Hlt.out _ (ek.out.trans (by omega)))⟩
    · obtain rfl : k = l.length := by omega
      clear hlt hk
      go_wp2
      go_ret
      exact ⟨rfl, HK.out.2.2.trans ((below_drewN w1 m).mono HK.out.2.2.size)⟩
end N
end Go.Proofs.Ytfkoacjfihaajaa
