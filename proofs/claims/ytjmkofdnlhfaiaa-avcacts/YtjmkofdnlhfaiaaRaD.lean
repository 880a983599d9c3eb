import Derived.Test.YtjmkofdnlhfaiaaRaC
set_option linter.unusedVariables false
set_option linter.unusedSimpArgs false
namespace Go.Proofs.Ytjmkofdnlhfaiaa
open Go.RowKit
namespace C
variable {n v : Nat} {s : St} {L : List Dc} {B c g r hb : Nat} {b : Nat → Nat} {lo : Option Addr} {lc : Nat} {w w' : World}
/-- a call that asks alone -/
theorem Am.same {x z : Nat} {y : Act} {w1 w2 : World} (h : Am B c g n v b r hb s lo x z y w w1) (k : Below w1.heap.size w1 w2) : PT B c g n v b r hb s lo w w2 :=
  h.fin ⟨lo, h.pr.below k, turn_below k, fun j hj => .inl hj⟩
theorem Am.drewN {x z : Nat} {y : Act} {w1 : World} (h : Am B c g n v b r hb s lo x z y w w1) (k : Nat) : Am B c g n v b r hb s lo x z y w (w1.drewN k) :=
  ⟨h.pr.below (below_drewN w1 k), h.bt, h.ab, h.bel.trans ((below_drewN w1 k).mono h.bel.size)⟩
set_option maxRecDepth 100000 in
set_option maxHeartbeats 2000000 in
theorem act0 (y : Act) (hd : ¬ y.d = 1 ∧ ¬ y.d = 2 ∧ ¬ y.d = 3 ∧ ¬ y.d = 4 ∧ ¬ y.d = 5) (h : Pr B c g n v b r hb s lo w) : Calls Try.prog 16 #[.agg #[.pointer (some ⟨c, 0, none⟩), .pointer (some ⟨r, 0, none⟩)], .agg #[.int .i64 y.d, .int .i64 y.tag, .int .i64 y.t.s, .int .i64 y.t.o, .int .i64 y.t.a, .bool y.al]] w fun e w' => e = .returned (.bool true) ∧ PT B c g n v b r hb s lo w w' := by
  obtain ⟨w1, x, z, hw1, hx, hz, hA⟩ := am_pre y h
  have HE := hide' (hA.same (Below.refl _ _))
  have g0 := hA.ab.c0
  have Hx := hide' hx
  have Hz := hide' hz
  have Hw1 := hide' hw1
  obtain ⟨d1, d2, d3, d4, d5⟩ := hd
  clear h hA hx hz hw1
  go_enter Try.func16, Try.ntmps16
  go_upto_region 1 with fail
  rw [← Hz.out, ← Hx.out, ← Hw1.out]
  go_wp2
  go_ret
  exact ⟨rfl, HE.out⟩
set_option maxRecDepth 100000 in
set_option maxHeartbeats 2000000 in
theorem act3 (y : Act) (hd : y.d = 3) (h : Pr B c g n v b r hb s lo w) : Calls Try.prog 16 #[.agg #[.pointer (some ⟨c, 0, none⟩), .pointer (some ⟨r, 0, none⟩)], .agg #[.int .i64 y.d, .int .i64 y.tag, .int .i64 y.t.s, .int .i64 y.t.o, .int .i64 y.t.a, .bool y.al]] w fun e w' => e = .returned (.bool true) ∧ PT B c g n v b r hb s lo w w' := by
  obtain ⟨w1, x, z, hw1, hx, hz, hA⟩ := am_pre y h
  have HE := hide' (fun k => hA.same (below_drewN w1 k))
  have HA := hide' (fun k => spot_any y.t (hA.drewN k).pr.ca)
  have HB : Hid (∀ k, Calls Try.prog 26 #[.pointer (some ⟨r, 0, none⟩), .int .i64 y.t.s, .int .i64 y.t.o, .int .i64 y.t.a] (w1.drewN k) fun e w' => e = .returned (.int .i64 (spt n y.t : Nat)) ∧ ∃ m, w' = (w1.drewN k).drewN m) := hide' (fun k => by
    obtain ⟨L, lc, hf⟩ := (hA.drewN k).pr.rf
    exact rspot_any y.t hf)
  have b0 := hA.bt.b0
  have b1 := hA.bt.b1
  have g0 := hA.ab.c0
  have g2 := hA.ab.c2
  have g3 := hA.ab.c3
  have g4 := hA.ab.c4
  have Hx := hide' hx
  have Hz := hide' hz
  have Hw1 := hide' hw1
  rw [hd] at g0
  clear h hA hx hz hw1 hd
  generalize ((spt n y.t : Nat) : Int) = S at *
  go_enter Try.func16, Try.ntmps16
  go_upto_region 1 with fail
  rw [← Hz.out, ← Hx.out, ← Hw1.out]
  clear Hx Hz Hw1
  go_wp2_with fail
  go_quiet (first | (go_at_call 25; exact Calls.quiet_of_same (HA.out _)) | (go_at_call 26; exact Calls.quiet_of (HB.out _)))
  go_wp2
  go_ret
  exact ⟨rfl, HE.out _⟩
set_option maxRecDepth 100000 in
set_option maxHeartbeats 2000000 in
theorem act5 (y : Act) (hd : y.d = 5) (h : Pr B c g n v b r hb s lo w) (hl : s.hi + s.mi < 9007199254740992) : Calls Try.prog 16 #[.agg #[.pointer (some ⟨c, 0, none⟩), .pointer (some ⟨r, 0, none⟩)], .agg #[.int .i64 y.d, .int .i64 y.tag, .int .i64 y.t.s, .int .i64 y.t.o, .int .i64 y.t.a, .bool y.al]] w fun e w' => e = .returned (.bool true) ∧ PT B c g n v b r hb s lo w w' := by
  obtain ⟨w1, x, z, hw1, hx, hz, hA⟩ := am_pre y h
  have HE := hide' (fun k => hA.same (below_drewN w1 k))
  have HA := hide' (fun k => ratio_any (hA.drewN k).pr.ca hl)
  have HB : Hid (∀ k, Calls Try.prog 28 #[.pointer (some ⟨r, 0, none⟩)] (w1.drewN k) fun e w' => e = .returned (.float .f64 (rat s.hi (s.hi + s.mi))) ∧ ∃ m, w' = (w1.drewN k).drewN m) := hide' (fun k => by
    obtain ⟨L, lc, hf⟩ := (hA.drewN k).pr.rf
    exact rratio_any hf hl)
  have hrr : rat s.hi (s.hi + s.mi) < 9218868437227405312 := by
    rcases Nat.eq_zero_or_pos (s.hi + s.mi) with e | e
    · rw [show rat s.hi (s.hi + s.mi) = 0 from if_pos e]; omega
    · have hdv := rat_div (a := s.hi) (q := s.hi + s.mi) e hl (by omega)
      replace hdv : Ieee.double.div (FloatKind.f64.nearest (s.hi : Int)) (FloatKind.f64.nearest ((s.hi + s.mi : Nat) : Int)) = some (rat s.hi (s.hi + s.mi)) := hdv
      have ho : Fp.one < 9218868437227405312 := by decide
      rcases Nat.eq_zero_or_pos s.hi with e1 | e1
      · rw [e1, Fp.div_zero (by omega) (by omega)] at hdv; rw [e1, ← Option.some.inj hdv]; omega
      · rcases Nat.eq_zero_or_pos s.mi with e2 | e2
        · rw [e2, Nat.add_zero, Fp.div_same e1 (by omega)] at hdv; rw [e2, Nat.add_zero, ← Option.some.inj hdv]; exact ho
        · obtain ⟨q, hq, _, hq2⟩ := Fp.div_mid (n := s.hi) (q := s.hi + s.mi) e1 (by omega) hl
          rw [hq] at hdv; rw [← Option.some.inj hdv]; omega
  have fo : (FloatKind.f64.format.order (rat s.hi (s.hi + s.mi)) (rat s.hi (s.hi + s.mi)) == some .eq) = true := by
    show (Ieee.double.order _ _ == some .eq) = true
    rw [Fp.order_rung hrr hrr]
    simp
  have b0 := hA.bt.b0
  have b1 := hA.bt.b1
  have g0 := hA.ab.c0
  have Hx := hide' hx
  have Hz := hide' hz
  have Hw1 := hide' hw1
  rw [hd] at g0
  clear h hA hx hz hw1 hd hl hrr
  generalize rat s.hi (s.hi + s.mi) = R at *
  go_enter Try.func16, Try.ntmps16
  go_upto_region 1 with fail
  rw [← Hz.out, ← Hx.out, ← Hw1.out]
  clear Hx Hz Hw1
  go_wp2_with fail
  go_quiet (first | (go_at_call 14; exact Calls.quiet_of (HA.out _)) | (go_at_call 28; exact Calls.quiet_of (HB.out _)))
  go_wp2
  go_ret
  exact ⟨rfl, HE.out _⟩
end C
end Go.Proofs.Ytjmkofdnlhfaiaa
