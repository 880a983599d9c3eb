import Derived.Test.YtjmkofdnlhfaiaaRaD
set_option linter.unusedVariables false
set_option linter.unusedSimpArgs false
namespace Go.Proofs.Ytjmkofdnlhfaiaa
open Go.RowKit
namespace C
variable {n v : Nat} {s : St} {L : List Dc} {B c g r hb : Nat} {b : Nat → Nat} {lo : Option Addr} {lc : Nat} {w w' : World}
theorem Am.below {x z : Nat} {y : Act} {w1 w2 : World} (h : Am B c g n v b r hb s lo x z y w w1) (k : Below w1.heap.size w1 w2) : Am B c g n v b r hb s lo x z y w w2 :=
  ⟨h.pr.below k, (k.block x (lt_of_heap h.bt)).trans h.bt, h.ab.below k, h.bel.trans (k.mono h.bel.size)⟩
set_option maxRecDepth 100000 in
set_option maxHeartbeats 2000000 in
theorem act4 (y : Act) (hd : y.d = 4) (h : Pr B c g n v b r hb s lo w) : Calls Try.prog 16 #[.agg #[.pointer (some ⟨c, 0, none⟩), .pointer (some ⟨r, 0, none⟩)], .agg #[.int .i64 y.d, .int .i64 y.tag, .int .i64 y.t.s, .int .i64 y.t.o, .int .i64 y.t.a, .bool y.al]] w fun e w' => e = .returned (.bool true) ∧ PT B c g n v b r hb s lo w w' := by
  obtain ⟨w1, x, z, hw1, hx, hz, hA⟩ := am_pre y h
  have HE := hide' (fun w2 (k : Below w1.heap.size w1 w2) => hA.same k)
  have HA : Hid (∀ W, Below w1.heap.size w1 W → Calls Try.prog 13 #[.pointer (some ⟨c, 0, none⟩)] W fun e w' => e = .returned (.agg #[.int .i64 (s.hi : Nat), .int .i64 (s.mi : Nat), .int .i64 (s.ev : Nat), .int .i64 (hsm s.f v n : Nat)]) ∧ Hid (Below w1.heap.size w1 w') ∧ w'.cell? ⟨x, 0, none⟩ = some (.pointer (some ⟨c, 0, none⟩)) ∧ w'.cell? ⟨x, 1, none⟩ = some (.pointer (some ⟨r, 0, none⟩))) := hide' (fun W k => (stats_any (hA.below k).pr.ca).mono fun e w' ⟨he, hq⟩ => by
    have k2 := k.trans (hq.mono k.size)
    exact ⟨he, hide' k2, (hA.below k2).bt.b0, (hA.below k2).bt.b1⟩)
  have HB : Hid (∀ W, Below w1.heap.size w1 W → Calls Try.prog 27 #[.pointer (some ⟨r, 0, none⟩)] W fun e w' => e = .returned (.agg #[.int .i64 (s.hi : Nat), .int .i64 (s.mi : Nat), .int .i64 (s.ev : Nat), .int .i64 (hsm s.f v n : Nat)]) ∧ Hid (Below w1.heap.size w1 w') ∧ w'.cell? ⟨x, 0, none⟩ = some (.pointer (some ⟨c, 0, none⟩)) ∧ w'.cell? ⟨x, 1, none⟩ = some (.pointer (some ⟨r, 0, none⟩))) := hide' (fun W k => by
    obtain ⟨L, lc, hf⟩ := (hA.below k).pr.rf
    refine (rstats_any hf).mono fun e w' ⟨he, hq⟩ => ?_
    have k2 := k.trans (hq.mono k.size)
    exact ⟨he, hide' k2, (hA.below k2).bt.b0, (hA.below k2).bt.b1⟩)
  have HD : Hid (∀ W, Below w1.heap.size w1 W → ∀ m, Below w1.heap.size w1 (W.drewN m)) := hide' (fun W k m => k.trans ((below_drewN W m).mono k.size))
  have HD1 : Hid (∀ W, Below w1.heap.size w1 W → Below w1.heap.size w1 W.drew) := hide' (fun W k => k.drew)
  have HR := hide' (Below.refl w1.heap.size w1)
  have s31 := fun w => struct31 (s.hi : Nat) (s.mi : Nat) (s.ev : Nat) (hsm s.f v n : Nat) (s.hi : Nat) (s.mi : Nat) (s.ev : Nat) (hsm s.f v n : Nat) w
  have b0 := hA.bt.b0
  have b1 := hA.bt.b1
  have g0 := hA.ab.c0
  have Hx := hide' hx
  have Hz := hide' hz
  have Hw1 := hide' hw1
  rw [hd] at g0
  clear h hA hx hz hw1 hd
  generalize ((s.hi : Nat) : Int) = S1 at *
  generalize ((s.mi : Nat) : Int) = S2 at *
  generalize ((s.ev : Nat) : Int) = S3 at *
  generalize ((hsm s.f v n : Nat) : Int) = S4 at *
  have e4 : decide (S1 = S1 ∧ S2 = S2 ∧ S3 = S3 ∧ S4 = S4) = true := by simp
  go_enter Try.func16, Try.ntmps16
  go_upto_region 1 with fail
  rw [← Hz.out, ← Hx.out, ← Hw1.out]
  clear Hx Hz Hw1
  go_wp2_with fail
  go_region_law ((go_simp; first | (refine (HA.out _ (by first | exact HR.out | exact HD1.out _ HR.out | exact (by assumption : Hid _).out | exact HD1.out _ (by assumption : Hid _).out)).mono ?_; rintro e w5 ⟨rfl, b5, y0, y1⟩) | (refine (HB.out _ (by first | exact HR.out | exact HD1.out _ HR.out | exact (by assumption : Hid _).out | exact HD1.out _ (by assumption : Hid _).out)).mono ?_; rintro e w5 ⟨rfl, b5, y0, y1⟩)))
  all_goals
    go_wp2
    go_ret
    exact ⟨rfl, by first | exact HE.out _ (HD1.out _ (by assumption : Hid _).out) | exact HE.out _ (by assumption : Hid _).out⟩
end C
end Go.Proofs.Ytjmkofdnlhfaiaa
