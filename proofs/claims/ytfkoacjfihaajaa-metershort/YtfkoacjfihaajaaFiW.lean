import Derived.Test.YtfkoacjfihaajaaMw3
set_option linter.unusedVariables false
set_option linter.unusedSimpArgs false
namespace Go.Proofs.Ytfkoacjfihaajaa
open Go.RowKit
namespace M
open Fl
theorem order_self {r : Nat} (h : r < 9218868437227405312) : FloatKind.f64.format.order r r = some .eq := by
  have := order_fin (fin_pos h) (fin_pos h)
  rw [Int.compare_eq_eq.2 rfl] at this
  exact this
theorem wone {p : Nat} (h : p < 1000) : wrap64 (1 + (p : Int)) = ((p + 1 : Nat) : Int) := by unfold wrap64; omega
theorem wpred {a : Nat} (h : a < 9223372036854775808) : wrap64 ((a : Int) - 1) = (a : Int) - 1 := by unfold wrap64; omega
set_option maxRecDepth 100000 in
set_option maxHeartbeats 4000000 in
theorem first_walk (x0 : Int) (a : Option Addr) (cap : Nat) (ss : List S3) (x2 : Int) (w : World) (hI : Rw 3 S3.arr w a ss) (hs : ss.length ≤ 5864062014634) (hcap : ss.length ≤ cap) :
    Calls Try.prog 10 #[.int .i64 x0, .slice a ss.length cap, .int .i64 x2] w fun e w' => e = .returned (.bool true) ∧ Below w.heap.size w w' := by
  have P1 := hide' (pick_any x0 1000 w (by omega) (by omega))
  have hp := pk_lt x0 (m := 1000) (by omega)
  obtain ⟨p, hpe⟩ : ∃ p, pk x0 1000 = p := ⟨_, rfl⟩
  rw [hpe] at hp P1
  have hw1 := wone hp
  obtain ⟨h, hh⟩ : ∃ h, h = p + 1 := ⟨_, rfl⟩
  rw [← hh] at hw1
  have H1 := hide' (noted_any h a cap ss w (by omega) hI hs hcap)
  have Hh := hide' (show 1 ≤ h by omega)
  have HS := hide' hs
  have P2 := hide' (fun w => pick_any x2 1048576 w (by omega) (by omega))
  have hp2 := pk_lt x2 (m := 1048576) (by omega)
  obtain ⟨n, hne⟩ : ∃ p, pk x2 1048576 = p := ⟨_, rfl⟩
  rw [hne] at hp2 P2
  have Hp2 := hide' hp2
  clear hp hpe hh hI hs hcap hp2 hne
  go_enter Try.func10, Try.ntmps10
  go_wp2_with fail
  refine P1.out.mono ?_
  rintro e w1 ⟨rfl, rfl⟩
  clear P1
  go_wp2_with fail
  refine H1.out.mono ?_
  rintro e w2 ⟨c, now, r, rfl, HM⟩
  clear H1 hw1
  go_wp2_with fail
  refine (P2.out _).mono ?_
  rintro e w3 ⟨rfl, rfl⟩
  clear P2
  have hnow : now < 9223372036854775808 := by have := HM.out.1; have := HS.out; omega
  obtain ⟨r', ha, -, hr1, hr2⟩ := add_ok (k := now / h - now / h) (n := n) HM.out.2.fin HM.out.2.hi (by have := Hp2.out; omega) (by have := Hp2.out; have := HS.out; omega)
  have C1 := hide' (rate_ok HM.out.2.mt (Nat.le_refl now) Hh.out HM.out.2.fin hnow)
  have C2 := hide' (fun w2 (q : Mt c h now r w2) => note_ok (n := n) q (Nat.le_refl now) Hh.out HM.out.2.fin hnow ha)
  have C3 := hide' (fun w2 (q : Mt c h now r' w2) => rate_ok q (Nat.le_refl now) Hh.out hr1 hnow)
  have e0 : hvn (now / h - now / h) r = r := by rw [Nat.sub_self]; rfl
  have e1 : hvn (now / h - now / h) r' = r' := by rw [Nat.sub_self]; rfl
  rw [e0] at C1 ha
  simp only [e1] at C3
  have hra : ∀ w, (binOp .add 27 (.float .f64 r) (.float .f64 (floatOfInt .f64 (n : Int)))).run Try.prog w = .ok (.float .f64 r') w := fun w => run_add ha w
  have HRA := hide' hra
  have HO := hide' (order_self hr1)
  obtain ⟨E, hE⟩ : ∃ E : Int, E = (now : Int) - 1 := ⟨_, rfl⟩
  obtain ⟨v, hv, C4⟩ : ∃ v : Int, ((now : Int) = 0 ∧ v = 3 ∨ ¬ ((now : Int) = 0) ∧ v = 1) ∧ Hid (∀ w2, Mt c h now r' w2 → Calls Try.prog 17 #[.pointer (some ⟨c, 0, none⟩), .int .i64 E, .int .i64 (n : Nat)] w2 fun e w' => e = .returned (.int .i64 v) ∧ w' = w2) := by
    by_cases h0 : now = 0
    · exact ⟨3, .inl ⟨by omega, rfl⟩, hide' (fun w2 q => note_neg2 q (by omega) (by omega))⟩
    · refine ⟨1, .inr ⟨by omega, rfl⟩, hide' (fun w2 q => ?_)⟩
      rw [show E = ((now - 1 : Nat) : Int) by omega]
      exact note_early q (by omega) (by omega)
  have hwp : Hid (wrap64 ((now : Int) - 1) = E) := hide' ((wpred hnow).trans hE.symm)
  clear hnow ha hr2 hr1 e0 e1 hE
  go_wp2_with fail
  refine C1.out.mono ?_
  rintro e w4 ⟨rfl, k4, rfl⟩
  have M4 := hide' (HM.out.2.drewN k4)
  clear C1
  go_wp2_with fail
  refine (C2.out _ M4.out.mt).mono ?_
  rintro e w5 ⟨rfl, q5, t5⟩
  have B5 := hide' (M4.out.bel.trans (t5.below (fun k hk => by rw [hk]; exact M4.out.cb) M4.out.bel.size))
  have Q5 := hide' q5
  clear C2 q5 t5 M4
  go_wp2_with fail
  refine (C3.out _ Q5.out).mono ?_
  rintro e w6 ⟨rfl, k6, rfl⟩
  have Q6 := hide' (Q5.out.drewN k6)
  have B6 := hide' (bel_drewN B5.out k6)
  clear Q5
  go_wp2_with fail
  rw [hwp.out]
  refine (C4.out _ Q6.out).mono ?_
  rintro e w7 ⟨rfl, rfl⟩
  go_wp2_with fail
  refine (C3.out _ Q6.out).mono ?_
  rintro e w8 ⟨rfl, k8, rfl⟩
  have hra := HRA.out
  have ho := HO.out
  clear Q6 B6 C3 C4
  rcases hv with ⟨hz, rfl⟩ | ⟨hz, rfl⟩
  · go_wp2
    go_ret
    exact ⟨rfl, bel_drewN B5.out _⟩
  · go_wp2
    go_ret
    exact ⟨rfl, bel_drewN B5.out _⟩
end M
end Go.Proofs.Ytfkoacjfihaajaa
