import Derived.Test.YtfkoacjfihaajaaAlP
import Derived.Test.YtfkoacjfihaajaaMeB
import Derived.Test.YtfkoacjfihaajaaFiW
set_option linter.unusedVariables false
set_option linter.unusedSimpArgs false
namespace Go.Proofs.Ytfkoacjfihaajaa
open Go.RowKit
namespace N
open Fl M
theorem wsub {p : Nat} (h : p < 2147483648) : wrap64 ((p : Int) - 1073741824) = (p : Int) - 1073741824 := by unfold wrap64; omega
theorem wone' {p : Nat} (h : p < 4096) : wrap64 (1 + (p : Int)) = ((p + 1 : Nat) : Int) := by unfold wrap64; omega
theorem rep_len (k x : Nat) : (List.replicate k x).length = k := List.length_replicate
set_option maxRecDepth 100000 in
set_option maxHeartbeats 2000000 in
theorem alike_walk (x0 x1 : Int) (w : World) : Calls Try.prog 12 #[.int .i64 x0, .int .i64 x1] w fun e w' => e = .returned (.bool true) ∧ Below w.heap.size w w' := by
  have P1 := hide' (pick_any x0 2147483648 w (by omega) (by omega))
  have hp := pk_lt x0 (m := 2147483648) (by omega)
  obtain ⟨p, hpe⟩ : ∃ p, pk x0 2147483648 = p := ⟨_, rfl⟩
  rw [hpe] at hp P1
  obtain ⟨n, hn⟩ : ∃ n : Int, n = (p : Int) - 1073741824 := ⟨_, rfl⟩
  have hw1 : Hid (wrap64 ((p : Int) - 1073741824) = n) := hide' (by rw [hn]; exact wsub hp)
  have P2 := hide' (pick_any x1 4096 w (by omega) (by omega))
  have hp2 := pk_lt x1 (m := 4096) (by omega)
  obtain ⟨p2, hpe2⟩ : ∃ p, pk x1 4096 = p := ⟨_, rfl⟩
  rw [hpe2] at hp2 P2
  obtain ⟨N, hN⟩ : ∃ N : Nat, N = p2 + 1 := ⟨_, rfl⟩
  have hw2 : Hid (wrap64 (1 + (p2 : Int)) = (N : Int)) := hide' (by rw [hN]; exact wone' hp2)
  have hx : Fin (floatOfInt .f64 n) (n * (Q : Int)) := int_fin (by omega)
  obtain ⟨X, hX⟩ : ∃ X, X = floatOfInt .f64 n := ⟨_, rfl⟩
  rw [← hX] at hx
  have HX := hide' hX
  have HA := hide' (alike (k := N) hx (by omega) (by omega) (by omega))
  have Hx := hide' hx
  have HN := hide' (show 0 < N ∧ N ≤ 4096 by omega)
  clear hp hpe hn hp2 hpe2 hN hx hX
  go_enter Try.func12, Try.ntmps12
  go_wp2_with fail
  refine P1.out.mono ?_
  rintro e w1 ⟨rfl, rfl⟩
  go_wp2_with fail
  refine P2.out.mono ?_
  rintro e w2 ⟨rfl, rfl⟩
  clear P1 P2
  rw [hw1.out, ← HX.out]
  go_wp2_with fail
  rw [hw2.out]
  clear hw1 hw2 HX
  go_loopw [7, 8] (fun s i wx => ∃ (k : Nat) (ao : Option Addr) (cap : Nat), s = .slice ao k cap ∧ i = .int .i64 (k : Int) ∧ k ≤ N ∧ Own 1 27 farr w2.heap.size (.slice ao (List.replicate k X).length cap) (List.replicate k X) wx ∧ Below w2.heap.size w2 wx) (fun _ i _ => N - (intOf i).toNat)
  case atStart => exact ⟨0, none, 0, rfl, rfl, Nat.zero_le _, own_nil 1 27 farr _ _, Below.refl _ _⟩
  case round =>
    obtain ⟨k, ao, cap, rfl, rfl, hk, ho, hb⟩ := hrel
    by_cases hlt : k < N
    · have hlt' : (k : Int) < (N : Int) := by omega
      have HO := hide' ho
      have HB := hide' hb
      have Hlt := hide' hlt
      have ek := hide' (wsucN k (by have := HN.out; omega))
      have HS := hide' ho.form
      clear ho hb hlt hk
      go_wp2_with (at_builtin; go_loud (refine wpList_more (arr := farr) ha_f Try.underlying39 info27 rfl (by omega) wr rfl _ _ rfl (ro := ao) (rc := cap) (ss := List.replicate k X) HO.out (by rw [rep_len]; unfold maxLen; have := Hlt.out; have := HN.out; omega) (by rw [rep_len]; have := Hlt.out; have := HN.out; omega) HB.out.size X (one_f X) _ (by rw [rep_len]; rfl) rfl ?_); intro gg c2 w3 o2 t2 a2)
      have K : Hid (Own 1 27 farr w2.heap.size (.slice (some ⟨gg, 0, none⟩) (List.replicate (k + 1) X).length c2) (List.replicate (k + 1) X) w3) := hide' (by rw [List.replicate_succ']; exact o2)
      have K2 : Hid (Below w2.heap.size w2 w3) := hide' (by
        obtain ⟨ao', cap', e, _, _, hat⟩ := HS.out
        cases e
        exact HB.out.trans (t2.below hat HB.out.size))
      clear o2 t2 a2 HS HO HB
      exact ⟨⟨k + 1, _, _, rfl, by first | rfl | (rw [ek.out]), Hlt.out, K.out, K2.out⟩, by first | exact msr' Hlt.out _ rfl | (exact msr' Hlt.out _ (ek.out.trans (by omega)))⟩
    · obtain rfl : k = N := by omega
      have C := hide' (mean_any ao cap (List.replicate k X) wr (ho.rw' ha_f) (by rw [rep_len]; have := HN.out; omega) (by rw [rep_len]; exact HN.out.1))
      simp only [rep_len] at C
      have HB := hide' hb
      clear ho hb hlt hk
      go_wp2_with fail
      refine C.out.mono ?_
      rintro e w3 ⟨x, y, k3, rfl, HL, rfl⟩
      have o1 := fin_same (HA.out.1.lk HL.out.1) Hx.out
      have o2 := fin_same (HA.out.2.lk HL.out.2) fin_zero
      clear HA Hx HL C
      go_wp2
      go_ret
      exact ⟨rfl, bel_drewN HB.out k3⟩
end N
end Go.Proofs.Ytfkoacjfihaajaa
