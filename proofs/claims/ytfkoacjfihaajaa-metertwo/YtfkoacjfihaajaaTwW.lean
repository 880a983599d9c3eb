import Derived.Test.YtfkoacjfihaajaaAlW
set_option linter.unusedVariables false
set_option linter.unusedSimpArgs false
namespace Go.Proofs.Ytfkoacjfihaajaa
open Go.RowKit
namespace N
open Fl M
theorem four_fin : Fin 4616189618054758400 (4 * (Q : Int)) := by
  have := int_fin_nat (n := 4) (by omega)
  rw [show FloatKind.f64.nearest ((4 : Nat) : Int) = 4616189618054758400 by decide +kernel] at this
  exact this
theorem two_row (x y : Nat) (w : World) : Rw 1 farr (w.alloc (.cells #[.float .f64 x, .float .f64 y] 27)) (some ⟨w.heap.size, 0, none⟩) [x, y] := by
  refine .inr ⟨w.heap.size, 0, rfl, by simp, fun j z hj r hr => ?_⟩
  obtain rfl : r = 0 := by omega
  have hb := heap_alloc_new w (.cells #[.float .f64 x, .float .f64 y] 27)
  have : j = 0 ∨ j = 1 := by have := (List.getElem?_eq_some_iff.1 hj).1; simp at this; omega
  rcases this with rfl | rfl
  · simp only [List.getElem?_cons_zero, Option.some.injEq] at hj; subst hj; rw [Lib.cell_of_heap hb]; rfl
  · simp only [List.getElem?_cons_succ, List.getElem?_cons_zero, Option.some.injEq] at hj; subst hj; rw [Lib.cell_of_heap hb]; rfl
set_option maxRecDepth 100000 in
set_option maxHeartbeats 2000000 in
theorem two_walk (x0 x1 : Int) (w : World) : Calls Try.prog 13 #[.int .i64 x0, .int .i64 x1] w fun e w' => e = .returned (.bool true) ∧ Below w.heap.size w w' := by
  have P1 := hide' (pick_any x0 1048576 w (by omega) (by omega))
  have hp := pk_lt x0 (m := 1048576) (by omega)
  obtain ⟨p, hpe⟩ : ∃ p, pk x0 1048576 = p := ⟨_, rfl⟩
  rw [hpe] at hp P1
  have P2 := hide' (pick_any x1 1048576 w (by omega) (by omega))
  have hp2 := pk_lt x1 (m := 1048576) (by omega)
  obtain ⟨p2, hpe2⟩ : ∃ p, pk x1 1048576 = p := ⟨_, rfl⟩
  rw [hpe2] at hp2 P2
  have hx : Fin (floatOfInt .f64 (p : Int)) ((p : Int) * (Q : Int)) := int_fin (by omega)
  have hy : Fin (floatOfInt .f64 (p2 : Int)) ((p2 : Int) * (Q : Int)) := int_fin (by omega)
  obtain ⟨X, hX⟩ : ∃ X, X = floatOfInt .f64 (p : Int) := ⟨_, rfl⟩
  obtain ⟨Y, hY⟩ : ∃ Y, Y = floatOfInt .f64 (p2 : Int) := ⟨_, rfl⟩
  rw [← hX] at hx
  rw [← hY] at hy
  have HX := hide' hX
  have HY := hide' hY
  obtain ⟨q, hQ, m1, s1, rs, hq⟩ := two_mean hx hy (by omega) (by omega)
  -- what the end asks, of whatever answers
  have HE : Hid (∀ c d : Nat, lk c (mnO [X, Y]) → lk d (spO [X, Y]) → ∃ e1 e2 e3 e4 e5 : Nat, Ieee.double.add c c = some e1 ∧ Ieee.double.add X Y = some e2 ∧ FloatKind.f64.format.order e1 e2 = some .eq ∧ Ieee.double.mul 4616189618054758400 d = some e3 ∧ Ieee.double.sub X Y = some e4 ∧ Ieee.double.mul e4 e4 = some e5 ∧ FloatKind.f64.format.order e3 e5 = some .eq) := by
    refine hide' (fun c d hc hd => ?_)
    have fc := m1.lk hc
    have fd := s1.lk hd
    have k1 : ((p : Int) + p2) * (2 * q) + ((p : Int) + p2) * (2 * q) = ((p : Int) + p2) * (Q : Int) := by
      rw [hQ, ← Int.mul_add]; congr 1; omega
    obtain ⟨e1, a1, f1⟩ := add_ex fc fc (by rw [k1]; exact rep_int (by omega))
    rw [k1] at f1
    have k2 : (p : Int) * (Q : Int) + (p2 : Int) * (Q : Int) = ((p : Int) + p2) * (Q : Int) := by rw [Int.add_mul]
    obtain ⟨e2, a2, f2⟩ := add_ex hx hy (by rw [k2]; exact rep_int (by omega))
    rw [k2] at f2
    have k4 : (p : Int) * (Q : Int) - (p2 : Int) * (Q : Int) = ((p : Int) - p2) * (Q : Int) := by rw [Int.sub_mul]
    obtain ⟨e4, a4, f4⟩ := sub_ex hx hy (by rw [k4]; exact rep_int (by omega))
    rw [k4] at f4
    have hsq : (((p : Int) - p2) * ((p : Int) - p2)).natAbs ≤ 9007199254740991 := by
      rw [Int.natAbs_mul]
      have h1 : ((p : Int) - p2).natAbs ≤ 1048576 := by omega
      have := Nat.mul_le_mul h1 h1
      omega
    obtain ⟨S, hS⟩ : ∃ S : Int, S = ((p : Int) - p2) * ((p : Int) - p2) := ⟨_, rfl⟩
    rw [← hS] at fd hsq
    have z3 : FO (opO .mul (some 4616189618054758400) (some d)) (S * (Q : Int)) := by
      refine FO.mul ⟨_, rfl, four_fin⟩ ⟨_, rfl, fd⟩ ?_ (rep_int hsq)
      rw [hQ]
      simp only [Int.mul_assoc, Int.mul_left_comm, Int.mul_comm]
    have z5 : FO (opO .mul (some e4) (some e4)) (S * (Q : Int)) := by
      refine FO.mul ⟨_, rfl, f4⟩ ⟨_, rfl, f4⟩ ?_ (rep_int hsq)
      rw [hS]
      generalize (Q : Int) = u
      simp only [Int.mul_assoc, Int.mul_left_comm, Int.mul_comm]
    obtain ⟨e3, a3, f3⟩ := z3
    obtain ⟨e5, a5, f5⟩ := z5
    exact ⟨e1, e2, e3, e4, e5, a1, a2, fin_same f1 f2, a3, a4, a5, fin_same f3 f5⟩
  clear hp hpe hp2 hpe2 hx hy hX hY hQ m1 s1 rs hq
  go_enter Try.func13, Try.ntmps13
  go_wp2_with fail
  refine P1.out.mono ?_
  rintro e w1 ⟨rfl, rfl⟩
  go_wp2_with fail
  refine P2.out.mono ?_
  rintro e w2 ⟨rfl, rfl⟩
  clear P1 P2
  rw [← HX.out]
  go_wp2_with fail
  rw [← HY.out]
  have C := hide' (mean_any (some ⟨w2.heap.size, 0, none⟩) 2 [X, Y] _ (two_row X Y w2) (by simp) (by simp))
  have HB : Hid (Below w2.heap.size w2 (w2.alloc (.cells #[.float .f64 X, .float .f64 Y] 27))) := hide' ((Below.refl _ _).alloc (Nat.le_refl _) _)
  clear HX HY
  refine C.out.mono ?_
  rintro e w3 ⟨x, y, k3, rfl, HL, rfl⟩
  obtain ⟨e1, e2, e3, e4, e5, a1, a2, o1, a3, a4, a5, o2⟩ := HE.out x y HL.out.1 HL.out.2
  have r1 := fun w => run_add a1 w
  have r2 := fun w => run_add a2 w
  have r3 := fun w => run_mul a3 w
  have r4 := fun w => run_sub a4 w
  have r5 := fun w => run_mul a5 w
  clear a1 a2 a3 a4 a5 HL C HE
  generalize (w2.alloc (.cells #[.float .f64 X, .float .f64 Y] 27)) = W3 at *
  go_wp2
  go_ret
  exact ⟨rfl, bel_drewN HB.out k3⟩
end N
end Go.Proofs.Ytfkoacjfihaajaa
