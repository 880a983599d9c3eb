import Derived.Test.YtmcdifmbblbhgaaRv3
set_option linter.unusedVariables false
set_option linter.unusedSimpArgs false
namespace Go.Proofs.Ytmcdifmbblbhgaa
open Go.RowKit Go.Maps
namespace V
open U D
theorem all_no {K C : Nat} {ms : List Mr} {r : Mr} (hr : r ∈ ms) (h : rowOk K C r = false) : ms.all (rowOk K C) = false := by
  rw [List.all_eq_false]
  exact ⟨r, hr, by rw [h]; decide⟩
set_option maxHeartbeats 8000000 in
set_option maxRecDepth 100000 in
theorem shaped_any (G : Gf) (w : World) (R C : Nat) (h : G.In w) (ha : (G.a.2.2.length : Int) ≤ 16) (hR : (R : Int) ≤ 64) (hC : (C : Int) ≤ 64) :
    Calls Try.prog 62 #[.agg #[.slice G.a.1 G.a.2.2.length G.a.2.1, .slice G.s.1 G.s.2.2.length G.s.2.1, .slice G.o.1 G.o.2.2.length G.o.2.1, .slice G.f.1 G.f.2.2.length G.f.2.1, .slice G.n.1 G.n.2.2.length G.n.2.1, .slice G.m.1 G.m.2.2.length G.m.2.1], .int .i64 (R : Int), .int .i64 (C : Int)] w fun e w' => e = .returned (.bool (shp G.a.2.2.length R C G.m.2.2)) ∧ Below w.heap.size w w' := by
  have H := hide' h
  have HA := hide' ha
  clear h
  go_enter Try.func62, Try.ntmps62
  have B0 : Hid (Bg G w.heap.size w (w.alloc (.cells #[.slice G.a.1 G.a.2.2.length G.a.2.1, .slice G.s.1 G.s.2.2.length G.s.2.1, .slice G.o.1 G.o.2.2.length G.o.2.1, .slice G.f.1 G.f.2.2.length G.f.2.1, .slice G.n.1 G.n.2.2.length G.n.2.1, .slice G.m.1 G.m.2.2.length G.m.2.1] 28))) := ⟨(Below.refl _ _).alloc (Nat.le_refl _) _, heap_alloc_new _ _⟩
  have c0 : (w.alloc (.cells #[.slice G.a.1 G.a.2.2.length G.a.2.1, .slice G.s.1 G.s.2.2.length G.s.2.1, .slice G.o.1 G.o.2.2.length G.o.2.1, .slice G.f.1 G.f.2.2.length G.f.2.1, .slice G.n.1 G.n.2.2.length G.n.2.1, .slice G.m.1 G.m.2.2.length G.m.2.1] 28)).cell? ⟨w.heap.size, 0, none⟩ = some (.slice G.a.1 G.a.2.2.length G.a.2.1) := by rw [Lib.cell_of_heap B0.out.h]; rfl
  have c5 : (w.alloc (.cells #[.slice G.a.1 G.a.2.2.length G.a.2.1, .slice G.s.1 G.s.2.2.length G.s.2.1, .slice G.o.1 G.o.2.2.length G.o.2.1, .slice G.f.1 G.f.2.2.length G.f.2.1, .slice G.n.1 G.n.2.2.length G.n.2.1, .slice G.m.1 G.m.2.2.length G.m.2.1] 28)).cell? ⟨w.heap.size, 5, none⟩ = some (.slice G.m.1 G.m.2.2.length G.m.2.1) := by rw [Lib.cell_of_heap B0.out.h]; rfl
  by_cases hm : G.m.2.2.length = R
  rotate_left
  · have hm' : ¬ (G.m.2.2.length : Int) = (R : Int) := by omega
    have hF : Hid (shp G.a.2.2.length R C G.m.2.2 = false) := by show _ = _; unfold shp; rw [beq_eq_false_iff_ne.2 hm]; rfl
    clear hm
    go_wp2_with fail
    go_ret
    exact ⟨ret_b hF.out.symm, B0.out.b⟩
  have hm' : (G.m.2.2.length : Int) = (R : Int) := by omega
  have Hm := hide' hm
  clear hm
  go_wp2_with fail
  generalize w.alloc (.cells #[.slice G.a.1 G.a.2.2.length G.a.2.1, .slice G.s.1 G.s.2.2.length G.s.2.1, .slice G.o.1 G.o.2.2.length G.o.2.1, .slice G.f.1 G.f.2.2.length G.f.2.1, .slice G.n.1 G.n.2.2.length G.n.2.1, .slice G.m.1 G.m.2.2.length G.m.2.1] 28) = V at *
  obtain ⟨q1, hq1⟩ : ∃ q1, q1 = w.heap.size := ⟨_, rfl⟩
  rw [← hq1] at B0 c0 c5
  rw [← hq1]
  clear hq1 hm'
  go_loopw [7, 8] (fun mv iv wx => ∃ (i : Nat) (M : Int), iv = .int .i64 (i : Int) ∧ i ≤ G.a.2.2.length ∧ mv = .int .i64 M ∧ 1 ≤ M ∧ M ≤ 65536 ∧ Hid (M = ((2 ^ i : Nat) : Int)) ∧ wx = V) (fun _ iv _ => G.a.2.2.length - (intOf iv).toNat)
  case atStart => exact ⟨0, 1, rfl, Nat.zero_le _, rfl, by decide, by decide, rfl, rfl⟩
  case round =>
    obtain ⟨i, M, rfl, hi, rfl, hM1, hM2, HM, rfl⟩ := hrel
    by_cases hlt : i < G.a.2.2.length
    · have hlt' : (i : Int) < (G.a.2.2.length : Int) := by omega
      have hN : Hid (2 * M = ((2 ^ (i + 1) : Nat) : Int)) := by show _ = _; rw [HM.out, Nat.pow_succ]; omega
      have hB : Hid (2 * M ≤ 65536) := by
        show _ ≤ _
        rw [hN.out]
        have := Nat.pow_le_pow_right (n := 2) (by decide) (show i + 1 ≤ 16 by omega)
        have e : (2 : Nat) ^ 16 = 65536 := rfl
        omega
      clear HM
      go_wp2_with fail
      exact ⟨⟨i + 1, 2 * M, by go_num, by omega, rfl, by omega, hB.out, hN, trivial⟩, by simp [intOf]; omega⟩
    · have hi' : i = G.a.2.2.length := by omega
      have hlt' : ¬ (i : Int) < (G.a.2.2.length : Int) := by omega
      have HK : Hid (M = ((2 ^ G.a.2.2.length : Nat) : Int)) := by have q := HM; rw [hi'] at q; exact q
      clear hlt hi hi' HM
      go_wp2_with fail
      go_loopw [9] (fun xv wx => ∃ (x : Nat), xv = .int .i64 (x : Int) ∧ x ≤ R ∧ Hid ((G.m.2.2.take x).all (rowOk (2 ^ G.a.2.2.length - 1) C) = true) ∧ wx = wr) (fun xv _ => R - (intOf xv).toNat)
      case atStart => exact ⟨0, rfl, Nat.zero_le _, rfl, rfl⟩
      case round =>
        obtain ⟨x, rfl, hx, HX, rfl⟩ := hrel
        by_cases hxt : x < R
        · have hxt' : (x : Int) < (R : Int) := by omega
          have hxm : (x : Int) < (G.m.2.2.length : Int) := by have := Hm.out; omega
          obtain ⟨r, hr⟩ : ∃ r, G.m.2.2[x]? = some r := ⟨_, List.getElem?_eq_getElem (by omega)⟩
          have hrm := List.mem_of_getElem? hr
          obtain ⟨y, off, hy, _, cr⟩ := (H.out.below B0.out.b).m.1.one hr
          have hrr := (H.out.below B0.out.b).r r hrm
          have HR := hide' hrr
          have hrc := hrr.1.2.1
          have hrl := hrr.1.2.2
          have hmem := hide' hrm
          have htk : Hid (G.m.2.2.take (x + 1) = G.m.2.2.take x ++ [r]) := by show _ = _; rw [List.take_add_one, hr]; rfl
          unfold Mr.cell at cr
          rw [hy] at c5
          clear hr hrm hrr hy
          by_cases hl : r.l.length = C
          rotate_left
          · have hl' : ¬ (r.l.length : Int) = (C : Int) := by omega
            have hF : Hid (shp G.a.2.2.length R C G.m.2.2 = false) := by show _ = _; unfold shp; rw [all_no hmem.out (by unfold rowOk; rw [beq_eq_false_iff_ne.2 hl]; rfl), Bool.and_false]
            clear hl
            go_wp2_with fail
            go_ret
            exact ⟨ret_b hF.out.symm, B0.out.b⟩
          have hl' : (r.l.length : Int) = (C : Int) := by omega
          have Hl := hide' hl
          clear hl
          go_wp2_with fail
          clear hl'
          go_loopw [10] (fun yv wx => ∃ (j : Nat), yv = .int .i64 (j : Int) ∧ j ≤ C ∧ Hid ((r.l.take j).any (fun m => out m (2 ^ G.a.2.2.length - 1)) = false) ∧ wx = wr) (fun yv _ => C - (intOf yv).toNat)
          case atStart => exact ⟨0, rfl, Nat.zero_le _, rfl, rfl⟩
          case round =>
            obtain ⟨j, rfl, hj, HJ, rfl⟩ := hrel
            by_cases hjt : j < C
            · have hjt' : (j : Int) < (C : Int) := by omega
              have hjl : (j : Int) < (r.l.length : Int) := by have := Hl.out; omega
              obtain ⟨z, hz⟩ : ∃ z, r.l[j]? = some z := ⟨_, List.getElem?_eq_getElem (by have := Hl.out; omega)⟩
              have hzm := List.mem_of_getElem? hz
              obtain ⟨y2, off2, hro, _, cz⟩ := HR.out.1.1.one hz
              have hz16 : (z : Int) ≤ 65535 := by have := HR.out.2 z hzm; omega
              have hz0 : (0 : Int) ≤ (z : Int) := by omega
              have HO : Hid (out z (2 ^ G.a.2.2.length - 1) = decide (2 ^ G.a.2.2.length ≤ z)) := out_ge _ _ (HR.out.2 z hzm) (by have := HA.out; omega)
              have hzt : Hid (r.l.take (j + 1) = r.l.take j ++ [z]) := by show _ = _; rw [List.take_add_one, hz]; rfl
              have Hzm := hide' hzm
              have hro' : r.ro = some ⟨y2, off2, none⟩ := hro
              rw [hro'] at cr
              clear hz hzm hro hro'
              by_cases hge : M ≤ (z : Int)
              · have hF : Hid (shp G.a.2.2.length R C G.m.2.2 = false) := by
                  show _ = _
                  unfold shp
                  have e : r.l.any (fun m => out m (2 ^ G.a.2.2.length - 1)) = true := by
                    rw [List.any_eq_true]
                    exact ⟨z, Hzm.out, by rw [HO.out]; exact decide_eq_true (by have := HK.out; omega)⟩
                  rw [all_no hmem.out (by unfold rowOk; rw [e]; simp), Bool.and_false]
                go_wp2_with fail
                go_ret
                exact ⟨ret_b hF.out.symm, B0.out.b⟩
              · have hJ2 : Hid ((r.l.take (j + 1)).any (fun m => out m (2 ^ G.a.2.2.length - 1)) = false) := by
                  show _ = _
                  rw [hzt.out, List.any_append, HJ.out]
                  simp only [List.any_cons, List.any_nil, Bool.or_false, Bool.false_or]
                  rw [HO.out]
                  exact decide_eq_false (by have := HK.out; omega)
                go_wp2_with fail
                exact ⟨⟨j + 1, by go_num, by omega, hJ2, trivial⟩, by simp [intOf]; omega⟩
            · have hj' : j = C := by omega
              subst hj'
              have hjt' : ¬ (j : Int) < (j : Int) := by omega
              have HX2 : Hid ((G.m.2.2.take (x + 1)).all (rowOk (2 ^ G.a.2.2.length - 1) j) = true) := by
                show _ = _
                have q := HJ.out
                rw [List.take_of_length_le (by have := Hl.out; omega)] at q
                rw [htk.out, List.all_append, HX.out]
                simp [rowOk, Hl.out, q]
              clear hjt hj HJ
              go_wp2_with fail
              exact ⟨⟨x + 1, by go_num, by omega, HX2, trivial⟩, by simp [intOf]; omega⟩
        · have hx' : x = R := by omega
          subst hx'
          have hxt' : ¬ (x : Int) < (x : Int) := by omega
          have hT : Hid (shp G.a.2.2.length x C G.m.2.2 = true) := by
            show _ = _
            have q := HX.out
            rw [List.take_of_length_le (by have := Hm.out; omega)] at q
            unfold shp
            rw [q, Hm.out]
            simp
          clear hxt hx HX
          go_wp2_with fail
          go_ret
          exact ⟨ret_b hT.out.symm, B0.out.b⟩
end V
end Go.Proofs.Ytmcdifmbblbhgaa
