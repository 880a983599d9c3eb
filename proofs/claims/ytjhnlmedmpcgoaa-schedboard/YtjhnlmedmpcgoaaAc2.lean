import Derived.Test.YtjhnlmedmpcgoaaAc1
set_option linter.unusedVariables false
set_option linter.unusedSimpArgs false
namespace Go.Proofs.Ytjhnlmedmpcgoaa
open Go.RowKit
namespace Q
open C (Tk)
variable {D U : Nat → Prop} {B K : Nat} {m : Mr} {w w' w1 : World} {s : Sq} {Db : Nat → Prop} {P E : Nat → Nat → Prop}
/-- the document's pick and the program's, one behind the other -/
theorem picks (n : Int) (h : Tb B s Db P E w) (r : Rest K s) (hB : B ≤ w.heap.size) (hK : K < 8796093022209) : ∃ v : Bool, Calls Try.prog 43 #[.pointer (some ⟨s.t, 1, none⟩), .int .i64 n] w fun e w2 => e = .returned (.bool v) ∧ ∃ s2, s2.t = s.t ∧ s2.b = s.b ∧ To B s2 (Sb s Db P E) w w2 ∧
    ∀ Db2 P2 E2 W, Tb B s2 Db2 P2 E2 W → B ≤ W.heap.size → Calls Try.prog 34 #[.pointer (some ⟨s.b, 0, none⟩), .int .i64 n] W fun e w3 => e = .returned (.bool v) ∧ ∃ s3, s3.t = s.t ∧ Rest (K + 1) s3 ∧ To B s3 (Sb s2 Db2 P2 E2) W w3 := by
  have hkn := r.kn
  have hnw := r.nw
  by_cases hr : 0 ≤ n ∧ n < (s.T.length : Int)
  · obtain ⟨k, rfl⟩ : ∃ k : Nat, n = (k : Int) := ⟨n.toNat, by omega⟩
    have hk : k < s.T.length := by omega
    obtain ⟨⟨i, x⟩, hx⟩ : ∃ x, s.T[k]? = some x := ⟨_, List.getElem?_eq_getElem hk⟩
    have heT : eT s.T (k : Int) = x := by
      unfold eT
      rw [if_pos hr, Int.toNat_natCast, hx]
      rfl
    have hmem := r.T (i, x) (List.mem_of_getElem? hx)
    by_cases h0 : 0 ≤ x
    · refine ⟨false, (rpick_none (k : Int) h (by omega) (.inr (by rw [heT]; exact h0))).mono ?_⟩
      rintro e w2 ⟨rfl, a⟩
      refine ⟨rfl, { s with dn := s.dn + 1 }, rfl, rfl, a, fun Db2 P2 E2 W z hB2 => (ppick_none (k : Int) z (by show s.now < _; omega) (.inl ?_)).mono ?_⟩
      · show C.en s.L (k : Int) ≠ -1
        rw [r.ends, heT]
        omega
      · rintro e w3 ⟨rfl, b⟩
        exact ⟨rfl, { s with dn := s.dn + 1, now := s.now + 1 }, rfl, r.idle, b⟩
    · have hx1 : x = -1 := by have := hmem.2; simp only at this; omega
      subst hx1
      have hm := List.getElem?_eq_getElem hmem.1
      simp only at hm
      obtain ⟨d, hd, hv, eo, en, et⟩ := r.hd hm
      have hts := r.kt i _ hm
      refine ⟨true, (rpick_some k i (-1) h hB (by omega) hx (by omega) hd hv (by rw [← et]; omega) rfl).mono ?_⟩
      rintro e w2 ⟨rfl, a⟩
      refine ⟨rfl, _, ?_, ?_, a, fun Db2 P2 E2 W z hB2 => ?_⟩
      · rfl
      · rfl
      refine (ppick_some k i z hB2 (by show s.now < _; omega) ?_ hm (by omega)).mono ?_
      · show s.L[k]? = _
        rw [r.L, List.getElem?_map, hx]
        simp only [Option.map_some]
        rw [vif_at hm]
      · rintro e w3 ⟨rfl, b⟩
        exact ⟨rfl, _, by exact rfl, r.step hx hm hd, b⟩
  · refine ⟨false, (rpick_none n h (by omega) (.inl hr)).mono ?_⟩
    rintro e w2 ⟨rfl, a⟩
    refine ⟨rfl, { s with dn := s.dn + 1 }, rfl, rfl, a, fun Db2 P2 E2 W z hB2 => (ppick_none n z (by show s.now < _; omega) (.inr ?_)).mono ?_⟩
    · show C.hs s.L n = false
      unfold C.hs
      rw [r.Ll]
      exact decide_eq_false hr
    · rintro e w3 ⟨rfl, b⟩
      exact ⟨rfl, { s with dn := s.dn + 1, now := s.now + 1 }, rfl, r.idle, b⟩
set_option maxRecDepth 100000 in
set_option maxHeartbeats 4000000 in
theorem act5 (n : Int) (h : Tb B s Db P E w) (r : Rest K s) (hB : B ≤ w.heap.size) (hK : K < 8796093022209) :
    Calls Try.prog 22 #[.pointer (some ⟨s.t, 0, none⟩), .agg #[.int .i64 5, .int .i64 n]] w fun e w' => e = .returned (.bool true) ∧ AQ K B s (Sb s Db P E) w w' := by
  obtain ⟨w1, x, Hw1, Hx, b1, x1, t1, c0, c1, c3, o0, o1, nx⟩ := at_box 5 n h
  have b1d : Below w1.heap.size w1 w1.drew := (Below.refl _ _).drew
  obtain ⟨v, HP⟩ := picks n (t1.below b1d) r (Nat.le_trans hB b1.size) hK
  have HP := hide' HP
  have HQ : Hid (∀ s2 w2, s2.t = s.t → s2.b = s.b → To B s2 (Sb s Db P E) w1.drew w2 → (∀ Db2 P2 E2 W, Tb B s2 Db2 P2 E2 W → B ≤ W.heap.size → Calls Try.prog 34 #[.pointer (some ⟨s.b, 0, none⟩), .int .i64 n] W fun e w3 => e = .returned (.bool v) ∧ ∃ s3, s3.t = s.t ∧ Rest (K + 1) s3 ∧ To B s3 (Sb s2 Db2 P2 E2) W w3) → w2.cell? ⟨s.t, 0, none⟩ = some (.pointer (some ⟨s.b, 0, none⟩)) ∧ w2.cell? ⟨x, 1, none⟩ = some (.int .i64 n) ∧ Hid (Calls Try.prog 34 #[.pointer (some ⟨s.b, 0, none⟩), .int .i64 n] w2.drew fun e w3 => e = .returned (.bool v) ∧ Hid (AQ K B s (Sb s Db P E) w w3))) := hide' (by
    intro s2 w2 e1 e2 a c
    have hx2 := a.box (x := x) (o := BA 5 n) x1 nx
    obtain ⟨Db2, P2, E2, z, t2, n2⟩ := a
    refine ⟨?_, (Lib.cell_of_heap hx2 1).trans rfl, hide' ?_⟩
    · have := z.c 0
      rw [e1] at this
      rw [this]
      show some (ptr s2.b) = _
      rw [e2]
      rfl
    · refine (c Db2 P2 E2 w2.drew (z.below (Below.refl _ _).drew) (Nat.le_trans hB (Nat.le_trans b1.size t2.size))).mono ?_
      rintro e w3 ⟨rfl, s3, f1, f2, f3⟩
      refine ⟨rfl, hide' ⟨s3, f1, f2, ?_⟩⟩
      have g : To B s2 (Sb s Db P E) w1 w2.drew := ⟨Db2, P2, E2, z.below (Below.refl _ _).drew, (turn_below b1d).trans t2.drew, n2⟩
      obtain ⟨Db3, P3, E3, q1, q2, q3⟩ := f3
      refine To.from ⟨Db3, P3, E3, q1, ((turn_below (S := Sb s Db P E) b1d).trans t2.drew).then q2 (fun j hj q => (n2 j q).elim id (fun y => by have y : w1.heap.size ≤ j := y; omega)), fun j q => ?_⟩ b1
      rcases q3 j q with y | y
      · exact n2 j y
      · exact .inr (Nat.le_trans (show w1.heap.size ≤ w2.heap.size from t2.size) y))
  clear h r b1 x1 t1 c3 nx b1d hB hK
  have c0' : w1.drew.cell? ⟨s.t, 0, none⟩ = some (.pointer (some ⟨s.b, 0, none⟩)) := c0
  have o1' : w1.drew.cell? ⟨x, 1, none⟩ = some (.int .i64 n) := o1
  generalize s.vm.length = n0 at *
  go_enter Try.func22, Try.ntmps22
  go_upto_region 1 with fail
  rw [← Hw1.out, ← Hx.out]
  clear Hw1 Hx
  go_wp2_with fail
  go_region_with (refine HP.out.mono ?_; rintro e w2 ⟨rfl, s2, e1, e2, a, c⟩)
  all_goals
    obtain ⟨d0, d1, HC⟩ := HQ.out s2 w2 e1 e2 a c
    clear e1 e2 a c HP HQ c0 c1 o0 o1 c0' o1'
    have d0' : w2.drew.cell? ⟨s.t, 0, none⟩ = some (.pointer (some ⟨s.b, 0, none⟩)) := d0
    have d1' : w2.drew.cell? ⟨x, 1, none⟩ = some (.int .i64 n) := d1
    go_wp2_with fail
    go_region_with (refine HC.out.mono ?_; rintro e w3 ⟨rfl, KQ⟩)
    all_goals
      clear HC d0 d1 d0' d1'
      go_wp2
      go_ret
      refine ⟨?_, KQ.out⟩
      first | rfl | (cases v <;> rfl)
end Q
end Go.Proofs.Ytjhnlmedmpcgoaa
