import Derived.Test.YtjhnlmedmpcgoaaRbk
import Derived.Deep.CutBlock
set_option linter.unusedVariables false
set_option linter.unusedSimpArgs false
namespace Go.Proofs.Ytjhnlmedmpcgoaa
open Go.RowKit
namespace Q
open C (Tk)
variable {D U : Nat → Prop} {B : Nat} {m : Mr} {w w' : World} {s : Sq} {Db : Nat → Prop} {P E : Nat → Nat → Prop}
/-- the end that the document's board tells -/
def eT (T : List (Nat × Int)) (k : Int) : Int := if 0 ≤ k ∧ k < (T.length : Int) then ((T[k.toNat]?).map (fun x => x.2)).getD (-1) else -1
set_option maxRecDepth 100000 in
set_option maxHeartbeats 4000000 in
theorem rended_any (k : Int) (h : Tb B s Db P E w) : Calls Try.prog 44 #[.pointer (some ⟨s.t, 1, none⟩), .int .i64 k] w fun e w' => e = .returned (.int .i64 (eT s.T k)) ∧ w' = w := by
  have c2 : w.cell? ⟨s.t, 2, none⟩ = some (.slice s.rt.a s.T.length s.rt.c) := h.c 2
  unfold eT
  by_cases hk : 0 ≤ k ∧ k < (s.T.length : Int)
  · rw [if_pos hk]
    obtain ⟨i, rfl⟩ : ∃ i : Nat, k = (i : Int) := ⟨k.toNat, by omega⟩
    have hi : i < s.T.length := by omega
    rw [Int.toNat_natCast, List.getElem?_eq_getElem hi]
    obtain ⟨g, hg, q1, q2, _⟩ := h.task (List.getElem?_eq_getElem hi)
    simp only [Option.map_some, Option.getD_some]
    rw [hg] at c2
    generalize (s.T[i]).2 = x at *
    have h1 : ¬ (i : Int) < 0 := by omega
    have h2 : ¬ (s.T.length : Int) ≤ (i : Int) := by omega
    have h3 : (i : Int) < (s.T.length : Int) := by omega
    clear h hg q1 hk
    generalize s.T.length = n at *
    generalize s.t = t at *
    generalize s.rt.c = c at *
    clear h2
    go_enter Try.func44, Try.ntmps44
    go_wp2
    go_ret
    exact ⟨rfl, rfl⟩
  · rw [if_neg hk]
    generalize s.T.length = n at *
    generalize s.t = t at *
    generalize s.rt.c = c at *
    generalize s.rt.a = a at *
    clear h
    by_cases h1 : k < 0
    · clear hk
      go_enter Try.func44, Try.ntmps44
      go_wp2
      go_ret
      exact ⟨rfl, rfl⟩
    · have h2 : (n : Int) ≤ k := by omega
      have h1' : 0 ≤ k := by omega
      clear hk
      go_enter Try.func44, Try.ntmps44
      go_wp2
      go_ret
      exact ⟨rfl, rfl⟩
set_option maxRecDepth 100000 in
set_option maxHeartbeats 4000000 in
/-- a pick that is no step -/
theorem rpick_none (k : Int) (h : Tb B s Db P E w) (hd : s.dn < 9000000000000000) (hk : ¬ (0 ≤ k ∧ k < (s.T.length : Int)) ∨ 0 ≤ eT s.T k) : Calls Try.prog 43 #[.pointer (some ⟨s.t, 1, none⟩), .int .i64 k] w fun e w' => e = .returned (.bool false) ∧ To B { s with dn := s.dn + 1 } (Sb s Db P E) w w' := by
  have c3 : w.cell? ⟨s.t, 3, none⟩ = some (.int .i64 (s.dn : Nat)) := h.c 3
  have f3 := h.fx 3
  have k1 := h.setN (s.dn + 1)
  obtain ⟨w1, hw1⟩ : ∃ w1, w1 = w.setCell ⟨s.t, 3, none⟩ (.int .i64 ((s.dn + 1 : Nat) : Int)) := ⟨_, rfl⟩
  have HW : Hid (wrap64 ((s.dn : Int) + 1) = ((s.dn + 1 : Nat) : Int)) := hide' (by rw [wrap_in (by omega) (by omega)]; omega)
  rw [← hw1] at k1
  have c2 : w1.cell? ⟨s.t, 2, none⟩ = some (.slice s.rt.a s.T.length s.rt.c) := k1.1.c 2
  have K1 : Hid (To B { s with dn := s.dn + 1 } (Sb s Db P E) w w1) := hide' ⟨Db, P, E, k1.1, k1.2, fun j q => .inl q⟩
  have Hw1 := hide' hw1
  by_cases hr : 0 ≤ k ∧ k < (s.T.length : Int)
  · obtain ⟨i, rfl⟩ : ∃ i : Nat, k = (i : Int) := ⟨k.toNat, by omega⟩
    have hi : i < s.T.length := by omega
    have hx : 0 ≤ (s.T[i]).2 := by
      rcases hk with q | q
      · exact absurd hr q
      · unfold eT at q
        rw [if_pos hr, Int.toNat_natCast, List.getElem?_eq_getElem hi] at q
        simpa using q
    obtain ⟨g, hg, q1, q2, _⟩ := k1.1.task (List.getElem?_eq_getElem (show i < s.T.length from hi))
    have hg : s.rt.a = some ⟨g, 0, none⟩ := hg
    rw [hg] at c2
    replace q1 : w1.cell? ⟨g, i * 2, none⟩ = some (.int .i64 ((s.T[i]).1 : Nat)) := q1
    replace q2 : w1.cell? ⟨g, i * 2 + 1, none⟩ = some (.int .i64 (s.T[i]).2) := q2
    generalize (s.T[i]).2 = x at *
    generalize (s.T[i]).1 = y at *
    have h1 : ¬ (i : Int) < 0 := by omega
    have h3 : (i : Int) < (s.T.length : Int) := by omega
    have K2 : Hid (To B { s with dn := s.dn + 1 } (Sb s Db P E) w (w1.alloc (.cells #[.int .i64 (y : Int), .int .i64 x] 95))) := hide' (by
      refine K1.out.trans (fun _ _ _ z => z.same ((Below.refl _ _).alloc (Nat.le_refl _) _))
      )
    clear h hg hk hr k1 hi K1 hw1 hd
    go_enter Try.func43, Try.ntmps43
    go_upto_region 3 with fail
    rw [HW.out, ← Hw1.out]
    clear Hw1 HW c3 f3
    go_wp2
    go_ret
    exact ⟨rfl, K2.out⟩
  · clear h k1 hk hw1 hd
    generalize s.T.length = n at *
    by_cases h1 : k < 0
    · clear hr
      go_enter Try.func43, Try.ntmps43
      go_upto_region 3 with fail
      rw [HW.out, ← Hw1.out]
      clear Hw1 HW c3 f3
      go_wp2
      go_ret
      exact ⟨rfl, K1.out⟩
    · have h2 : (n : Int) ≤ k := by omega
      have h1' : 0 ≤ k := by omega
      clear hr
      go_enter Try.func43, Try.ntmps43
      go_upto_region 3 with fail
      rw [HW.out, ← Hw1.out]
      clear Hw1 HW c3 f3
      go_wp2
      go_ret
      exact ⟨rfl, K1.out⟩
set_option maxRecDepth 100000 in
set_option maxHeartbeats 4000000 in
/-- a pick that is a step -/
theorem rpick_some (k i : Nat) (x : Int) (h : Tb B s Db P E w) (hB : B ≤ w.heap.size) (hd : s.dn < 9000000000000000) (hk : s.T[k]? = some (i, x)) (hx : x < 0) (hm : s.MD[i]? = some m) (hv : s.vm[i]? = some (ptr m.b)) (hs : m.ts.length < 17592186043904) {T' : List (Nat × Int)} (hT' : T' = if m.fin s.dn then s.T.set k (i, (s.dn : Int)) else s.T) :
    Calls Try.prog 43 #[.pointer (some ⟨s.t, 1, none⟩), .int .i64 (k : Int)] w fun e w' => e = .returned (.bool true) ∧ To B { s with dn := s.dn + 1, MD := s.MD.set i (m.up s.dn), T := T' } (Sb s Db P E) w w' := by
  have c3 : w.cell? ⟨s.t, 3, none⟩ = some (.int .i64 (s.dn : Nat)) := h.c 3
  have f3 := h.fx 3
  have k1 := h.setN (s.dn + 1)
  obtain ⟨w1, hw1⟩ : ∃ w1, w1 = w.setCell ⟨s.t, 3, none⟩ (.int .i64 ((s.dn + 1 : Nat) : Int)) := ⟨_, rfl⟩
  have HW : Hid (wrap64 ((s.dn : Int) + 1) = ((s.dn + 1 : Nat) : Int)) := hide' (by rw [wrap_in (by omega) (by omega)]; omega)
  rw [← hw1] at k1
  have Hw1 := hide' hw1
  obtain ⟨g, hg, q1, q2, _⟩ := k1.1.task (k := k) (x := (i, x)) hk
  have hg : s.rt.a = some ⟨g, 0, none⟩ := hg
  have c2 : w1.cell? ⟨s.t, 2, none⟩ = some (.slice (some ⟨g, 0, none⟩) s.T.length s.rt.c) := by rw [← hg]; exact k1.1.c 2
  replace q1 : w1.cell? ⟨g, k * 2, none⟩ = some (.int .i64 (i : Int)) := q1
  replace q2 : w1.cell? ⟨g, k * 2 + 1, none⟩ = some (.int .i64 x) := q2
  have hkl := idx hk
  have h1 : ¬ (k : Int) < 0 := by omega
  have h3 : (k : Int) < (s.T.length : Int) := by omega
  have hx0 : ¬ 0 ≤ x := by omega
  obtain ⟨w2, hw2⟩ : ∃ w2, w2 = w1.alloc (.cells #[.int .i64 (i : Int), .int .i64 x] 95) := ⟨_, rfl⟩
  have b2 : Below w1.heap.size w1 w2 := by rw [hw2]; exact (Below.refl _ _).alloc (Nat.le_refl _) _
  have y2 : w2.heap[w1.heap.size]? = some (.cells #[.int .i64 (i : Int), .int .i64 x] 95 (0, 0)) := by rw [hw2]; exact heap_alloc_new _ _
  have k2 := k1.1.below b2
  obtain ⟨y, hy⟩ : ∃ y, y = w1.heap.size := ⟨_, rfl⟩
  have k2d := k2.below (((Below.refl w2.heap.size w2)).drew)
  obtain ⟨gm, hgm, r1, r2, r3⟩ := at_row k2.hm (k := i) hv
  have hgm : s.rm.a = some ⟨gm, 0, none⟩ := hgm
  have cm : w2.cell? ⟨s.t, 1, none⟩ = some (.slice (some ⟨gm, 0, none⟩) s.vm.length s.rm.c) := by rw [← hgm]; exact k2.c 1
  have y0 : w2.cell? ⟨y, 0, none⟩ = some (.int .i64 (i : Int)) := by rw [hy, Lib.cell_of_heap y2]; rfl
  have y1 : w2.cell? ⟨y, 1, none⟩ = some (.int .i64 x) := by rw [hy, Lib.cell_of_heap y2]; rfl
  have hiv : (i : Int) < (s.vm.length : Int) := by have := idx hv; omega
  obtain ⟨mb, hmb⟩ : ∃ b, b = m.b := ⟨_, rfl⟩
  replace r1 : w2.cell? ⟨gm, i, none⟩ = some (.pointer (some ⟨mb, 0, none⟩)) := by rw [hmb]; exact r1
  have HC := hide' (dm_step (s.dn : Int) (k2d.dm i m hm) (Nat.le_trans hB (Nat.le_trans k1.2.size (show w1.heap.size ≤ w2.heap.size from b2.size))) hs)
  unfold ptr at HC
  rw [← hmb] at HC
  have nt : ∀ j, E i j → j ≠ s.t := fun j z e => by
    obtain ⟨t', k', zz⟩ := k2.ke (idx hm) z
    rw [e] at k'
    have := k'.det k2.kt
    omega
  have ng : ∀ j, E i j → j ≠ gm := fun j z e => by
    obtain ⟨t', k', zz⟩ := k2.ke (idx hm) z
    rw [e] at k'
    have := k'.det r3
    omega
  have ny : ∀ j, E i j → j ≠ y := fun j z e => by
    obtain ⟨t', k', zz⟩ := k2.ke (idx hm) z
    rw [e, hy] at k'
    have := k'.det ⟨_, _, y2⟩
    omega
  have lts : s.t < w2.drew.heap.size := k2.lt
  have lty : y < w2.drew.heap.size := by rw [hy]; exact lt_of_heap y2
  replace r2 : gm < w2.drew.heap.size := r2
  have cm' : w2.drew.cell? ⟨s.t, 1, none⟩ = some (.slice (some ⟨gm, 0, none⟩) s.vm.length s.rm.c) := cm
  have y0' : w2.drew.cell? ⟨y, 0, none⟩ = some (.int .i64 (i : Int)) := y0
  have r1' : w2.drew.cell? ⟨gm, i, none⟩ = some (.pointer (some ⟨mb, 0, none⟩)) := r1
  have HC2 : Hid (Calls Try.prog 16 #[.pointer (some ⟨mb, 0, none⟩), .int .i64 (s.dn : Nat)] w2.drew fun e w' => e = .returned (.bool (m.fin s.dn)) ∧ (w'.cell? ⟨s.t, 1, none⟩ = some (.slice (some ⟨gm, 0, none⟩) s.vm.length s.rm.c) ∧ w'.cell? ⟨y, 0, none⟩ = some (.int .i64 (i : Int)) ∧ w'.cell? ⟨gm, i, none⟩ = some (.pointer (some ⟨mb, 0, none⟩))) ∧ Hid (To B { s with dn := s.dn + 1, MD := s.MD.set i (m.up s.dn) } (Sb s Db P E) w w')) := hide' (HC.out.mono (by
    rintro e w3 ⟨rfl, D', d1, d2, d3⟩
    refine ⟨rfl, ⟨(d2.cell (p := ⟨s.t, 1, none⟩) lts (fun z => nt _ z rfl)).trans cm', (d2.cell (p := ⟨y, 0, none⟩) lty (fun z => ny _ z rfl)).trans y0', (d2.cell (p := ⟨gm, i, none⟩) r2 (fun z => ng _ z rfl)).trans r1'⟩, hide' ?_⟩
    have e1 : To B { s with dn := s.dn + 1 } (Sb s Db P E) w w2.drew := ⟨Db, P, E, k2d, k1.2.trans (turn_below b2.drew), fun j q => .inl q⟩
    obtain ⟨_, _, _, a, b, c⟩ := k2d.turnE (idx hm) d2 d1 d3
    refine ⟨_, _, _, a, (k1.2.trans (turn_below b2.drew)).then b (fun j _ q => q), fun j q => ?_⟩
    rcases c j q with q | q
    · exact .inl q
    · exact .inr (Nat.le_trans k1.2.size (Nat.le_trans b2.size q))))
  have KK := hide' (And.intro hg hk)
  have Hw2 := hide' hw2
  have Hy := hide' hy
  clear h k1 hw1 hw2 b2 k2 k2d hg hgm hm hk hv hx hd hB hs r3 hy y2 hkl hmb HC lts lty nt ng ny
  generalize s.vm.length = vn at *
  go_enter Try.func43, Try.ntmps43
  go_upto_region 3 with fail
  rw [HW.out, ← Hw1.out]
  clear HW Hw1 c3 f3
  go_upto_region 6 with fail
  rw [← Hw2.out, ← Hy.out]
  clear Hw2 Hy
  go_wp2_with fail
  go_region_with (refine HC2.out.mono ?_; rintro e w3 ⟨rfl, Z, T3⟩)
  all_goals
    have hgT := KK.out.1
    have hkT := KK.out.2
    clear Z y0 y1 cm cm' y0' r1' r1 r2 HC2 q1 q2 c2 KK
    cases hf : m.fin s.dn with
    | false =>
      have HT : Hid (T' = s.T) := hide' (hT'.trans (if_neg (by rw [hf]; decide)))
      clear hT'
      go_wp2
      go_ret
      rw [HT.out]
      exact ⟨rfl, T3.out⟩
    | true =>
      have HT : Hid (T' = s.T.set k (i, (s.dn : Int))) := hide' (hT'.trans (if_pos hf))
      clear hT'
      obtain ⟨Db3, P3, E3, a, b, c⟩ := T3.out
      have k3 := a.setT (g := g) (k := k) (x := (i, x)) hgT hkT (s.dn : Int)
      have c2 : w3.cell? ⟨s.t, 2, none⟩ = some (.slice (some ⟨g, 0, none⟩) s.T.length s.rt.c) := by rw [← hgT]; exact a.c 2
      obtain ⟨g', hg', _, q2, q3, _⟩ := a.task (k := k) (x := (i, x)) hkT
      have hg' : s.rt.a = some ⟨g', 0, none⟩ := hg'
      rw [hgT] at hg'
      cases hg'
      have q2 : w3.cell? ⟨g, k * 2 + 1, none⟩ = some (.int .i64 x) := q2
      have q4 := q3 (k * 2 + 1)
      have K3 := hide' (And.intro k3 (And.intro b c))
      clear a b c k3 q3 hgT hkT T3
      go_wp2
      go_ret
      rw [HT.out]
      refine ⟨rfl, Db3, P3, E3, K3.out.1.1, K3.out.2.1.then K3.out.1.2 (fun j hj q => (K3.out.2.2 j q).elim id (fun z => by omega)), fun j q => K3.out.2.2 j q⟩
end Q
end Go.Proofs.Ytjhnlmedmpcgoaa
