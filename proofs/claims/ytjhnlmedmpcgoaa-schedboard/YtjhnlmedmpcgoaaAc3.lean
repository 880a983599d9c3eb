import Derived.Test.YtjhnlmedmpcgoaaAc2
set_option linter.unusedVariables false
set_option linter.unusedSimpArgs false
namespace Go.Proofs.Ytjhnlmedmpcgoaa
open Go.RowKit
namespace Q
open C (Tk)
variable {D U : Nat → Prop} {B K : Nat} {m : Mr} {w w' w1 : World} {s : Sq} {Db : Nat → Prop} {P E : Nat → Nat → Prop}
/-- where the moments of a machine of the document's lie -/
theorem dm_row (h : Dm D B m w) : ∃ da dc, w.cell? ⟨m.b, 2, none⟩ = some (.slice da m.ts.length dc) ∧ Ints w da m.ts ∧ m.b < w.heap.size := by
  rcases h with ⟨_, ao, cap, k, _⟩ | ⟨_, ⟨ao, cap, k, _⟩, _⟩
  · exact ⟨ao, cap, k.c1, Ints.of_row k.row, k.lt⟩
  · exact ⟨ao, cap, k.c1, Ints.of_row k.row, k.lt⟩
/-- the moments of a machine, held against the document's -/
theorem times_same {i : Nat} (h : Tb B s Db P E w) (r : Rest K s) (hi : i < s.MP.length) (hK : K < 8796093022209) : ∃ L gm db da dc, w.cell? ⟨s.t, 1, none⟩ = some (.slice (some ⟨gm, 0, none⟩) s.vm.length s.rm.c) ∧ w.cell? ⟨gm, i, none⟩ = some (.pointer (some ⟨db, 0, none⟩)) ∧ w.cell? ⟨db, 2, none⟩ = some (.slice da L dc) ∧ gm < w.heap.size ∧ db < w.heap.size ∧
    Calls Try.prog 45 #[.pointer (some ⟨s.t, 0, none⟩), .int .i64 (i : Int)] w fun e w2 => ∃ ro rc, e = .returned (.slice ro L rc) ∧ Hid (Below w.heap.size w w2) ∧ Hid (Calls Try.prog 20 #[.slice ro L rc, .slice da L dc] w2 fun e w3 => e = .returned (.bool true) ∧ Hid (Below w.heap.size w w3)) := by
  have hm := List.getElem?_eq_getElem hi
  obtain ⟨d, hd, hv, eo, en, et⟩ := r.hd hm
  obtain ⟨hc, ho⟩ := r.hc hm
  have hts := r.kt i _ hm
  obtain ⟨da, dc, q1, q2, q3⟩ := dm_row (h.dm i d hd)
  obtain ⟨gm, eg, r1, r2, _⟩ := at_row h.hm hv
  refine ⟨(s.MP[i]).ts.length, gm, d.b, da, dc, by rw [← eg]; exact h.c 1, r1, by rw [et]; exact q1, r2, q3, (times_is i _ h hm hc ho (by omega)).mono ?_⟩
  rintro e w2 ⟨ro, rc, rfl, k1, k2⟩
  refine ⟨ro, rc, rfl, hide' k2, hide' ?_⟩
  rw [← et] at q2
  refine (F.same_any ro rc _ da dc _ w2 k1 (q2.below k2) (by omega)).mono ?_
  rintro e w3 ⟨rfl, m, rfl⟩
  exact ⟨by simp, hide' (bel_drewN k2 m)⟩
set_option maxRecDepth 100000 in
set_option maxHeartbeats 4000000 in
theorem act8 (n : Int) (h : Tb B s Db P E w) (r : Rest K s) (hK : K < 8796093022209) :
    Calls Try.prog 22 #[.pointer (some ⟨s.t, 0, none⟩), .agg #[.int .i64 8, .int .i64 n]] w fun e w' => e = .returned (.bool true) ∧ AQ K B s (Sb s Db P E) w w' := by
  obtain ⟨w1, x, Hw1, Hx, b1, x1, t1, c0, c1, c3, o0, o1, nx⟩ := at_box 8 n h
  have hl := r.vl
  have hN := r.kN
  have KQ : Hid (∀ W, Below w1.heap.size w1 W → AQ K B s (Sb s Db P E) w W) := hide' (fun W b => AQ.idle h r (b1.trans (b.mono b1.size)))
  by_cases h0 : s.vm.length = 0
  · rw [h0] at c1
    clear h r b1 x1 t1 c3 hl hN h0
    go_enter Try.func22, Try.ntmps22
    go_upto_region 1 with fail
    rw [← Hw1.out, ← Hx.out]
    clear Hw1 Hx
    go_wp2_with fail
    go_quiet (fail)
    go_wp2
    go_ret
    exact ⟨rfl, KQ.out _ (bel_drewN (Below.refl _ _) _)⟩
  · obtain ⟨N, hNN⟩ : ∃ N, N = s.vm.length := ⟨_, rfl⟩
    have hN0 : 0 < N := by omega
    have HC : Hid (∀ W, _) := hide' (fun W => which_is n N hN0 (by omega) W)
    obtain ⟨i, hi⟩ : ∃ i, i = wv n N := ⟨_, rfl⟩
    have hlt := wv_lt n N hN0
    rw [← hi] at hlt
    simp only [← hi] at HC
    obtain ⟨L, gm, db, da, dc, q1, q2, q3, l1, l2, HT⟩ := times_same (t1.below (Below.refl w1.heap.size w1).drew) r (show i < s.MP.length by omega) hK
    have lt := t1.lt
    have lx := lt_of_heap x1
    rw [← hNN] at c1 q1
    have hiN : (i : Int) < (N : Int) := by omega
    have q1' : w1.cell? ⟨s.t, 1, none⟩ = some (.slice (some ⟨gm, 0, none⟩) N s.rm.c) := q1
    have q2' : w1.cell? ⟨gm, i, none⟩ = some (.pointer (some ⟨db, 0, none⟩)) := q2
    have q3' : w1.cell? ⟨db, 2, none⟩ = some (.slice da L dc) := q3
    have o1' : w1.drew.cell? ⟨x, 1, none⟩ = some (.int .i64 n) := o1
    have HT2 : Hid (Calls Try.prog 45 #[.pointer (some ⟨s.t, 0, none⟩), .int .i64 (i : Int)] w1.drew fun e w2 => ∃ ro rc, e = .returned (.slice ro L rc) ∧ (w2.cell? ⟨s.t, 1, none⟩ = some (.slice (some ⟨gm, 0, none⟩) N s.rm.c) ∧ w2.cell? ⟨gm, i, none⟩ = some (.pointer (some ⟨db, 0, none⟩)) ∧ w2.cell? ⟨db, 2, none⟩ = some (.slice da L dc) ∧ w2.cell? ⟨x, 1, none⟩ = some (.int .i64 n)) ∧ Hid (Calls Try.prog 20 #[.slice ro L rc, .slice da L dc] w2 fun e w3 => e = .returned (.bool true) ∧ (w3.cell? ⟨s.t, 1, none⟩ = some (.slice (some ⟨gm, 0, none⟩) N s.rm.c) ∧ w3.cell? ⟨gm, i, none⟩ = some (.pointer (some ⟨db, 0, none⟩)) ∧ w3.cell? ⟨db, 2, none⟩ = some (.slice da L dc) ∧ w3.cell? ⟨x, 1, none⟩ = some (.int .i64 n)) ∧ Hid (Below w1.drew.heap.size w1.drew w3))) := hide' (HT.mono (by
      rintro e w2 ⟨ro, rc, rfl, b, c⟩
      refine ⟨ro, rc, rfl, ⟨(b.out.cell (p := ⟨s.t, 1, none⟩) lt).trans q1, (b.out.cell (p := ⟨gm, i, none⟩) l1).trans q2, (b.out.cell (p := ⟨db, 2, none⟩) l2).trans q3, (b.out.cell (p := ⟨x, 1, none⟩) lx).trans o1'⟩, hide' (c.out.mono ?_)⟩
      rintro e w3 ⟨rfl, b⟩
      exact ⟨rfl, ⟨(b.out.cell (p := ⟨s.t, 1, none⟩) lt).trans q1, (b.out.cell (p := ⟨gm, i, none⟩) l1).trans q2, (b.out.cell (p := ⟨db, 2, none⟩) l2).trans q3, (b.out.cell (p := ⟨x, 1, none⟩) lx).trans o1'⟩, b⟩))
    have gg : ((N : Int) == 0) = false := beq_false_of_ne (by omega)
    have HB := hide' b1
    have b1d : Hid (Below w1.heap.size w1 w1.drew) := hide' (Below.refl _ _).drew
    clear h r b1 x1 t1 c3 hl hN h0 hNN hi hlt hK hN0 c0 c1 HT lt lx l1 l2 nx
    go_enter Try.func22, Try.ntmps22
    go_upto_region 1 with fail
    rw [← Hw1.out, ← Hx.out]
    clear Hw1 Hx
    go_wp2_with fail
    go_region_held3 (fun W => W.cell? ⟨s.t, 1, none⟩ = some (.slice (some ⟨gm, 0, none⟩) N s.rm.c) ∧ W.cell? ⟨gm, i, none⟩ = some (.pointer (some ⟨db, 0, none⟩)) ∧ W.cell? ⟨db, 2, none⟩ = some (.slice da L dc) ∧ W.cell? ⟨x, 1, none⟩ = some (.int .i64 n)) (first | exact ⟨q1', q2', q3', o1⟩ | exact ⟨q1, q2, q3, o1'⟩ | exact Z | exact Z3 | go_keep) ((first | (go_at_call 32; refine (HC.out _).mono ?_; rintro e w2 ⟨rfl, rfl⟩) | (go_at_call 45; refine HT2.out.mono ?_; rintro e w2 ⟨ro, rc, rfl, Z, HS⟩) | (go_at_call 20; refine HS.out.mono ?_; rintro e w3 ⟨rfl, Z3, KB⟩)))
    rename_i hHeld
    clear hHeld
    go_wp2
    go_ret
    exact ⟨rfl, KQ.out _ (b1d.out.trans KB.out)⟩
end Q
end Go.Proofs.Ytjhnlmedmpcgoaa
