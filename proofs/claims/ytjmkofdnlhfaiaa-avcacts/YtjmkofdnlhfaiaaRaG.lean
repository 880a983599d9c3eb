import Derived.Test.YtjmkofdnlhfaiaaRaF
import Derived.Test.YtjmkofdnlhfaiaaAvN
set_option linter.unusedVariables false
set_option linter.unusedSimpArgs false
namespace Go.Proofs.Ytjmkofdnlhfaiaa
open Go.RowKit
namespace C
variable {n v : Nat} {s : St} {L : List Dc} {B c g r hb : Nat} {b : Nat → Nat} {lo : Option Addr} {lc : Nat} {w w' : World}
set_option maxRecDepth 100000 in
set_option maxHeartbeats 2000000 in
theorem made_any (p q : Int) (w : World) : Calls Try.prog 15 #[.int .i64 p, .int .i64 q] w fun e w' => ∃ pc pr, e = .returned (.tuple #[.agg #[.pointer pc, .pointer pr], .bool true]) ∧ Hid (Below w.heap.size w w' ∧ Mk w.heap.size pc pr w w') := by
  obtain ⟨w1, hw1⟩ : ∃ w1, w1 = w.alloc (.cells #[.pointer none, .pointer none] 40) := ⟨_, rfl⟩
  have hb1 : Below w.heap.size w w1 := by rw [hw1]; exact (Below.refl _ _).alloc (Nat.le_refl _) _
  obtain ⟨x, hx⟩ : ∃ x, x = w.heap.size := ⟨_, rfl⟩
  have hbx : w1.heap[x]? = some (.cells #[.pointer none, .pointer none] 40 (0, 0)) := by rw [hw1, hx]; exact heap_alloc_new _ _
  have Hx := hide' hx
  have Hw1 := hide' hw1
  by_cases hb : p < 1 ∨ 256 < p ∨ q < 1 ∨ 8 < q
  · have H1 := hide' (new_no p q w1 hb)
    have H2 := hide' (rnew_no p q w1 hb)
    have x0 : w1.cell? ⟨x, 0, none⟩ = some (.pointer none) := by rw [Lib.cell_of_heap hbx]; rfl
    have x1 : w1.cell? ⟨x, 1, none⟩ = some (.pointer none) := by rw [Lib.cell_of_heap hbx]; rfl
    have xf : ∀ j, w1.frozen? ⟨x, j, none⟩ = false := fun j => Lib.frozen_of_heap hbx j
    have HE : Hid (((w1.setCell ⟨x, 0, none⟩ (.pointer none)).setCell ⟨x, 1, none⟩ (.pointer none)).heap[x]? = some (.cells #[.pointer none, .pointer none] 40 (0, 0)) ∧ Below w.heap.size w ((w1.setCell ⟨x, 0, none⟩ (.pointer none)).setCell ⟨x, 1, none⟩ (.pointer none))) := hide' ⟨set_block (off := 1) (set_block (off := 0) hbx), by
      have t := (turn_b x 0 (.pointer none) w1).trans (turn_b x 1 (.pointer none) _)
      exact hb1.trans (t.below (fun j hj => by rw [hj, hx]; exact Nat.le_refl _) hb1.size)⟩
    clear hb hb1 hbx hx hw1
    go_enter Try.func15, Try.ntmps15
    go_wp2_with fail
    rw [← Hx.out, ← Hw1.out]
    refine H1.out.mono ?_
    rintro e wa ⟨rfl, hwa⟩
    replace hwa := hwa.symm
    subst hwa
    go_wp2_with fail
    refine H2.out.mono ?_
    rintro e wa ⟨rfl, hwa⟩
    replace hwa := hwa.symm
    subst hwa
    clear H1 H2
    go_wp2
    generalize ((w1.setCell ⟨x, 0, none⟩ (.pointer none)).setCell ⟨x, 1, none⟩ (.pointer none)) = W at *
    refine bodyPost_ret (results_row_tmp rfl _ _ x 40 #[.pointer none, .pointer none] (0, 0) _ rfl HE.out.1 Try.underlying40 rfl (by kernel_rfl)) rfl ?_
    exact ⟨none, none, rfl, hide' ⟨HE.out.2, .inl ⟨rfl, rfl⟩⟩⟩
  · obtain ⟨n, hn⟩ : ∃ n : Nat, p = (n : Int) := ⟨p.toNat, by omega⟩
    obtain ⟨v, hv⟩ : ∃ v : Nat, q = (v : Int) := ⟨q.toNat, by omega⟩
    have hn' : 1 ≤ n ∧ n ≤ 256 := by omega
    have hv' : 1 ≤ v ∧ v ≤ 8 := by omega
    have H1 := hide' (new_any p q n v w1 hn hv hn' hv')
    have H2 := hide' (fun w => rnew_any p q n v w hn hv hn' hv')
    have HB := hide' (And.intro hb1 (And.intro hbx (And.intro hn' (And.intro hv' hx))))
    clear hb hb1 hbx hx hw1 hn hv hn' hv'
    go_enter Try.func15, Try.ntmps15
    go_wp2_with fail
    rw [← Hx.out, ← Hw1.out]
    refine H1.out.mono ?_
    rintro e w2 ⟨c, rfl, g, b, h2, b2⟩
    have H3 := hide' (H2.out w2)
    obtain ⟨r, hr⟩ : ∃ r, r = w2.heap.size + 1 := ⟨_, rfl⟩
    rw [← hr] at H3
    have HX : Hid (r = w2.heap.size + 1 ∧ Ca w1.heap.size c g n v b st0 w2 ∧ Below w1.heap.size w1 w2) := hide' ⟨hr, h2, b2⟩
    clear H1 H2 h2 b2 hr
    go_wp2_with fail
    refine H3.out.mono ?_
    rintro e w3 ⟨rfl, hw3⟩
    have HF : Hid (Pr w.heap.size c g n v b r w2.heap.size st0 none w3 ∧ Below w.heap.size w w3 ∧ w3.heap[x]? = some (.cells #[.pointer none, .pointer none] 40 (0, 0))) := hide' (by
      obtain ⟨hr, h2, b2⟩ := HX.out
      obtain ⟨q1, q2, q3, q4, q5⟩ := HB.out
      obtain ⟨f1, f2⟩ := rf0 (B := w.heap.size) (v := v) q3 q4 (Nat.le_trans q1.size b2.size) hw3.out
      have hca := h2.below f2
      refine ⟨⟨⟨hca.hc, hca.hg, hca.hb, hca.inj, ?_, ?_, ?_, hca.n1, hca.n2, hca.v1, hca.v2, hca.hh⟩, [], 0, by rw [hr]; exact f1⟩, q1.trans ((b2.trans (f2.mono b2.size)).mono q1.size), ((b2.trans (f2.mono b2.size)).block x (lt_of_heap q2)).trans q2⟩
      · exact Nat.le_trans q1.size hca.lc
      · exact Nat.le_trans q1.size hca.lg
      · exact fun i hi => Nat.le_trans q1.size (hca.lb i hi))
    have x0 : w3.cell? ⟨x, 0, none⟩ = some (.pointer none) := by rw [Lib.cell_of_heap HF.out.2.2]; rfl
    have x1 : w3.cell? ⟨x, 1, none⟩ = some (.pointer none) := by rw [Lib.cell_of_heap HF.out.2.2]; rfl
    have xf : ∀ j, w3.frozen? ⟨x, j, none⟩ = false := fun j => Lib.frozen_of_heap HF.out.2.2 j
    have HE : Hid (((w3.setCell ⟨x, 0, none⟩ (.pointer (some ⟨c, 0, none⟩))).setCell ⟨x, 1, none⟩ (.pointer (some ⟨r, 0, none⟩))).heap[x]? = some (.cells #[.pointer (some ⟨c, 0, none⟩), .pointer (some ⟨r, 0, none⟩)] 40 (0, 0)) ∧ Below w.heap.size w ((w3.setCell ⟨x, 0, none⟩ (.pointer (some ⟨c, 0, none⟩))).setCell ⟨x, 1, none⟩ (.pointer (some ⟨r, 0, none⟩))) ∧ Pr w.heap.size c g n v b r w2.heap.size st0 none ((w3.setCell ⟨x, 0, none⟩ (.pointer (some ⟨c, 0, none⟩))).setCell ⟨x, 1, none⟩ (.pointer (some ⟨r, 0, none⟩)))) := hide' (by
      have t := (turn_b x 0 (.pointer (some ⟨c, 0, none⟩)) w3).trans (turn_b x 1 (.pointer (some ⟨r, 0, none⟩)) _)
      refine ⟨set_block (off := 1) (set_block (off := 0) HF.out.2.2), HF.out.2.1.trans (t.below (fun j hj => by rw [hj, HB.out.2.2.2.2]; exact Nat.le_refl _) HF.out.2.1.size), HF.out.1.kept t (fun j hj e => ?_)⟩
      subst e
      exact HF.out.1.not HF.out.2.2 (by decide) (by decide) hj)
    clear H3 HX HF hw3 HB
    go_wp2
    generalize ((w3.setCell ⟨x, 0, none⟩ (.pointer (some ⟨c, 0, none⟩))).setCell ⟨x, 1, none⟩ (.pointer (some ⟨r, 0, none⟩))) = W at *
    refine bodyPost_ret (results_row_tmp rfl _ _ x 40 #[.pointer (some ⟨c, 0, none⟩), .pointer (some ⟨r, 0, none⟩)] (0, 0) _ rfl HE.out.1 Try.underlying40 rfl (by kernel_rfl)) rfl ?_
    exact ⟨_, _, rfl, hide' ⟨HE.out.2.1, .inr ⟨c, g, n, v, b, r, _, rfl, rfl, HE.out.2.2⟩⟩⟩
end C
end Go.Proofs.Ytjmkofdnlhfaiaa
