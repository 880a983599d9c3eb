import Derived.Test.YtbbopkhgmgdlfaaJV
import Derived.Test.YtbbopkhgmgdlfaaBld
import Derived.Test.YtbbopkhgmgdlfaaFrame
import Derived.Test.YtbbopkhgmgdlfaaIns
import Derived.Deep.CondSized
set_option linter.unusedVariables false
set_option linter.unusedSimpArgs false
namespace Go.Proofs.Ytbbopkhgmgdlfaa
open Go.RowKit
namespace Wt
open M F V
variable {w0 : World} {c x sl n K N k j : Nat} {q : Pl} {s : St} {tr : List Ac} {LL : List Lb} {AA : List Wb} {w w' : World} {D : Nat → Prop} {p : Lb}
def l0 (k : Nat) : Li := ⟨k, -1, -1, -1, 0, -1, 0, 0⟩
theorem fin_r0 {lb sb : Nat} (hL : s.L = LL.map (·.2.2)) (hA : s.A = AA.map (·.2.2)) (inv : Inv n K s (N : Nat)) (tl : tr.length ≤ 2 * N + 1) (ll : LL.length ≤ N) (al : AA.length ≤ N) (hk : k < n) (hN : N < 199999999999) (hi : s.inn k = -1)
    (h : Ms w0 c x sl n K (N : Nat) D (Mm n s.cur s.ep s.wd) s.cur (((List.range n).map s.inn).set k (LL.length : Nat)) ((List.range K).map s.turn) q tr (LL ++ [(lb, sb, l0 k)]) AA w) :
    w.cell? ⟨c, 3, none⟩ = some (.int .i64 (N : Nat)) ∧ w.cell? ⟨lb, 2, none⟩ = some (.int .i64 (-1)) ∧ w.frozen? ⟨lb, 2, none⟩ = false ∧ (w.setCell ⟨lb, 2, none⟩ (.int .i64 (N : Nat))).cell? ⟨lb, 0, none⟩ = some (.pointer (some ⟨sb, 0, none⟩)) ∧ Calls Try.prog 26 #[.pointer (some ⟨sb, 0, none⟩)] (w.setCell ⟨lb, 2, none⟩ (.int .i64 (N : Nat))) (fun r w' => r = .returned (.bool false) ∧ Se w0 c x sl n K (N + 1) (N : Nat) w') := by
  have hp : (LL ++ [(lb, sb, l0 k)])[LL.length]? = some (lb, sb, l0 k) := List.getElem?_concat_length
  have hlt : LL.length < (LL ++ [(lb, sb, l0 k)]).length := by simp
  have ha := h.setLife (lb, sb, ⟨k, (N : Nat), -1, -1, 0, -1, 0, 0⟩) hp 2 (.int .i64 (N : Nat)) rfl rfl ⟨rfl, rfl, rfl⟩ rfl
  have hpa : ((LL ++ [(lb, sb, l0 k)]).set LL.length (lb, sb, ⟨k, (N : Nat), -1, -1, 0, -1, 0, 0⟩))[LL.length]? = some (lb, sb, ⟨k, (N : Nat), -1, -1, 0, -1, 0, 0⟩) := List.getElem?_set_self hlt
  have hsc : Sc sb x 1 2 n k 0 0 (w.setCell ⟨lb, 2, none⟩ (.int .i64 (N : Nat))) := (ha.sw.sec hpa).1
  have z := mm1 n (cur := s.cur) (ep := s.ep) s.wd (by have := inv.ep; omega)
  refine ⟨h.sw.c3, by have := h.sw.l2 hp; exact this, h.cell_life hp 2, by have := ha.sw.l0 hpa; exact this, ?_⟩
  refine (step0_any ha.m hsc (by omega)).mono fun r w' ⟨hr, ht⟩ => ⟨hr, ?_⟩
  rw [z.2.2.1, z.2.1] at ht
  obtain ⟨D', h4⟩ := ha.secTo (bad' := 0 + 0) rfl (lb, sb, ⟨k, (N : Nat), -1, -1, 0, -1, 1, s.ep⟩) hpa rfl rfl rfl ht
  rw [List.set_set, rmap_set, List.set_append_right _ _ (Nat.le_refl _), Nat.sub_self] at h4
  have e : (r0 s k (N : Nat)).inn = fup s.inn k (LL.length : Nat) := by
    show fup s.inn k (s.L.length : Nat) = _
    rw [hL, List.length_map]
  rw [← e] at h4
  refine ⟨D', r0 s k (N : Nat), q, _, _, AA, h4, ?_, hA, ?_, by rw [List.length_append, List.length_singleton]; omega, by rw [List.length_append, List.length_set, List.length_singleton]; omega, by omega⟩
  · show s.L ++ [_] = _
    rw [hL, List.map_append]; rfl
  · rw [n1]; exact inv_r0 inv hk hi
set_option maxRecDepth 100000 in
set_option maxHeartbeats 4000000 in
theorem reader_0 (h : At1 w0 c x sl n K N D s q tr LL AA w) (hk : k < n) (hn : n ≤ 16) (hN : N < 199999999999) (hi : s.inn k = -1) :
    Calls Try.prog 21 #[.pointer (some ⟨c, 0, none⟩), .int .i64 (k : Nat)] w fun r w' => r = .returned (.bool true) ∧ Se w0 c x sl n K (N + 1) (N : Nat) w' := by
  have c5 := h.ms.sw.c5
  have e0 := h.ms.sw.icell (rmap_at s.inn hk)
  rw [hi] at e0
  have c1 := h.ms.sw.c1
  have hk' : (k : Int) < (n : Int) := by omega
  obtain ⟨W1, hW1⟩ : ∃ W1, W1 = w.alloc (.cells #[.pointer (some ⟨x, 0, none⟩), .int .i64 (1 : Nat), .int .i64 (2 : Nat), .int .i64 (n : Nat), .int .i64 (k : Nat), .int .i64 0, .int .i64 0] 115) := ⟨_, rfl⟩
  have HE : Hid (Calls Try.prog 25 #[.pointer (some ⟨sl, 0, none⟩), .int .i64 (k : Nat)] w fun r w' => r = .returned (.tuple #[.pointer (some ⟨w.heap.size, 0, none⟩), .int .i64 0]) ∧ w' = W1) := hide' (by rw [hW1]; exact enter_ok k h.ms.sw.hsl hk)
  have b1 : Below w.heap.size w W1 := by rw [hW1]; exact (Below.refl _ _).alloc (Nat.le_refl _) _
  have hs1 : Sc w.heap.size x 1 2 n k 0 0 W1 := by rw [hW1]; exact enter_sc x 1 2 n k w
  have HMk : Hid (Calls Try.prog 30 #[.pointer (some ⟨w.heap.size, 0, none⟩)] W1 fun r w' => r = .returned (.int .i64 0) ∧ w' = W1) := hide' (mark_any hs1)
  have h1 : At1 w0 c x sl n K N D s q tr LL AA W1 := ⟨h.ms.quiet b1, h.eL, h.eA, h.inv, h.tl, h.ll, h.al⟩
  have g5 := h1.ms.sw.c5
  have g4 := h1.ms.sw.c4
  have i0 := h1.ms.sw.icell (rmap_at s.inn hk)
  rw [hi] at i0
  have f0 := h1.ms.fz_in k
  have HH := hide' (And.intro h1 (And.intro hs1 b1))
  have HK := hide' (And.intro hk (And.intro hn (And.intro hN hi)))
  have HSec : Hid (∀ (i : Nat) (p : Lb), LL[i]? = some p → p.2.1 ≠ w.heap.size) := hide' (fun i p hp e => by have := lt_of_heap (h.ms.sw.sec hp).1; omega)
  have HSz := hide' h.ms.bel.size
  clear h1 hs1 b1 h hW1 hk hn hN hi
  go_enter Try.func21, Try.ntmps21
  go_wp2_with fail
  refine HE.out.mono ?_
  rintro r w3 ⟨rfl, rfl⟩
  clear HE c5 e0 c1
  go_wp2_with fail
  refine HMk.out.mono ?_
  rintro r w4 ⟨rfl, rfl⟩
  clear HMk
  go_wp2_with fail
  go_region
  clear g5 i0 f0
  obtain ⟨W2, hW2⟩ : ∃ W2, W2 = (w4.setCell ⟨q.gi, k, none⟩ (.int .i64 (LL.length : Nat))).drew := ⟨_, rfl⟩
  have H2 : Hid (Ms w0 c x sl n K (N : Nat) D (Mm n s.cur s.ep s.wd) s.cur (((List.range n).map s.inn).set k (LL.length : Nat)) ((List.range K).map s.turn) q tr LL AA W2 ∧ Sc w.heap.size x 1 2 n k 0 0 W2) := hide' (by
    have hm := HH.out.1.ms.iput HK.out.1 (LL.length : Nat)
    refine ⟨by rw [hW2]; exact hm.quiet ⟨rfl, rfl, rfl, Nat.le_refl _, fun _ _ => rfl⟩, ?_⟩
    obtain ⟨ci, hci⟩ := HH.out.1.ms.sw.gik
    have hne : ¬ w.heap.size = q.gi := cells_ne (show w4.heap[w.heap.size]? = some (Obj.cells (scc x 1 2 n k 0 0) 115 (0, 0)) from HH.out.2.1) hci (by decide)
    have := Sc.kept (S := fun j => j = q.gi) HH.out.2.1 (turn_b q.gi k (.int .i64 (LL.length : Nat)) w4) hne
    rw [hW2]
    exact this)
  rw [← hW2]
  have c4 := H2.out.1.sw.c4
  clear g4 hW2
  have B3 : Below W2.heap.size W2 (W2.alloc (.cells #[.pointer (some ⟨w.heap.size, 0, none⟩), .int .i64 (k : Nat), .int .i64 (-1), .int .i64 (-1), .int .i64 (-1), .int .i64 0, .int .i64 (-1)] 105)) := (Below.refl _ _).alloc (Nat.le_refl _) _
  have H3 := hide' (And.intro (H2.out.1.quiet B3) (And.intro (H2.out.2.below B3) (show (W2.alloc (.cells #[.pointer (some ⟨w.heap.size, 0, none⟩), .int .i64 (k : Nat), .int .i64 (-1), .int .i64 (-1), .int .i64 (-1), .int .i64 0, .int .i64 (-1)] 105)).heap[W2.heap.size]? = some (.cells (lic (W2.heap.size, w.heap.size, l0 k)) 105 (0, 0)) from heap_alloc_new _ _)))
  have HRw := hide' (H3.out.1.sw.rl)
  have HL1 := hide' (show LL.length < 3000000000000 by have := HH.out.1.ll; have := HK.out.2.2.1; omega)
  have HB9 := hide' (H3.out.1.bel.size)
  have nws : Hid (¬ At q.lo c) := hide' (fun z => by obtain ⟨_, _, cs', h'⟩ := row_atk H3.out.1.sw.rl z; exact cells_ne H3.out.1.sw.hc h' (by decide) rfl)
  have HN : Hid (∀ (i : Nat) (p : Lb), LL[i]? = some p → p.2.1 ≠ w.heap.size ∧ p.1 ≠ W2.heap.size) := hide' (fun i p hp => ⟨HSec.out i p hp, fun e => by have := lt_of_heap (H2.out.1.sw.life hp).1; omega⟩)
  have HBs : Hid (w0.heap.size ≤ w.heap.size ∧ w0.heap.size ≤ W2.heap.size) := hide' ⟨HSz.out, H2.out.1.bel.size⟩
  have HSZ : Hid ((W2.alloc (.cells #[.pointer (some ⟨w.heap.size, 0, none⟩), .int .i64 (k : Nat), .int .i64 (-1), .int .i64 (-1), .int .i64 (-1), .int .i64 0, .int .i64 (-1)] 105)).heap.size = W2.heap.size + 1) := hide' (Array.size_push _)
  clear B3
  go_wp2_with (at_builtin; refine wpList_more (e := 103) (m := 1) Try.underlying64 info103 rfl (by decide) (by decide) (W2.alloc (.cells #[.pointer (some ⟨w.heap.size, 0, none⟩), .int .i64 (k : Nat), .int .i64 (-1), .int .i64 (-1), .int .i64 (-1), .int .i64 0, .int .i64 (-1)] 105)) rfl _ _ rfl HRw.out HL1.out HB9.out [.pointer (some ⟨W2.heap.size, 0, none⟩)] rfl (by simp [Value.oneCell']) _ rfl (by rw [HSZ.out]; rfl) ?_; intro gg cap' w5 hr5 t5 hg5; have a0 := (t5.cell (p := ⟨c, 4, none⟩) (lt_of_heap H3.out.1.sw.hc) nws.out).trans H3.out.1.sw.c4; have a1 : w5.frozen? ⟨c, 4, none⟩ = false := Lib.frozen_of_heap ((t5.block c (lt_of_heap H3.out.1.sw.hc) nws.out).trans H3.out.1.sw.hc) 4)
  have H5 := hide' (H3.out.1.growL (sb := w.heap.size) (lb := W2.heap.size) (l := l0 k) H3.out.2.1 H3.out.2.2 HBs.out HN.out hr5 t5)
  have HP := hide' HH.out.1
  clear a0 a1 c4 hr5 t5 hg5 HRw HL1 HB9 HSZ nws HN HBs H3 H2 HH HSec HSz
  generalize w5.setCell ⟨c, 4, none⟩ (.slice (some ⟨gg, 0, none⟩) (LL.length + 1) cap') = W5 at *
  generalize W2.heap.size = lb at *
  generalize w.heap.size = sb at *
  have m5 := H5.out.sw.c5
  have m4 := H5.out.sw.c4
  have hp : (LL ++ [(lb, sb, l0 k)])[LL.length]? = some (lb, sb, l0 k) := List.getElem?_concat_length
  have m0 := H5.out.sw.icell (k := k) (v := (LL.length : Nat)) (List.getElem?_set_self (by simpa using HK.out.1))
  obtain ⟨g, hg, m1⟩ := H5.out.sw.lrow hp
  rw [List.length_append, List.length_singleton, hg] at m4
  have HF := hide' (fun m => fin_r0 HP.out.eL HP.out.eA HP.out.inv HP.out.tl HP.out.ll HP.out.al HK.out.1 HK.out.2.2.1 HK.out.2.2.2 (H5.out.drewN m))
  have hlj : ((LL.length : Nat) : Int) < ((LL.length + 1 : Nat) : Int) := by omega
  clear hp hg HP H5 HK
  generalize LL.length = L at *
  go_quiet (fail)
  obtain ⟨b1, b2, b3, b4, b5⟩ := HF.out nq
  have HC' := hide' b5
  clear b5 HF m0 m1 m4 m5
  generalize W5.drewN nq = W6 at *
  go_wp2_with fail
  refine HC'.out.mono ?_
  rintro r W7 ⟨rfl, f3⟩
  have F := hide' f3
  clear f3 HC' b1 b2 b3 b4
  go_wp2
  go_ret
  exact ⟨rfl, F.out⟩
end Wt
end Go.Proofs.Ytbbopkhgmgdlfaa
set_option linter.unusedVariables false
set_option linter.unusedSimpArgs false
namespace Go.Proofs.Ytbbopkhgmgdlfaa
open Go.RowKit
namespace Wt
open M F V
variable {w0 : World} {c x sl n K N k j : Nat} {q : Pl} {s : St} {now cur : Int} {ii tt : List Int} {ws : List Int} {tr : List Ac} {LL : List Lb} {AA : List Wb} {w w' : World} {D : Nat → Prop} {p : Wb}
theorem At1.aj (h : At1 w0 c x sl n K N D s q tr LL AA w) (hp : AA[j]? = some p) : s.A[j]? = some p.2.2 := by rw [h.eA, List.getElem?_map, hp]; rfl
theorem Ms.wc (h : Ms w0 c x sl n K now D ws cur ii tt q tr LL AA w) (hp : AA[j]? = some p) : w.cell? ⟨p.1, 0, none⟩ = some (.pointer (some ⟨p.2.1, 0, none⟩)) ∧ w.cell? ⟨p.1, 1, none⟩ = some (.int .i64 p.2.2.first) ∧ w.cell? ⟨p.1, 2, none⟩ = some (.int .i64 p.2.2.steps) ∧ w.cell? ⟨p.1, 3, none⟩ = some (.int .i64 p.2.2.vain) ∧ w.cell? ⟨p.1, 4, none⟩ = some (.bool p.2.2.over) ∧ ∀ m, w.frozen? ⟨p.1, m, none⟩ = false := ⟨h.sw.w0 hp, h.sw.w1 hp, h.sw.w2 hp, h.sw.w3 hp, h.sw.w4 hp, h.cell_wait hp⟩
theorem Ms.gr (h : Ms w0 c x sl n K now D ws cur ii tt q tr LL AA w) (hp : AA[j]? = some p) : Gr p.2.1 x 1 2 n p.2.2.si p.2.2.nx w := (h.sw.gra hp).1
/-- At of a period, wherever it is asked -/
theorem Ms.at_ (h : Ms w0 c x sl n K now D ws cur ii tt q tr LL AA w) (hp : AA[j]? = some p) (v : Int) (hv : gat n p.2.2.nx = v) (m : Nat) : Calls Try.prog 27 #[.pointer (some ⟨p.2.1, 0, none⟩)] (w.drewN m) fun r w' => r = .returned (.int .i64 v) ∧ ∃ k, w' = (w.drewN m).drewN k := by
  have := at_any ((h.drewN m).gr hp)
  rw [hv] at this
  exact this
set_option maxRecDepth 100000 in
set_option maxHeartbeats 4000000 in
theorem writer_1 (h : At1 w0 c x sl n K N D s q tr LL AA w) (hk : k < K) (hn : n ≤ 16) (hN : N < 199999999999) (hi : s.turn k = (j : Nat)) (hp : AA[j]? = some p) (hf : p.2.2.first < 0) :
    Calls Try.prog 22 #[.pointer (some ⟨c, 0, none⟩), .int .i64 (k : Nat)] w fun r w' => r = .returned (.bool true) ∧ Se w0 c x sl n K (N + 1) (N : Nat) w' := by
  have hlt := (List.getElem?_eq_some_iff.1 hp).1
  have hj := h.aj hp
  obtain ⟨z1, z2, z3, z4, z5, z6⟩ := (h.inv.wa j _ hj).no hf
  have hn1 := h.inv.n1
  have hep := h.inv.ep
  have hepb := h.inv.epb
  have tl := h.tl
  have c7 := h.ms.sw.c7
  have e0 := h.ms.sw.tcell (rmap_at s.turn hk)
  rw [hi] at e0
  obtain ⟨g, hg, e1⟩ := h.ms.sw.wrow hp
  have c6 := h.ms.sw.c6
  rw [hg] at c6
  obtain ⟨y0, y1, y2, y3, y4, yf⟩ := h.ms.wc hp
  rw [z6] at y4
  have hlj : (j : Int) < (AA.length : Int) := by omega
  have hk' : (k : Int) < (K : Int) := by omega
  have d0 : decide ((j : Int) < 0) = false := decide_eq_false (by omega)
  have zz := mm1 n (cur := s.cur) (ep := s.ep) s.wd (by omega)
  have wz : wrap64 (s.ep + 1) = s.ep + 1 := by unfold wrap64; omega
  -- at the period's first step
  have HG : Hid (∀ V, Ms w0 c x sl n K (N : Nat) D (Mm n s.cur s.ep s.wd) s.cur ((List.range n).map s.inn) ((List.range K).map s.turn) q tr LL AA V → V.cell? ⟨c, 3, none⟩ = some (.int .i64 (N : Nat)) ∧ V.cell? ⟨p.1, 0, none⟩ = some (.pointer (some ⟨p.2.1, 0, none⟩)) ∧ V.cell? ⟨p.1, 1, none⟩ = some (.int .i64 (-1)) ∧ V.frozen? ⟨p.1, 1, none⟩ = false ∧ (V.setCell ⟨p.1, 1, none⟩ (.int .i64 (N : Nat))).cell? ⟨p.1, 0, none⟩ = some (.pointer (some ⟨p.2.1, 0, none⟩)) ∧ Calls Try.prog 24 #[.pointer (some ⟨p.2.1, 0, none⟩)] (V.setCell ⟨p.1, 1, none⟩ (.int .i64 (N : Nat))) (fun r V' => r = .returned (.bool false) ∧ V'.cell? ⟨p.1, 4, none⟩ = some (.bool false) ∧ V'.frozen? ⟨p.1, 4, none⟩ = false ∧ (V'.setCell ⟨p.1, 4, none⟩ (.bool false)).cell? ⟨p.1, 2, none⟩ = some (.int .i64 0) ∧ (V'.setCell ⟨p.1, 4, none⟩ (.bool false)).frozen? ⟨p.1, 2, none⟩ = false ∧ ∃ D', Ms w0 c x sl n K (N : Nat) D' (Mm n s.cur (s.ep + 1) s.wd) s.cur ((List.range n).map s.inn) ((List.range K).map s.turn) q (tr ++ [⟨4, (1 : Nat), 1, s.ep, good (Mm n s.cur s.ep s.wd) (1 : Nat)⟩]) LL (AA.set j (p.1, p.2.1, w1a p.2.2 s.ep (N : Nat))) ((V'.setCell ⟨p.1, 4, none⟩ (.bool false)).setCell ⟨p.1, 2, none⟩ (.int .i64 1)))) := hide' (fun V hV => by
    obtain ⟨x0, x1, x2, x3, x4, xf⟩ := hV.wc hp
    have ha := hV.setWait (p.1, p.2.1, { p.2.2 with first := (N : Nat) }) hp 1 (.int .i64 (N : Nat)) rfl rfl ⟨rfl, rfl⟩ rfl
    have hpa : (AA.set j (p.1, p.2.1, { p.2.2 with first := (N : Nat) }))[j]? = some (p.1, p.2.1, { p.2.2 with first := (N : Nat) }) := List.getElem?_set_self hlt
    have hgr : Gr p.2.1 x 1 2 n 0 (-1) (V.setCell ⟨p.1, 1, none⟩ (.int .i64 (N : Nat))) := by
      have := ha.gr hpa
      show _ = some (Obj.cells (grc x 1 2 n 0 (-1)) 113 (0, 0))
      rw [show (_ : Option Obj) = _ from this]
      show some (Obj.cells (grc x 1 2 n p.2.2.si p.2.2.nx) 113 (0, 0)) = _
      rw [z2, z3]
    refine ⟨hV.sw.c3, x0, by rw [x1, z1], xf 1, by have := (ha.wc hpa).1; exact this, ?_⟩
    refine (grace0_any ha.m hgr hn1 (by omega)).mono fun r V' ⟨hr, ht⟩ => ⟨hr, ?_⟩
    rw [zz.2.2.1, zz.2.1, wz, zz.2.2.2] at ht
    obtain ⟨D', h4⟩ := ha.graTo (bad' := 0 + 0) rfl (p.1, p.2.1, { p.2.2 with first := (N : Nat), si := s.ep + 1, nx := 0 }) hpa rfl rfl rfl ht
    rw [List.set_set] at h4
    have hpb : (AA.set j (p.1, p.2.1, { p.2.2 with first := (N : Nat), si := s.ep + 1, nx := 0 }))[j]? = some (p.1, p.2.1, { p.2.2 with first := (N : Nat), si := s.ep + 1, nx := 0 }) := List.getElem?_set_self hlt
    obtain ⟨u0, u1, u2, u3, u4, uf⟩ := h4.wc hpb
    have h5 := h4.setWait (p.1, p.2.1, { p.2.2 with first := (N : Nat), si := s.ep + 1, nx := 0, over := false }) hpb 4 (.bool false) rfl rfl ⟨rfl, rfl⟩ rfl
    rw [List.set_set] at h5
    have hpc : (AA.set j (p.1, p.2.1, { p.2.2 with first := (N : Nat), si := s.ep + 1, nx := 0, over := false }))[j]? = some (p.1, p.2.1, { p.2.2 with first := (N : Nat), si := s.ep + 1, nx := 0, over := false }) := List.getElem?_set_self hlt
    obtain ⟨v0, v1, v2, v3, v4, vf⟩ := h5.wc hpc
    have h6 := h5.setWait (p.1, p.2.1, { p.2.2 with first := (N : Nat), si := s.ep + 1, nx := 0, over := false, steps := 1 }) hpc 2 (.int .i64 1) rfl rfl ⟨rfl, rfl⟩ rfl
    rw [List.set_set] at h6
    refine ⟨u4.trans (by show some (Value.bool p.2.2.over) = _; rw [z6]), uf 4, v2.trans (by show some (Value.int .i64 p.2.2.steps) = _; rw [z4]), vf 2, D', ?_⟩
    have e : w1a p.2.2 s.ep (N : Nat) = { p.2.2 with first := (N : Nat), si := s.ep + 1, nx := 0, over := false, steps := 1 } := by
      unfold w1a
      rw [← z5]
    rw [e]
    exact h6)
  have HE : Hid (∀ D' V m, Ms w0 c x sl n K (N : Nat) D' (Mm n s.cur (s.ep + 1) s.wd) s.cur ((List.range n).map s.inn) ((List.range K).map s.turn) q (tr ++ [⟨4, (1 : Nat), 1, s.ep, good (Mm n s.cur s.ep s.wd) (1 : Nat)⟩]) LL (AA.set j (p.1, p.2.1, w1a p.2.2 s.ep (N : Nat))) V → Se w0 c x sl n K (N + 1) (N : Nat) (V.drewN m)) := hide' (fun D' V m hV => by
    have ll := h.ll
    have al := h.al
    refine ⟨D', Wt.w1 s j p.2.2 (N : Nat), q, _, LL, _, hV.drewN m, h.eL, ?_, ?_, by rw [List.length_append, List.length_singleton]; omega, by omega, by rw [List.length_set]; omega⟩
    · show s.A.set j _ = _
      rw [h.eA, List.map_set]
    · rw [n1]; exact inv_w1 h.inv hj)
  have HM := hide' h.ms
  have HA : Hid (∀ V, Ms w0 c x sl n K (N : Nat) D (Mm n s.cur s.ep s.wd) s.cur ((List.range n).map s.inn) ((List.range K).map s.turn) q tr LL AA V → Calls Try.prog 27 #[.pointer (some ⟨p.2.1, 0, none⟩)] V (fun r V' => r = .returned (.int .i64 (-1)) ∧ ∃ k, V' = V.drewN k) ∧ Calls Try.prog 28 #[.pointer (some ⟨p.2.1, 0, none⟩)] V (fun r V' => r = .returned (.bool true) ∧ ∃ k, V' = V.drewN k)) := hide' (fun V hV => by
    have e1 : isl n p.2.2.nx = false := decide_eq_false (by rw [z2]; omega)
    refine ⟨?_, ready_out (hV.gr hp) e1⟩
    have := at_any (hV.gr hp)
    rw [show gat n p.2.2.nx = -1 from if_neg (by rw [e1]; decide)] at this
    exact this)
  have HA2 : Hid (∀ D' V m, Ms w0 c x sl n K (N : Nat) D' (Mm n s.cur (s.ep + 1) s.wd) s.cur ((List.range n).map s.inn) ((List.range K).map s.turn) q (tr ++ [⟨4, (1 : Nat), 1, s.ep, good (Mm n s.cur s.ep s.wd) (1 : Nat)⟩]) LL (AA.set j (p.1, p.2.1, w1a p.2.2 s.ep (N : Nat))) V → Calls Try.prog 27 #[.pointer (some ⟨p.2.1, 0, none⟩)] (V.drewN m) (fun r V' => r = .returned (.int .i64 0) ∧ ∃ k, V' = (V.drewN m).drewN k) ∧ (V.drewN m).cell? ⟨p.1, 0, none⟩ = some (.pointer (some ⟨p.2.1, 0, none⟩)) ∧ (V.drewN m).cell? ⟨p.1, 2, none⟩ = some (.int .i64 1) ∧ (V.drewN m).cell? ⟨p.1, 3, none⟩ = some (.int .i64 0) ∧ (V.drewN m).cell? ⟨p.1, 4, none⟩ = some (.bool false) ∧ (V.drewN m).cell? ⟨c, 2, none⟩ = some (.int .i64 (n : Nat))) := hide' (fun D' V m hV => by
    have hpb : (AA.set j (p.1, p.2.1, w1a p.2.2 s.ep (N : Nat)))[j]? = some (p.1, p.2.1, w1a p.2.2 s.ep (N : Nat)) := List.getElem?_set_self hlt
    obtain ⟨u0, u1, u2, u3, u4, uf⟩ := (hV.drewN m).wc hpb
    refine ⟨hV.at_ hpb 0 ?_ m, u0, u2, u3, u4, (hV.drewN m).sw.c2⟩
    show gat n 0 = 0
    exact if_pos (decide_eq_true (by omega)))
  have dn : decide ((1 : Int) ≤ 1 + (n : Int)) = true := decide_eq_true (by omega)
  have wn : IntKind.wrap .i64 (1 + (n : Int)) = 1 + (n : Int) := by rw [IntKind.wrap_i64]; omega
  have wn2 : IntKind.wrap .i64 (1 + (n : Int) + 0) = 1 + (n : Int) := by rw [IntKind.wrap_i64]; omega
  have Hc := hide' (And.intro dn (And.intro wn wn2))
  clear h hk hi hp hf hg hj z1 z2 z3 z4 z5 z6 hn1 hep hepb tl zz wz yf y1 y2 y3 dn wn wn2 hlt y0
  generalize p.2.1 = gb at *
  generalize p.1 = pb at *
  generalize AA.length = L at *
  go_enter Try.func22, Try.ntmps22
  go_wp2_with fail
  go_quiet (fail)
  have HM2 := hide' (HM.out.drewN nq)
  replace c7 : (w.drewN nq).cell? ⟨c, 7, none⟩ = some (.slice (some ⟨q.gt, 0, none⟩) K q.tc) := c7
  replace c6 : (w.drewN nq).cell? ⟨c, 6, none⟩ = some (.slice (some ⟨g, 0, none⟩) L q.wc) := c6
  replace e0 : (w.drewN nq).cell? ⟨q.gt, k, none⟩ = some (.int .i64 (j : Nat)) := e0
  replace e1 : (w.drewN nq).cell? ⟨g, j, none⟩ = some (.pointer (some ⟨pb, 0, none⟩)) := e1
  clear HM y4
  generalize w.drewN nq = wA at *
  go_wp2_with fail
  go_quiet (fail)
  have HM3 := hide' (HM2.out.drewN nq)
  clear c7 c6 e0 e1 HM2
  generalize wA.drewN nq = wB at *
  obtain ⟨q3, q0, q1, q1f, qa, q9⟩ := HG.out wB HM3.out
  clear q3 q1 q1f qa q9
  go_wp2_with fail
  refine (HA.out wB HM3.out).1.mono ?_
  rintro r wC ⟨rfl, m1, rfl⟩
  have HM4 := hide' (HM3.out.drewN m1)
  replace q0 : (wB.drewN m1).cell? ⟨pb, 0, none⟩ = some (.pointer (some ⟨gb, 0, none⟩)) := q0
  clear HM3
  generalize wB.drewN m1 = wC at *
  go_wp2_with fail
  refine (HA.out wC HM4.out).2.mono ?_
  rintro r wD ⟨rfl, m2, rfl⟩
  have HM5 := hide' (HM4.out.drewN m2)
  clear HM4 q0 HA
  generalize wC.drewN m2 = wD at *
  obtain ⟨q3, q0, q1, q1f, qa, q24⟩ := HG.out wD HM5.out
  have H24 := hide' q24
  clear q24 HG HM5
  go_wp2_with fail
  refine H24.out.mono ?_
  rintro r wE ⟨rfl, f1, f2, f3, f4, D', f5⟩
  have H5 := hide' f5
  clear f5 H24 q3 q0 q1 q1f qa
  obtain ⟨r9, r0, r2, r3, r4, rc⟩ := HA2.out D' _ 0 H5.out
  replace r0 : ((wE.setCell ⟨pb, 4, none⟩ (.bool false)).setCell ⟨pb, 2, none⟩ (.int .i64 1)).cell? ⟨pb, 0, none⟩ = some (.pointer (some ⟨gb, 0, none⟩)) := r0
  replace r4 : ((wE.setCell ⟨pb, 4, none⟩ (.bool false)).setCell ⟨pb, 2, none⟩ (.int .i64 1)).cell? ⟨pb, 4, none⟩ = some (.bool false) := r4
  clear r2 r3 rc r9
  go_wp2_with fail
  clear r0 r4 f1 f2 f3 f4
  generalize (wE.setCell ⟨pb, 4, none⟩ (.bool false)).setCell ⟨pb, 2, none⟩ (.int .i64 1) = wF at *
  refine (HA2.out D' wF 0 H5.out).1.mono ?_
  rintro r wG ⟨rfl, m3, hG⟩
  have H6 : Hid (Ms w0 c x sl n K (N : Nat) D' (Mm n s.cur (s.ep + 1) s.wd) s.cur ((List.range n).map s.inn) ((List.range K).map s.turn) q (tr ++ [⟨4, (1 : Nat), 1, s.ep, good (Mm n s.cur s.ep s.wd) (1 : Nat)⟩]) LL (AA.set j (pb, gb, w1a p.2.2 s.ep (N : Nat))) wG) := hide' (by rw [hG]; exact (H5.out.drewN 0).drewN m3)
  clear hG H5
  obtain ⟨r9, r0, r2, r3, r4, rc⟩ := HA2.out D' wG 0 H6.out
  replace r0 : wG.cell? ⟨pb, 0, none⟩ = some (.pointer (some ⟨gb, 0, none⟩)) := r0
  clear r2 r3 rc r4 r9
  go_wp2_with fail
  clear r0
  refine (HA2.out D' wG 0 H6.out).1.mono ?_
  rintro r wH ⟨rfl, m4, hH⟩
  have H7 : Hid (Ms w0 c x sl n K (N : Nat) D' (Mm n s.cur (s.ep + 1) s.wd) s.cur ((List.range n).map s.inn) ((List.range K).map s.turn) q (tr ++ [⟨4, (1 : Nat), 1, s.ep, good (Mm n s.cur s.ep s.wd) (1 : Nat)⟩]) LL (AA.set j (pb, gb, w1a p.2.2 s.ep (N : Nat))) wH) := hide' (by rw [hH]; exact (H6.out.drewN 0).drewN m4)
  clear hH H6
  obtain ⟨r9, r0, r2, r3, r4, rc⟩ := HA2.out D' wH 0 H7.out
  replace r2 : wH.cell? ⟨pb, 2, none⟩ = some (.int .i64 1) := r2
  replace r3 : wH.cell? ⟨pb, 3, none⟩ = some (.int .i64 0) := r3
  replace r4 : wH.cell? ⟨pb, 4, none⟩ = some (.bool false) := r4
  replace rc : wH.cell? ⟨c, 2, none⟩ = some (.int .i64 (n : Nat)) := rc
  obtain ⟨dn, wn, wn2⟩ := Hc.out
  clear r0 HA2 Hc r9
  go_wp2_with fail
  go_quiet (fail)
  go_wp2
  go_ret
  exact ⟨rfl, HE.out D' wH nq H7.out⟩
end Wt
end Go.Proofs.Ytbbopkhgmgdlfaa
set_option linter.unusedVariables false
set_option linter.unusedSimpArgs false
namespace Go.Proofs.Ytbbopkhgmgdlfaa
open Go.RowKit
namespace Wt
open M F V
variable {w0 : World} {c x sl n K N k j : Nat} {q : Pl} {s : St} {tr : List Ac} {LL : List Lb} {AA : List Wb} {w w' : World} {D : Nat → Prop} {p : Wb}
abbrev MsF (w0 : World) (c x sl n K N : Nat) (s : St) (q : Pl) (LL : List Lb) (D : Nat → Prop) (tr : List Ac) (AA : List Wb) (V : World) : Prop := Ms w0 c x sl n K (N : Nat) D (Mm n s.cur s.ep s.wd) s.cur ((List.range n).map s.inn) ((List.range K).map s.turn) q tr LL AA V
set_option maxRecDepth 100000 in
set_option maxHeartbeats 4000000 in
theorem writer_2a (h : At1 w0 c x sl n K N D s q tr LL AA w) (hk : k < K) (hn : n ≤ 16) (hN : N < 199999999999) (hi : s.turn k = (j : Nat)) (hp : AA[j]? = some p) (hf : 0 ≤ p.2.2.first) {kk : Nat} (hx : p.2.2.nx = (kk : Nat)) (hkk : kk < n) (hl : ltq p.2.2.si (s.wd kk) = true) (he : kk + 1 = n) :
    Calls Try.prog 22 #[.pointer (some ⟨c, 0, none⟩), .int .i64 (k : Nat)] w fun r w' => r = .returned (.bool true) ∧ Se w0 c x sl n K (N + 1) (N : Nat) w' := by
  have hlt := (List.getElem?_eq_some_iff.1 hp).1
  have hj := h.aj hp
  obtain ⟨u1, u2, u3, u4, u5, u6, u7, u8⟩ := (h.inv.wa j _ hj).yes hf
  have hov : p.2.2.over = false := by
    cases e : p.2.2.over with
    | false => rfl
    | true => have := u8.1 e; omega
  have hn1 := h.inv.n1
  have tl := h.tl
  have ll := h.ll
  have al := h.al
  have c7 := h.ms.sw.c7
  have e0 := h.ms.sw.tcell (rmap_at s.turn hk)
  rw [hi] at e0
  obtain ⟨g, hg, e1⟩ := h.ms.sw.wrow hp
  have c6 := h.ms.sw.c6
  rw [hg] at c6
  have y4 := h.ms.sw.w4 hp
  rw [hov] at y4
  have hlj : (j : Int) < (AA.length : Int) := by omega
  have hk' : (k : Int) < (K : Int) := by omega
  have d0 : decide ((j : Int) < 0) = false := decide_eq_false (by omega)
  have d1 : decide (p.2.2.first < 0) = false := decide_eq_false (by omega)
  have zz := mmk s.cur s.ep s.wd hkk (h.wdn hkk)
  have ws1 : wrap64 (p.2.2.steps + 1) = p.2.2.steps + 1 := by unfold wrap64; omega
  have wv1 : wrap64 (p.2.2.vain + 1) = p.2.2.vain + 1 := by unfold wrap64; omega
  have HG : Hid (∀ V, MsF w0 c x sl n K N s q LL D tr AA V → V.cell? ⟨p.1, 0, none⟩ = some (.pointer (some ⟨p.2.1, 0, none⟩)) ∧ V.cell? ⟨p.1, 1, none⟩ = some (.int .i64 p.2.2.first) ∧ Calls Try.prog 24 #[.pointer (some ⟨p.2.1, 0, none⟩)] V (fun r V' => r = .returned (.bool true) ∧ V'.cell? ⟨p.1, 4, none⟩ = some (.bool false) ∧ V'.frozen? ⟨p.1, 4, none⟩ = false ∧ (V'.setCell ⟨p.1, 4, none⟩ (.bool true)).cell? ⟨p.1, 2, none⟩ = some (.int .i64 p.2.2.steps) ∧ (V'.setCell ⟨p.1, 4, none⟩ (.bool true)).frozen? ⟨p.1, 2, none⟩ = false ∧ ∃ D' tr', tr'.length ≤ 2 * N + 2 ∧ MsF w0 c x sl n K N s q LL D' tr' (AA.set j (p.1, p.2.1, (⟨p.2.2.first, p.2.2.steps + 1, p.2.2.vain, true, p.2.2.put, p.2.2.old, p.2.2.si, p.2.2.nx + 1⟩ : Wa))) ((V'.setCell ⟨p.1, 4, none⟩ (.bool true)).setCell ⟨p.1, 2, none⟩ (.int .i64 (wrap64 (p.2.2.steps + 1)))))) := hide' (fun V hV => by
    obtain ⟨x0, x1, x2, x3, x4, xf⟩ := hV.wc hp
    have hgr : Gr p.2.1 x 1 2 n p.2.2.si (kk : Nat) V := by rw [← hx]; exact hV.gr hp
    refine ⟨x0, x1, ?_⟩
    refine (graceL_any kk (2 + kk) rfl (by omega) hV.m hgr hkk hn (by omega)).mono fun r V' ⟨hr, ht⟩ => ?_
    rw [zz.2.1] at hr ht
    rw [zz.2.2.1, show ((nxt p.2.2.si (s.wd kk) kk : Nat) : Int) = p.2.2.nx + 1 from (by unfold nxt; rw [show lts p.2.2.si (s.wd kk) = true from hl, if_pos rfl]; omega)] at ht
    rw [show decide (nxt p.2.2.si (s.wd kk) kk = n) = true from decide_eq_true (by unfold nxt; rw [show lts p.2.2.si (s.wd kk) = true from hl, if_pos rfl]; exact he)] at hr
    obtain ⟨D', h4⟩ := hV.graTo (bad' := 0 + 0) rfl (p.1, p.2.1, { p.2.2 with nx := p.2.2.nx + 1 }) hp rfl rfl rfl ht
    have hpb : (AA.set j (p.1, p.2.1, { p.2.2 with nx := p.2.2.nx + 1 }))[j]? = some (p.1, p.2.1, { p.2.2 with nx := p.2.2.nx + 1 }) := List.getElem?_set_self hlt
    obtain ⟨a0, a1, a2, a3, a4, af⟩ := h4.wc hpb
    have h5 := h4.setWait (p.1, p.2.1, { p.2.2 with nx := p.2.2.nx + 1, over := true }) hpb 4 (.bool true) rfl rfl ⟨rfl, rfl⟩ rfl
    rw [List.set_set] at h5
    have hpc : (AA.set j (p.1, p.2.1, { p.2.2 with nx := p.2.2.nx + 1, over := true }))[j]? = some (p.1, p.2.1, { p.2.2 with nx := p.2.2.nx + 1, over := true }) := List.getElem?_set_self hlt
    obtain ⟨v0, v1, v2, v3, v4, vf⟩ := h5.wc hpc
    have h6 := h5.setWait (p.1, p.2.1, (⟨p.2.2.first, p.2.2.steps + 1, p.2.2.vain, true, p.2.2.put, p.2.2.old, p.2.2.si, p.2.2.nx + 1⟩ : Wa)) hpc 2 (.int .i64 (p.2.2.steps + 1)) rfl rfl ⟨rfl, rfl⟩ rfl
    rw [List.set_set] at h6
    refine ⟨hr, a4.trans (by show some (Value.bool p.2.2.over) = _; rw [hov]), af 4, v2, vf 2, D', _, ?_, by rw [ws1]; exact h6⟩
    rw [List.length_append, List.length_singleton]; omega)
  have HA : Hid (∀ V, MsF w0 c x sl n K N s q LL D tr AA V → Calls Try.prog 27 #[.pointer (some ⟨p.2.1, 0, none⟩)] V (fun r V' => r = .returned (.int .i64 (kk : Nat)) ∧ ∃ k, V' = V.drewN k) ∧ Calls Try.prog 28 #[.pointer (some ⟨p.2.1, 0, none⟩)] V (fun r V' => r = .returned (.bool true) ∧ Below V.heap.size V V')) := hide' (fun V hV => by
    have hgr : Gr p.2.1 x 1 2 n p.2.2.si (kk : Nat) V := by rw [← hx]; exact hV.gr hp
    constructor
    · have := at_any hgr
      rw [show gat n (kk : Nat) = (kk : Nat) from if_pos (decide_eq_true (by omega))] at this
      exact this
    · have := ready_at kk (2 + kk) rfl hV.m hgr hkk (by rw [mm_len]; omega)
      have e : grdy (Mm n s.cur s.ep s.wd) 2 n p.2.2.si (kk : Nat) = true := by
        unfold grdy
        rw [show isl n (kk : Int) = true from decide_eq_true (by omega), show (Mm n s.cur s.ep s.wd).getD (2 + ((kk : Nat) : Int).toNat) 0 = s.wd kk from (std_at _ (2 + kk) (by rw [mm_len]; omega)).symm.trans zz.2.1, show lts p.2.2.si (s.wd kk) = true from hl]
        rfl
      rw [e] at this
      exact this)
  have HA2 : Hid (∀ D' tr' V, MsF w0 c x sl n K N s q LL D' tr' (AA.set j (p.1, p.2.1, (⟨p.2.2.first, p.2.2.steps + 1, p.2.2.vain, true, p.2.2.put, p.2.2.old, p.2.2.si, p.2.2.nx + 1⟩ : Wa))) V → (∀ m, Calls Try.prog 27 #[.pointer (some ⟨p.2.1, 0, none⟩)] (V.drewN m) (fun r V' => r = .returned (.int .i64 (-1)) ∧ ∃ k, V' = (V.drewN m).drewN k)) ∧ V.cell? ⟨p.1, 0, none⟩ = some (.pointer (some ⟨p.2.1, 0, none⟩)) ∧ V.cell? ⟨p.1, 2, none⟩ = some (.int .i64 (p.2.2.steps + 1)) ∧ V.cell? ⟨p.1, 3, none⟩ = some (.int .i64 p.2.2.vain) ∧ V.cell? ⟨p.1, 4, none⟩ = some (.bool true) ∧ V.frozen? ⟨p.1, 3, none⟩ = false ∧ V.cell? ⟨c, 2, none⟩ = some (.int .i64 (n : Nat))) := hide' (fun D' tr' V hV => by
    have hpb : (AA.set j (p.1, p.2.1, (⟨p.2.2.first, p.2.2.steps + 1, p.2.2.vain, true, p.2.2.put, p.2.2.old, p.2.2.si, p.2.2.nx + 1⟩ : Wa)))[j]? = some (p.1, p.2.1, (⟨p.2.2.first, p.2.2.steps + 1, p.2.2.vain, true, p.2.2.put, p.2.2.old, p.2.2.si, p.2.2.nx + 1⟩ : Wa)) := List.getElem?_set_self hlt
    obtain ⟨a0, a1, a2, a3, a4, af⟩ := hV.wc hpb
    exact ⟨fun m => hV.at_ hpb _ (if_neg (by rw [show isl n (p.2.2.nx + 1) = false from decide_eq_false (by omega)]; decide)) m, a0, a2, a3, a4, af 3, hV.sw.c2⟩)
  have HE : Hid (∀ D' tr' V m, tr'.length ≤ 2 * N + 2 → MsF w0 c x sl n K N s q LL D' tr' (AA.set j (p.1, p.2.1, (⟨p.2.2.first, p.2.2.steps + 1, p.2.2.vain, true, p.2.2.put, p.2.2.old, p.2.2.si, p.2.2.nx + 1⟩ : Wa))) V → Se w0 c x sl n K (N + 1) (N : Nat) (V.drewN m)) := hide' (fun D' tr' V m hl' hV => by
    have e : w2a n p.2.2 (s.wd kk) = (⟨p.2.2.first, p.2.2.steps + 1, p.2.2.vain, true, p.2.2.put, p.2.2.old, p.2.2.si, p.2.2.nx + 1⟩ : Wa) := by unfold w2a; rw [hl, if_pos rfl, if_pos rfl, if_pos rfl, decide_eq_true (show p.2.2.nx + 1 = (n : Int) by omega)]
    refine ⟨D', Wt.w2 n s j p.2.2 kk, q, tr', LL, _, hV.drewN m, h.eL, ?_, ?_, by omega, by omega, by rw [List.length_set]; omega⟩
    · show s.A.set j _ = _
      rw [h.eA, List.map_set, e]
    · rw [n1]; exact inv_w2 h.inv hj hf hx hkk)
  have HP : Hid (∀ D' tr' V m, MsF w0 c x sl n K N s q LL D' tr' (AA.set j (p.1, p.2.1, (⟨p.2.2.first, p.2.2.steps + 1, p.2.2.vain, true, p.2.2.put, p.2.2.old, p.2.2.si, p.2.2.nx + 1⟩ : Wa))) V → Calls Try.prog 50 #[.pointer (some ⟨c, 0, none⟩), .pointer (some ⟨p.1, 0, none⟩)] (V.drewN m) (fun r V' => r = .returned (.bool true) ∧ ∃ k, V' = (V.drewN m).drewN k)) := hide' (fun D' tr' V m hV => by
    have hpb : (AA.set j (p.1, p.2.1, (⟨p.2.2.first, p.2.2.steps + 1, p.2.2.vain, true, p.2.2.put, p.2.2.old, p.2.2.si, p.2.2.nx + 1⟩ : Wa)))[j]? = some (p.1, p.2.1, (⟨p.2.2.first, p.2.2.steps + 1, p.2.2.vain, true, p.2.2.put, p.2.2.old, p.2.2.si, p.2.2.nx + 1⟩ : Wa)) := List.getElem?_set_self hlt
    have e : w2a n p.2.2 (s.wd kk) = (⟨p.2.2.first, p.2.2.steps + 1, p.2.2.vain, true, p.2.2.put, p.2.2.old, p.2.2.si, p.2.2.nx + 1⟩ : Wa) := by unfold w2a; rw [hl, if_pos rfl, if_pos rfl, if_pos rfl, decide_eq_true (show p.2.2.nx + 1 = (n : Int) by omega)]
    have inv2 := inv_w2 h.inv hj hf hx hkk
    have hjs : (Wt.w2 n s j p.2.2 kk).A[j]? = some (⟨p.2.2.first, p.2.2.steps + 1, p.2.2.vain, true, p.2.2.put, p.2.2.old, p.2.2.si, p.2.2.nx + 1⟩ : Wa) := by
      rw [← e]
      exact List.getElem?_set_self (List.getElem?_eq_some_iff.1 hj).1
    refine passed_any (p := (p.1, p.2.1, (⟨p.2.2.first, p.2.2.steps + 1, p.2.2.vain, true, p.2.2.put, p.2.2.old, p.2.2.si, p.2.2.nx + 1⟩ : Wa))) (hV.drewN m).sw hpb (by omega) (fun i oo ho hle => ?_) hn (by show p.2.2.nx + 1 = (n : Int); omega) (by show p.2.2.steps + 1 = 1 + (n : Int) + p.2.2.vain; omega) ⟨u6, by show p.2.2.vain < _; omega⟩
    exact passed_w2 inv2 hjs hf (by show p.2.2.nx + 1 = (n : Int); omega) i oo.2.2 (h.lj ho) hle)
  have dn : decide (p.2.2.steps + 1 ≤ 1 + (n : Int) + (p.2.2.vain)) = true := decide_eq_true (by omega)
  have wn : IntKind.wrap .i64 (1 + (n : Int)) = 1 + (n : Int) := by rw [IntKind.wrap_i64]; omega
  have wn2 : IntKind.wrap .i64 (1 + (n : Int) + (p.2.2.vain)) = 1 + (n : Int) + (p.2.2.vain) := by rw [IntKind.wrap_i64]; omega
  have Hc := hide' (And.intro dn (And.intro wn wn2))
  have dk : decide ((0 : Int) ≤ (kk : Int)) = true := decide_eq_true (by omega)
  have HM := hide' h.ms
  clear h hk hi hp hf hg hj hx hkk hl he hlt u1 u2 u3 u4 u5 u6 u7 u8 hov hn1 tl ll al zz ws1 wv1 dn wn wn2
  generalize p.2.2.first = fi at *
  generalize p.2.2.steps = sp at *
  generalize p.2.2.vain = va at *
  generalize p.2.1 = gb at *
  generalize p.1 = pb at *
  generalize AA.length = L at *
  go_enter Try.func22, Try.ntmps22
  go_wp2_with fail
  go_quiet (fail)
  have HM2 := hide' (HM.out.drewN nq)
  replace c7 : (w.drewN nq).cell? ⟨c, 7, none⟩ = some (.slice (some ⟨q.gt, 0, none⟩) K q.tc) := c7
  replace c6 : (w.drewN nq).cell? ⟨c, 6, none⟩ = some (.slice (some ⟨g, 0, none⟩) L q.wc) := c6
  replace e0 : (w.drewN nq).cell? ⟨q.gt, k, none⟩ = some (.int .i64 (j : Nat)) := e0
  replace e1 : (w.drewN nq).cell? ⟨g, j, none⟩ = some (.pointer (some ⟨pb, 0, none⟩)) := e1
  clear HM y4
  generalize w.drewN nq = wA at *
  go_wp2_with fail
  go_quiet (fail)
  have HM3 := hide' (HM2.out.drewN nq)
  clear c7 c6 e0 e1 HM2
  generalize wA.drewN nq = wB at *
  obtain ⟨p0, p1, p9⟩ := HG.out wB HM3.out
  clear p1 p9
  go_wp2_with fail
  refine (HA.out wB HM3.out).1.mono ?_
  rintro r wC ⟨rfl, m1, rfl⟩
  have HM4 := hide' (HM3.out.drewN m1)
  replace p0 : (wB.drewN m1).cell? ⟨pb, 0, none⟩ = some (.pointer (some ⟨gb, 0, none⟩)) := p0
  clear HM3
  generalize wB.drewN m1 = wC at *
  go_wp2_with fail
  refine (HA.out wC HM4.out).2.mono ?_
  rintro r wD ⟨rfl, bD⟩
  have HM5 := hide' (HM4.out.quiet bD)
  clear HM4 p0 HA bD
  obtain ⟨p0, p1, p9⟩ := HG.out wD HM5.out
  have H24 := hide' p9
  clear p9 HG HM5
  go_wp2_with fail
  refine H24.out.mono ?_
  rintro r wE ⟨rfl, f1, f2, f3, f4, D', tr', htr, f5⟩
  have H5 := hide' f5
  have Htr := hide' htr
  clear f5 htr H24 p0 p1
  obtain ⟨r9, r0, r2, r3, r4, rf, rc⟩ := HA2.out D' tr' _ H5.out
  clear r9 r2 r3 rf rc
  go_wp2_with fail
  clear r0 r4 f1 f2 f3 f4
  generalize (wE.setCell ⟨pb, 4, none⟩ (.bool true)).setCell ⟨pb, 2, none⟩ (.int .i64 (wrap64 (sp + 1))) = wF at *
  obtain ⟨r9, r0, r2, r3, r4, rf, rc⟩ := HA2.out D' tr' wF H5.out
  obtain ⟨dn, wn, wn2⟩ := Hc.out
  have HP' := hide' (fun m => HP.out D' tr' wF m H5.out)
  clear r9 r0 rf HA2 Hc HP
  go_quiet ((go_at_call 50; exact Calls.quiet_of (HP'.out _)))
  go_wp2
  go_ret
  exact ⟨rfl, HE.out D' tr' wF nq Htr.out H5.out⟩
end Wt
end Go.Proofs.Ytbbopkhgmgdlfaa
set_option linter.unusedVariables false
set_option linter.unusedSimpArgs false
namespace Go.Proofs.Ytbbopkhgmgdlfaa
open Go.RowKit
namespace Wt
open M F V
variable {w0 : World} {c x sl n K N k j : Nat} {q : Pl} {s : St} {tr : List Ac} {LL : List Lb} {AA : List Wb} {w w' : World} {D : Nat → Prop} {p : Wb}
set_option maxRecDepth 100000 in
set_option maxHeartbeats 4000000 in
theorem writer_2c (h : At1 w0 c x sl n K N D s q tr LL AA w) (hk : k < K) (hn : n ≤ 16) (hN : N < 199999999999) (hi : s.turn k = (j : Nat)) (hp : AA[j]? = some p) (hf : 0 ≤ p.2.2.first) {kk : Nat} (hx : p.2.2.nx = (kk : Nat)) (hkk : kk < n) (hl : ltq p.2.2.si (s.wd kk) = false) :
    Calls Try.prog 22 #[.pointer (some ⟨c, 0, none⟩), .int .i64 (k : Nat)] w fun r w' => r = .returned (.bool true) ∧ Se w0 c x sl n K (N + 1) (N : Nat) w' := by
  have hlt := (List.getElem?_eq_some_iff.1 hp).1
  have hj := h.aj hp
  obtain ⟨u1, u2, u3, u4, u5, u6, u7, u8⟩ := (h.inv.wa j _ hj).yes hf
  have hov : p.2.2.over = false := by
    cases e : p.2.2.over with
    | false => rfl
    | true => have := u8.1 e; omega
  have hn1 := h.inv.n1
  have tl := h.tl
  have ll := h.ll
  have al := h.al
  have c7 := h.ms.sw.c7
  have e0 := h.ms.sw.tcell (rmap_at s.turn hk)
  rw [hi] at e0
  obtain ⟨g, hg, e1⟩ := h.ms.sw.wrow hp
  have c6 := h.ms.sw.c6
  rw [hg] at c6
  have y4 := h.ms.sw.w4 hp
  rw [hov] at y4
  have hlj : (j : Int) < (AA.length : Int) := by omega
  have hk' : (k : Int) < (K : Int) := by omega
  have d0 : decide ((j : Int) < 0) = false := decide_eq_false (by omega)
  have d1 : decide (p.2.2.first < 0) = false := decide_eq_false (by omega)
  have zz := mmk s.cur s.ep s.wd hkk (h.wdn hkk)
  have ws1 : wrap64 (p.2.2.steps + 1) = p.2.2.steps + 1 := by unfold wrap64; omega
  have wv1 : wrap64 (p.2.2.vain + 1) = p.2.2.vain + 1 := by unfold wrap64; omega
  have HG : Hid (∀ V, MsF w0 c x sl n K N s q LL D tr AA V → V.cell? ⟨p.1, 0, none⟩ = some (.pointer (some ⟨p.2.1, 0, none⟩)) ∧ V.cell? ⟨p.1, 1, none⟩ = some (.int .i64 p.2.2.first) ∧ Calls Try.prog 24 #[.pointer (some ⟨p.2.1, 0, none⟩)] V (fun r V' => r = .returned (.bool false) ∧ V'.cell? ⟨p.1, 4, none⟩ = some (.bool false) ∧ V'.frozen? ⟨p.1, 4, none⟩ = false ∧ (V'.setCell ⟨p.1, 4, none⟩ (.bool false)).cell? ⟨p.1, 2, none⟩ = some (.int .i64 p.2.2.steps) ∧ (V'.setCell ⟨p.1, 4, none⟩ (.bool false)).frozen? ⟨p.1, 2, none⟩ = false ∧ ∃ D' tr', tr'.length ≤ 2 * N + 2 ∧ MsF w0 c x sl n K N s q LL D' tr' (AA.set j (p.1, p.2.1, (⟨p.2.2.first, p.2.2.steps + 1, p.2.2.vain, false, p.2.2.put, p.2.2.old, p.2.2.si, p.2.2.nx⟩ : Wa))) ((V'.setCell ⟨p.1, 4, none⟩ (.bool false)).setCell ⟨p.1, 2, none⟩ (.int .i64 (wrap64 (p.2.2.steps + 1)))))) := hide' (fun V hV => by
    obtain ⟨x0, x1, x2, x3, x4, xf⟩ := hV.wc hp
    have hgr : Gr p.2.1 x 1 2 n p.2.2.si (kk : Nat) V := by rw [← hx]; exact hV.gr hp
    refine ⟨x0, x1, ?_⟩
    refine (graceL_any kk (2 + kk) rfl (by omega) hV.m hgr hkk hn (by omega)).mono fun r V' ⟨hr, ht⟩ => ?_
    rw [zz.2.1] at hr ht
    rw [zz.2.2.1, show ((nxt p.2.2.si (s.wd kk) kk : Nat) : Int) = p.2.2.nx from (by unfold nxt; rw [show lts p.2.2.si (s.wd kk) = false from hl, if_neg (by decide)]; omega)] at ht
    rw [show decide (nxt p.2.2.si (s.wd kk) kk = n) = false from decide_eq_false (by unfold nxt; rw [show lts p.2.2.si (s.wd kk) = false from hl, if_neg (by decide)]; omega)] at hr
    obtain ⟨D', h4⟩ := hV.graTo (bad' := 0 + 0) rfl (p.1, p.2.1, { p.2.2 with nx := p.2.2.nx }) hp rfl rfl rfl ht
    have hpb : (AA.set j (p.1, p.2.1, { p.2.2 with nx := p.2.2.nx }))[j]? = some (p.1, p.2.1, { p.2.2 with nx := p.2.2.nx }) := List.getElem?_set_self hlt
    obtain ⟨a0, a1, a2, a3, a4, af⟩ := h4.wc hpb
    have h5 := h4.setWait (p.1, p.2.1, { p.2.2 with nx := p.2.2.nx, over := false }) hpb 4 (.bool false) rfl rfl ⟨rfl, rfl⟩ rfl
    rw [List.set_set] at h5
    have hpc : (AA.set j (p.1, p.2.1, { p.2.2 with nx := p.2.2.nx, over := false }))[j]? = some (p.1, p.2.1, { p.2.2 with nx := p.2.2.nx, over := false }) := List.getElem?_set_self hlt
    obtain ⟨v0, v1, v2, v3, v4, vf⟩ := h5.wc hpc
    have h6 := h5.setWait (p.1, p.2.1, (⟨p.2.2.first, p.2.2.steps + 1, p.2.2.vain, false, p.2.2.put, p.2.2.old, p.2.2.si, p.2.2.nx⟩ : Wa)) hpc 2 (.int .i64 (p.2.2.steps + 1)) rfl rfl ⟨rfl, rfl⟩ rfl
    rw [List.set_set] at h6
    refine ⟨hr, a4.trans (by show some (Value.bool p.2.2.over) = _; rw [hov]), af 4, v2, vf 2, D', _, ?_, by rw [ws1]; exact h6⟩
    rw [List.length_append, List.length_singleton]; omega)
  have HA : Hid (∀ V, MsF w0 c x sl n K N s q LL D tr AA V → Calls Try.prog 27 #[.pointer (some ⟨p.2.1, 0, none⟩)] V (fun r V' => r = .returned (.int .i64 (kk : Nat)) ∧ ∃ k, V' = V.drewN k) ∧ Calls Try.prog 28 #[.pointer (some ⟨p.2.1, 0, none⟩)] V (fun r V' => r = .returned (.bool false) ∧ Below V.heap.size V V')) := hide' (fun V hV => by
    have hgr : Gr p.2.1 x 1 2 n p.2.2.si (kk : Nat) V := by rw [← hx]; exact hV.gr hp
    constructor
    · have := at_any hgr
      rw [show gat n (kk : Nat) = (kk : Nat) from if_pos (decide_eq_true (by omega))] at this
      exact this
    · have := ready_at kk (2 + kk) rfl hV.m hgr hkk (by rw [mm_len]; omega)
      have e : grdy (Mm n s.cur s.ep s.wd) 2 n p.2.2.si (kk : Nat) = false := by
        unfold grdy
        rw [show isl n (kk : Int) = true from decide_eq_true (by omega), show (Mm n s.cur s.ep s.wd).getD (2 + ((kk : Nat) : Int).toNat) 0 = s.wd kk from (std_at _ (2 + kk) (by rw [mm_len]; omega)).symm.trans zz.2.1, show lts p.2.2.si (s.wd kk) = false from hl]
        rfl
      rw [e] at this
      exact this)
  have HA2 : Hid (∀ D' tr' V, MsF w0 c x sl n K N s q LL D' tr' (AA.set j (p.1, p.2.1, (⟨p.2.2.first, p.2.2.steps + 1, p.2.2.vain, false, p.2.2.put, p.2.2.old, p.2.2.si, p.2.2.nx⟩ : Wa))) V → (∀ m, Calls Try.prog 27 #[.pointer (some ⟨p.2.1, 0, none⟩)] (V.drewN m) (fun r V' => r = .returned (.int .i64 ((kk : Nat))) ∧ ∃ k, V' = (V.drewN m).drewN k)) ∧ V.cell? ⟨p.1, 0, none⟩ = some (.pointer (some ⟨p.2.1, 0, none⟩)) ∧ V.cell? ⟨p.1, 2, none⟩ = some (.int .i64 (p.2.2.steps + 1)) ∧ V.cell? ⟨p.1, 3, none⟩ = some (.int .i64 p.2.2.vain) ∧ V.cell? ⟨p.1, 4, none⟩ = some (.bool false) ∧ V.frozen? ⟨p.1, 3, none⟩ = false ∧ V.cell? ⟨c, 2, none⟩ = some (.int .i64 (n : Nat))) := hide' (fun D' tr' V hV => by
    have hpb : (AA.set j (p.1, p.2.1, (⟨p.2.2.first, p.2.2.steps + 1, p.2.2.vain, false, p.2.2.put, p.2.2.old, p.2.2.si, p.2.2.nx⟩ : Wa)))[j]? = some (p.1, p.2.1, (⟨p.2.2.first, p.2.2.steps + 1, p.2.2.vain, false, p.2.2.put, p.2.2.old, p.2.2.si, p.2.2.nx⟩ : Wa)) := List.getElem?_set_self hlt
    obtain ⟨a0, a1, a2, a3, a4, af⟩ := hV.wc hpb
    exact ⟨fun m => hV.at_ hpb _ ((if_pos (show isl n p.2.2.nx = true from decide_eq_true (by omega))).trans (by show p.2.2.nx = (kk : Int); omega)) m, a0, a2, a3, a4, af 3, hV.sw.c2⟩)
  have HE : Hid (∀ D' tr' V m, tr'.length ≤ 2 * N + 2 → MsF w0 c x sl n K N s q LL D' tr' (AA.set j (p.1, p.2.1, (⟨p.2.2.first, p.2.2.steps + 1, p.2.2.vain + 1, false, p.2.2.put, p.2.2.old, p.2.2.si, p.2.2.nx⟩ : Wa))) V → Se w0 c x sl n K (N + 1) (N : Nat) (V.drewN m)) := hide' (fun D' tr' V m hl' hV => by
    have e : w2a n p.2.2 (s.wd kk) = (⟨p.2.2.first, p.2.2.steps + 1, p.2.2.vain + 1, false, p.2.2.put, p.2.2.old, p.2.2.si, p.2.2.nx⟩ : Wa) := by unfold w2a; rw [hl]; rfl
    refine ⟨D', Wt.w2 n s j p.2.2 kk, q, tr', LL, _, hV.drewN m, h.eL, ?_, ?_, by omega, by omega, by rw [List.length_set]; omega⟩
    · show s.A.set j _ = _
      rw [h.eA, List.map_set, e]
    · rw [n1]; exact inv_w2 h.inv hj hf hx hkk)
  have HV : Hid (∀ D' tr' V, MsF w0 c x sl n K N s q LL D' tr' (AA.set j (p.1, p.2.1, (⟨p.2.2.first, p.2.2.steps + 1, p.2.2.vain, false, p.2.2.put, p.2.2.old, p.2.2.si, p.2.2.nx⟩ : Wa))) V → MsF w0 c x sl n K N s q LL D' tr' (AA.set j (p.1, p.2.1, (⟨p.2.2.first, p.2.2.steps + 1, p.2.2.vain + 1, false, p.2.2.put, p.2.2.old, p.2.2.si, p.2.2.nx⟩ : Wa))) (V.setCell ⟨p.1, 3, none⟩ (.int .i64 (wrap64 (p.2.2.vain + 1))))) := hide' (fun D' tr' V hV => by
    have hpb : (AA.set j (p.1, p.2.1, (⟨p.2.2.first, p.2.2.steps + 1, p.2.2.vain, false, p.2.2.put, p.2.2.old, p.2.2.si, p.2.2.nx⟩ : Wa)))[j]? = some (p.1, p.2.1, (⟨p.2.2.first, p.2.2.steps + 1, p.2.2.vain, false, p.2.2.put, p.2.2.old, p.2.2.si, p.2.2.nx⟩ : Wa)) := List.getElem?_set_self hlt
    have := hV.setWait (p.1, p.2.1, (⟨p.2.2.first, p.2.2.steps + 1, p.2.2.vain + 1, false, p.2.2.put, p.2.2.old, p.2.2.si, p.2.2.nx⟩ : Wa)) hpb 3 (.int .i64 (p.2.2.vain + 1)) rfl rfl ⟨rfl, rfl⟩ rfl
    rw [List.set_set] at this
    rw [wv1]
    exact this)
  have HA3 : Hid (∀ D' tr' V, MsF w0 c x sl n K N s q LL D' tr' (AA.set j (p.1, p.2.1, (⟨p.2.2.first, p.2.2.steps + 1, p.2.2.vain + 1, false, p.2.2.put, p.2.2.old, p.2.2.si, p.2.2.nx⟩ : Wa))) V → (∀ m, Calls Try.prog 27 #[.pointer (some ⟨p.2.1, 0, none⟩)] (V.drewN m) (fun r V' => r = .returned (.int .i64 ((kk : Nat))) ∧ ∃ k, V' = (V.drewN m).drewN k)) ∧ V.cell? ⟨p.1, 0, none⟩ = some (.pointer (some ⟨p.2.1, 0, none⟩)) ∧ V.cell? ⟨p.1, 2, none⟩ = some (.int .i64 (p.2.2.steps + 1)) ∧ V.cell? ⟨p.1, 3, none⟩ = some (.int .i64 (p.2.2.vain + 1)) ∧ V.cell? ⟨p.1, 4, none⟩ = some (.bool false) ∧ V.cell? ⟨c, 2, none⟩ = some (.int .i64 (n : Nat))) := hide' (fun D' tr' V hV => by
    have hpb : (AA.set j (p.1, p.2.1, (⟨p.2.2.first, p.2.2.steps + 1, p.2.2.vain + 1, false, p.2.2.put, p.2.2.old, p.2.2.si, p.2.2.nx⟩ : Wa)))[j]? = some (p.1, p.2.1, (⟨p.2.2.first, p.2.2.steps + 1, p.2.2.vain + 1, false, p.2.2.put, p.2.2.old, p.2.2.si, p.2.2.nx⟩ : Wa)) := List.getElem?_set_self hlt
    obtain ⟨a0, a1, a2, a3, a4, af⟩ := hV.wc hpb
    exact ⟨fun m => hV.at_ hpb _ ((if_pos (show isl n p.2.2.nx = true from decide_eq_true (by omega))).trans (by show p.2.2.nx = (kk : Int); omega)) m, a0, a2, a3, a4, hV.sw.c2⟩)
  have HP : Hid (∀ D' tr' V m, MsF w0 c x sl n K N s q LL D' tr' (AA.set j (p.1, p.2.1, (⟨p.2.2.first, p.2.2.steps + 1, p.2.2.vain + 1, false, p.2.2.put, p.2.2.old, p.2.2.si, p.2.2.nx⟩ : Wa))) V → Calls Try.prog 49 #[.pointer (some ⟨c, 0, none⟩), .pointer (some ⟨p.1, 0, none⟩), .int .i64 (kk : Nat)] (V.drewN m) (fun r V' => r = .returned (.bool true) ∧ ∃ k, V' = (V.drewN m).drewN k)) := hide' (fun D' tr' V m hV => by
    have hpb : (AA.set j (p.1, p.2.1, (⟨p.2.2.first, p.2.2.steps + 1, p.2.2.vain + 1, false, p.2.2.put, p.2.2.old, p.2.2.si, p.2.2.nx⟩ : Wa)))[j]? = some (p.1, p.2.1, (⟨p.2.2.first, p.2.2.steps + 1, p.2.2.vain + 1, false, p.2.2.put, p.2.2.old, p.2.2.si, p.2.2.nx⟩ : Wa)) := List.getElem?_set_self hlt
    obtain ⟨i, l, q1, q2, q3, q4⟩ := held_w2 h.inv hj hf hkk hl
    rw [h.eL, List.getElem?_map] at q2
    cases ho : LL[i]? with
    | none => rw [ho] at q2; cases q2
    | some oo =>
      rw [ho] at q2
      cases q2
      exact held_any (p := (p.1, p.2.1, (⟨p.2.2.first, p.2.2.steps + 1, p.2.2.vain + 1, false, p.2.2.put, p.2.2.old, p.2.2.si, p.2.2.nx⟩ : Wa))) (hV.drewN m).sw hpb hkk (by rw [rmap_at s.inn hkk, q1]) ho q3 q4)
  have dn : decide (p.2.2.steps + 1 ≤ 1 + (n : Int) + (p.2.2.vain + 1)) = true := decide_eq_true (by omega)
  have wn : IntKind.wrap .i64 (1 + (n : Int)) = 1 + (n : Int) := by rw [IntKind.wrap_i64]; omega
  have wn2 : IntKind.wrap .i64 (1 + (n : Int) + (p.2.2.vain + 1)) = 1 + (n : Int) + (p.2.2.vain + 1) := by rw [IntKind.wrap_i64]; omega
  have Hc := hide' (And.intro dn (And.intro wn wn2))
  have dk : decide ((0 : Int) ≤ (kk : Int)) = true := decide_eq_true (by omega)
  have q1 : ((kk : Int) == (kk : Int)) = true := beq_self_eq_true _
  have HM := hide' h.ms
  clear h hk hi hp hf hg hj hx hkk hl hlt u1 u2 u3 u4 u5 u6 u7 u8 hov hn1 tl ll al zz ws1 wv1 dn wn wn2
  generalize p.2.2.first = fi at *
  generalize p.2.2.steps = sp at *
  generalize p.2.2.vain = va at *
  generalize p.2.1 = gb at *
  generalize p.1 = pb at *
  generalize AA.length = L at *
  go_enter Try.func22, Try.ntmps22
  go_wp2_with fail
  go_quiet (fail)
  have HM2 := hide' (HM.out.drewN nq)
  replace c7 : (w.drewN nq).cell? ⟨c, 7, none⟩ = some (.slice (some ⟨q.gt, 0, none⟩) K q.tc) := c7
  replace c6 : (w.drewN nq).cell? ⟨c, 6, none⟩ = some (.slice (some ⟨g, 0, none⟩) L q.wc) := c6
  replace e0 : (w.drewN nq).cell? ⟨q.gt, k, none⟩ = some (.int .i64 (j : Nat)) := e0
  replace e1 : (w.drewN nq).cell? ⟨g, j, none⟩ = some (.pointer (some ⟨pb, 0, none⟩)) := e1
  clear HM y4
  generalize w.drewN nq = wA at *
  go_wp2_with fail
  go_quiet (fail)
  have HM3 := hide' (HM2.out.drewN nq)
  clear c7 c6 e0 e1 HM2
  generalize wA.drewN nq = wB at *
  obtain ⟨p0, p1, p9⟩ := HG.out wB HM3.out
  clear p1 p9
  go_wp2_with fail
  refine (HA.out wB HM3.out).1.mono ?_
  rintro r wC ⟨rfl, m1, rfl⟩
  have HM4 := hide' (HM3.out.drewN m1)
  replace p0 : (wB.drewN m1).cell? ⟨pb, 0, none⟩ = some (.pointer (some ⟨gb, 0, none⟩)) := p0
  clear HM3
  generalize wB.drewN m1 = wC at *
  go_wp2_with fail
  refine (HA.out wC HM4.out).2.mono ?_
  rintro r wD ⟨rfl, bD⟩
  have HM5 := hide' (HM4.out.quiet bD)
  clear HM4 p0 HA bD
  obtain ⟨p0, p1, p9⟩ := HG.out wD HM5.out
  have H24 := hide' p9
  clear p9 HG HM5
  go_wp2_with fail
  refine H24.out.mono ?_
  rintro r wE ⟨rfl, f1, f2, f3, f4, D', tr', htr, f5⟩
  have H5 := hide' f5
  have Htr := hide' htr
  clear f5 htr H24 p0 p1
  obtain ⟨r9, r0, r2, r3, r4, rf, rc⟩ := HA2.out D' tr' _ H5.out
  clear r9 r2 r3 rf rc
  go_wp2_with fail
  clear r0 r4 f1 f2 f3 f4
  generalize (wE.setCell ⟨pb, 4, none⟩ (.bool false)).setCell ⟨pb, 2, none⟩ (.int .i64 (wrap64 (sp + 1))) = wF at *
  refine ((HA2.out D' tr' wF H5.out).1 0).mono ?_
  rintro r wG ⟨rfl, m3, hG⟩
  have H6 : Hid (MsF w0 c x sl n K N s q LL D' tr' (AA.set j (pb, gb, (⟨fi, sp + 1, va, false, p.2.2.put, p.2.2.old, p.2.2.si, p.2.2.nx⟩ : Wa))) wG) := hide' (by rw [hG]; exact (H5.out.drewN 0).drewN m3)
  clear hG H5
  obtain ⟨r9, r0, r2, r3, r4, rf, rc⟩ := HA2.out D' tr' wG H6.out
  clear r9
  have H7 := hide' (HV.out D' tr' wG H6.out)
  obtain ⟨s9, s0, s2, s3, s4, sc⟩ := HA3.out D' tr' _ H7.out
  clear r0 r2 r4 rc s9 s2 s3 sc HA2 H6 HV
  go_wp2_with fail
  clear r3 rf s0 s4
  generalize wG.setCell ⟨pb, 3, none⟩ (.int .i64 (wrap64 (va + 1))) = wH at *
  refine ((HA3.out D' tr' wH H7.out).1 0).mono ?_
  rintro r wI ⟨rfl, m5, hG⟩
  have H8 : Hid (MsF w0 c x sl n K N s q LL D' tr' (AA.set j (pb, gb, (⟨fi, sp + 1, va + 1, false, p.2.2.put, p.2.2.old, p.2.2.si, p.2.2.nx⟩ : Wa))) wI) := hide' (by rw [hG]; exact (H7.out.drewN 0).drewN m5)
  clear hG H7
  obtain ⟨r9, r0, r2, r3, r4, rc⟩ := HA3.out D' tr' wI H8.out
  clear r9
  obtain ⟨dn, wn, wn2⟩ := Hc.out
  have HP' := hide' (fun m => HP.out D' tr' wI m H8.out)
  clear r0 HA3 Hc HP
  go_wp2_with fail
  go_quiet ((go_at_call 49; exact Calls.quiet_of (HP'.out _)))
  go_wp2
  go_ret
  exact ⟨rfl, HE.out D' tr' wI nq Htr.out H8.out⟩
end Wt
end Go.Proofs.Ytbbopkhgmgdlfaa
set_option linter.unusedVariables false
set_option linter.unusedSimpArgs false
namespace Go.Proofs.Ytbbopkhgmgdlfaa
open Go.RowKit
namespace Wt
open M F V
variable {w0 : World} {c x sl n K N k j : Nat} {q : Pl} {s : St} {tr : List Ac} {LL : List Lb} {AA : List Wb} {w w' : World} {D : Nat → Prop} {p : Wb}
set_option maxRecDepth 100000 in
set_option maxHeartbeats 4000000 in
theorem writer_2b (h : At1 w0 c x sl n K N D s q tr LL AA w) (hk : k < K) (hn : n ≤ 16) (hN : N < 199999999999) (hi : s.turn k = (j : Nat)) (hp : AA[j]? = some p) (hf : 0 ≤ p.2.2.first) {kk : Nat} (hx : p.2.2.nx = (kk : Nat)) (hkk : kk < n) (hl : ltq p.2.2.si (s.wd kk) = true) (he : kk + 1 ≠ n) :
    Calls Try.prog 22 #[.pointer (some ⟨c, 0, none⟩), .int .i64 (k : Nat)] w fun r w' => r = .returned (.bool true) ∧ Se w0 c x sl n K (N + 1) (N : Nat) w' := by
  have hlt := (List.getElem?_eq_some_iff.1 hp).1
  have hj := h.aj hp
  obtain ⟨u1, u2, u3, u4, u5, u6, u7, u8⟩ := (h.inv.wa j _ hj).yes hf
  have hov : p.2.2.over = false := by
    cases e : p.2.2.over with
    | false => rfl
    | true => have := u8.1 e; omega
  have hn1 := h.inv.n1
  have tl := h.tl
  have ll := h.ll
  have al := h.al
  have c7 := h.ms.sw.c7
  have e0 := h.ms.sw.tcell (rmap_at s.turn hk)
  rw [hi] at e0
  obtain ⟨g, hg, e1⟩ := h.ms.sw.wrow hp
  have c6 := h.ms.sw.c6
  rw [hg] at c6
  have y4 := h.ms.sw.w4 hp
  rw [hov] at y4
  have hlj : (j : Int) < (AA.length : Int) := by omega
  have hk' : (k : Int) < (K : Int) := by omega
  have d0 : decide ((j : Int) < 0) = false := decide_eq_false (by omega)
  have d1 : decide (p.2.2.first < 0) = false := decide_eq_false (by omega)
  have zz := mmk s.cur s.ep s.wd hkk (h.wdn hkk)
  have ws1 : wrap64 (p.2.2.steps + 1) = p.2.2.steps + 1 := by unfold wrap64; omega
  have wv1 : wrap64 (p.2.2.vain + 1) = p.2.2.vain + 1 := by unfold wrap64; omega
  have HG : Hid (∀ V, MsF w0 c x sl n K N s q LL D tr AA V → V.cell? ⟨p.1, 0, none⟩ = some (.pointer (some ⟨p.2.1, 0, none⟩)) ∧ V.cell? ⟨p.1, 1, none⟩ = some (.int .i64 p.2.2.first) ∧ Calls Try.prog 24 #[.pointer (some ⟨p.2.1, 0, none⟩)] V (fun r V' => r = .returned (.bool false) ∧ V'.cell? ⟨p.1, 4, none⟩ = some (.bool false) ∧ V'.frozen? ⟨p.1, 4, none⟩ = false ∧ (V'.setCell ⟨p.1, 4, none⟩ (.bool false)).cell? ⟨p.1, 2, none⟩ = some (.int .i64 p.2.2.steps) ∧ (V'.setCell ⟨p.1, 4, none⟩ (.bool false)).frozen? ⟨p.1, 2, none⟩ = false ∧ ∃ D' tr', tr'.length ≤ 2 * N + 2 ∧ MsF w0 c x sl n K N s q LL D' tr' (AA.set j (p.1, p.2.1, (⟨p.2.2.first, p.2.2.steps + 1, p.2.2.vain, false, p.2.2.put, p.2.2.old, p.2.2.si, p.2.2.nx + 1⟩ : Wa))) ((V'.setCell ⟨p.1, 4, none⟩ (.bool false)).setCell ⟨p.1, 2, none⟩ (.int .i64 (wrap64 (p.2.2.steps + 1)))))) := hide' (fun V hV => by
    obtain ⟨x0, x1, x2, x3, x4, xf⟩ := hV.wc hp
    have hgr : Gr p.2.1 x 1 2 n p.2.2.si (kk : Nat) V := by rw [← hx]; exact hV.gr hp
    refine ⟨x0, x1, ?_⟩
    refine (graceL_any kk (2 + kk) rfl (by omega) hV.m hgr hkk hn (by omega)).mono fun r V' ⟨hr, ht⟩ => ?_
    rw [zz.2.1] at hr ht
    rw [zz.2.2.1, show ((nxt p.2.2.si (s.wd kk) kk : Nat) : Int) = p.2.2.nx + 1 from (by unfold nxt; rw [show lts p.2.2.si (s.wd kk) = true from hl, if_pos rfl]; omega)] at ht
    rw [show decide (nxt p.2.2.si (s.wd kk) kk = n) = false from decide_eq_false (by unfold nxt; rw [show lts p.2.2.si (s.wd kk) = true from hl, if_pos rfl]; exact he)] at hr
    obtain ⟨D', h4⟩ := hV.graTo (bad' := 0 + 0) rfl (p.1, p.2.1, { p.2.2 with nx := p.2.2.nx + 1 }) hp rfl rfl rfl ht
    have hpb : (AA.set j (p.1, p.2.1, { p.2.2 with nx := p.2.2.nx + 1 }))[j]? = some (p.1, p.2.1, { p.2.2 with nx := p.2.2.nx + 1 }) := List.getElem?_set_self hlt
    obtain ⟨a0, a1, a2, a3, a4, af⟩ := h4.wc hpb
    have h5 := h4.setWait (p.1, p.2.1, { p.2.2 with nx := p.2.2.nx + 1, over := false }) hpb 4 (.bool false) rfl rfl ⟨rfl, rfl⟩ rfl
    rw [List.set_set] at h5
    have hpc : (AA.set j (p.1, p.2.1, { p.2.2 with nx := p.2.2.nx + 1, over := false }))[j]? = some (p.1, p.2.1, { p.2.2 with nx := p.2.2.nx + 1, over := false }) := List.getElem?_set_self hlt
    obtain ⟨v0, v1, v2, v3, v4, vf⟩ := h5.wc hpc
    have h6 := h5.setWait (p.1, p.2.1, (⟨p.2.2.first, p.2.2.steps + 1, p.2.2.vain, false, p.2.2.put, p.2.2.old, p.2.2.si, p.2.2.nx + 1⟩ : Wa)) hpc 2 (.int .i64 (p.2.2.steps + 1)) rfl rfl ⟨rfl, rfl⟩ rfl
    rw [List.set_set] at h6
    refine ⟨hr, a4.trans (by show some (Value.bool p.2.2.over) = _; rw [hov]), af 4, v2, vf 2, D', _, ?_, by rw [ws1]; exact h6⟩
    rw [List.length_append, List.length_singleton]; omega)
  have HA : Hid (∀ V, MsF w0 c x sl n K N s q LL D tr AA V → Calls Try.prog 27 #[.pointer (some ⟨p.2.1, 0, none⟩)] V (fun r V' => r = .returned (.int .i64 (kk : Nat)) ∧ ∃ k, V' = V.drewN k) ∧ Calls Try.prog 28 #[.pointer (some ⟨p.2.1, 0, none⟩)] V (fun r V' => r = .returned (.bool true) ∧ Below V.heap.size V V')) := hide' (fun V hV => by
    have hgr : Gr p.2.1 x 1 2 n p.2.2.si (kk : Nat) V := by rw [← hx]; exact hV.gr hp
    constructor
    · have := at_any hgr
      rw [show gat n (kk : Nat) = (kk : Nat) from if_pos (decide_eq_true (by omega))] at this
      exact this
    · have := ready_at kk (2 + kk) rfl hV.m hgr hkk (by rw [mm_len]; omega)
      have e : grdy (Mm n s.cur s.ep s.wd) 2 n p.2.2.si (kk : Nat) = true := by
        unfold grdy
        rw [show isl n (kk : Int) = true from decide_eq_true (by omega), show (Mm n s.cur s.ep s.wd).getD (2 + ((kk : Nat) : Int).toNat) 0 = s.wd kk from (std_at _ (2 + kk) (by rw [mm_len]; omega)).symm.trans zz.2.1, show lts p.2.2.si (s.wd kk) = true from hl]
        rfl
      rw [e] at this
      exact this)
  have HA2 : Hid (∀ D' tr' V, MsF w0 c x sl n K N s q LL D' tr' (AA.set j (p.1, p.2.1, (⟨p.2.2.first, p.2.2.steps + 1, p.2.2.vain, false, p.2.2.put, p.2.2.old, p.2.2.si, p.2.2.nx + 1⟩ : Wa))) V → (∀ m, Calls Try.prog 27 #[.pointer (some ⟨p.2.1, 0, none⟩)] (V.drewN m) (fun r V' => r = .returned (.int .i64 ((kk : Int) + 1)) ∧ ∃ k, V' = (V.drewN m).drewN k)) ∧ V.cell? ⟨p.1, 0, none⟩ = some (.pointer (some ⟨p.2.1, 0, none⟩)) ∧ V.cell? ⟨p.1, 2, none⟩ = some (.int .i64 (p.2.2.steps + 1)) ∧ V.cell? ⟨p.1, 3, none⟩ = some (.int .i64 p.2.2.vain) ∧ V.cell? ⟨p.1, 4, none⟩ = some (.bool false) ∧ V.frozen? ⟨p.1, 3, none⟩ = false ∧ V.cell? ⟨c, 2, none⟩ = some (.int .i64 (n : Nat))) := hide' (fun D' tr' V hV => by
    have hpb : (AA.set j (p.1, p.2.1, (⟨p.2.2.first, p.2.2.steps + 1, p.2.2.vain, false, p.2.2.put, p.2.2.old, p.2.2.si, p.2.2.nx + 1⟩ : Wa)))[j]? = some (p.1, p.2.1, (⟨p.2.2.first, p.2.2.steps + 1, p.2.2.vain, false, p.2.2.put, p.2.2.old, p.2.2.si, p.2.2.nx + 1⟩ : Wa)) := List.getElem?_set_self hlt
    obtain ⟨a0, a1, a2, a3, a4, af⟩ := hV.wc hpb
    exact ⟨fun m => hV.at_ hpb _ ((if_pos (show isl n (p.2.2.nx + 1) = true from decide_eq_true (by omega))).trans (by show p.2.2.nx + 1 = (kk : Int) + 1; omega)) m, a0, a2, a3, a4, af 3, hV.sw.c2⟩)
  have HE : Hid (∀ D' tr' V m, tr'.length ≤ 2 * N + 2 → MsF w0 c x sl n K N s q LL D' tr' (AA.set j (p.1, p.2.1, (⟨p.2.2.first, p.2.2.steps + 1, p.2.2.vain, false, p.2.2.put, p.2.2.old, p.2.2.si, p.2.2.nx + 1⟩ : Wa))) V → Se w0 c x sl n K (N + 1) (N : Nat) (V.drewN m)) := hide' (fun D' tr' V m hl' hV => by
    have e : w2a n p.2.2 (s.wd kk) = (⟨p.2.2.first, p.2.2.steps + 1, p.2.2.vain, false, p.2.2.put, p.2.2.old, p.2.2.si, p.2.2.nx + 1⟩ : Wa) := by unfold w2a; rw [hl, if_pos rfl, if_pos rfl, if_pos rfl, decide_eq_false (show ¬ p.2.2.nx + 1 = (n : Int) by omega)]
    refine ⟨D', Wt.w2 n s j p.2.2 kk, q, tr', LL, _, hV.drewN m, h.eL, ?_, ?_, by omega, by omega, by rw [List.length_set]; omega⟩
    · show s.A.set j _ = _
      rw [h.eA, List.map_set, e]
    · rw [n1]; exact inv_w2 h.inv hj hf hx hkk)
  have dn : decide (p.2.2.steps + 1 ≤ 1 + (n : Int) + (p.2.2.vain)) = true := decide_eq_true (by omega)
  have wn : IntKind.wrap .i64 (1 + (n : Int)) = 1 + (n : Int) := by rw [IntKind.wrap_i64]; omega
  have wn2 : IntKind.wrap .i64 (1 + (n : Int) + (p.2.2.vain)) = 1 + (n : Int) + (p.2.2.vain) := by rw [IntKind.wrap_i64]; omega
  have Hc := hide' (And.intro dn (And.intro wn wn2))
  have dk : decide ((0 : Int) ≤ (kk : Int)) = true := decide_eq_true (by omega)
  have q1 : ((kk : Int) + 1 == (kk : Int)) = false := by rw [beq_eq_false_iff_ne]; omega
  have wk : wrap64 ((kk : Int) + 1) = (kk : Int) + 1 := by unfold wrap64; omega
  have q2 : ((kk : Int) + 1 == wrap64 ((kk : Int) + 1)) = true := by rw [wk]; exact beq_self_eq_true _
  clear wk
  have HM := hide' h.ms
  clear h hk hi hp hf hg hj hx hkk hl he hlt u1 u2 u3 u4 u5 u6 u7 u8 hov hn1 tl ll al zz ws1 wv1 dn wn wn2
  generalize p.2.2.first = fi at *
  generalize p.2.2.steps = sp at *
  generalize p.2.2.vain = va at *
  generalize p.2.1 = gb at *
  generalize p.1 = pb at *
  generalize AA.length = L at *
  go_enter Try.func22, Try.ntmps22
  go_wp2_with fail
  go_quiet (fail)
  have HM2 := hide' (HM.out.drewN nq)
  replace c7 : (w.drewN nq).cell? ⟨c, 7, none⟩ = some (.slice (some ⟨q.gt, 0, none⟩) K q.tc) := c7
  replace c6 : (w.drewN nq).cell? ⟨c, 6, none⟩ = some (.slice (some ⟨g, 0, none⟩) L q.wc) := c6
  replace e0 : (w.drewN nq).cell? ⟨q.gt, k, none⟩ = some (.int .i64 (j : Nat)) := e0
  replace e1 : (w.drewN nq).cell? ⟨g, j, none⟩ = some (.pointer (some ⟨pb, 0, none⟩)) := e1
  clear HM y4
  generalize w.drewN nq = wA at *
  go_wp2_with fail
  go_quiet (fail)
  have HM3 := hide' (HM2.out.drewN nq)
  clear c7 c6 e0 e1 HM2
  generalize wA.drewN nq = wB at *
  obtain ⟨p0, p1, p9⟩ := HG.out wB HM3.out
  clear p1 p9
  go_wp2_with fail
  refine (HA.out wB HM3.out).1.mono ?_
  rintro r wC ⟨rfl, m1, rfl⟩
  have HM4 := hide' (HM3.out.drewN m1)
  replace p0 : (wB.drewN m1).cell? ⟨pb, 0, none⟩ = some (.pointer (some ⟨gb, 0, none⟩)) := p0
  clear HM3
  generalize wB.drewN m1 = wC at *
  go_wp2_with fail
  refine (HA.out wC HM4.out).2.mono ?_
  rintro r wD ⟨rfl, bD⟩
  have HM5 := hide' (HM4.out.quiet bD)
  clear HM4 p0 HA bD
  obtain ⟨p0, p1, p9⟩ := HG.out wD HM5.out
  have H24 := hide' p9
  clear p9 HG HM5
  go_wp2_with fail
  refine H24.out.mono ?_
  rintro r wE ⟨rfl, f1, f2, f3, f4, D', tr', htr, f5⟩
  have H5 := hide' f5
  have Htr := hide' htr
  clear f5 htr H24 p0 p1
  obtain ⟨r9, r0, r2, r3, r4, rf, rc⟩ := HA2.out D' tr' _ H5.out
  clear r9 r2 r3 rf rc
  go_wp2_with fail
  clear r0 r4 f1 f2 f3 f4
  generalize (wE.setCell ⟨pb, 4, none⟩ (.bool false)).setCell ⟨pb, 2, none⟩ (.int .i64 (wrap64 (sp + 1))) = wF at *
  refine ((HA2.out D' tr' wF H5.out).1 0).mono ?_
  rintro r wG ⟨rfl, m3, hG⟩
  have H6 : Hid (MsF w0 c x sl n K N s q LL D' tr' (AA.set j (pb, gb, (⟨fi, sp + 1, va, false, p.2.2.put, p.2.2.old, p.2.2.si, p.2.2.nx + 1⟩ : Wa))) wG) := hide' (by rw [hG]; exact (H5.out.drewN 0).drewN m3)
  clear hG H5
  obtain ⟨r9, r0, r2, r3, r4, rf, rc⟩ := HA2.out D' tr' wG H6.out
  clear r9
  clear r2 r3 rf rc
  go_wp2_with fail
  clear r0 r4
  refine ((HA2.out D' tr' wG H6.out).1 0).mono ?_
  rintro r wH ⟨rfl, m4, hG⟩
  have H7 : Hid (MsF w0 c x sl n K N s q LL D' tr' (AA.set j (pb, gb, (⟨fi, sp + 1, va, false, p.2.2.put, p.2.2.old, p.2.2.si, p.2.2.nx + 1⟩ : Wa))) wH) := hide' (by rw [hG]; exact (H6.out.drewN 0).drewN m4)
  clear hG H6
  obtain ⟨r9, r0, r2, r3, r4, rf, rc⟩ := HA2.out D' tr' wH H7.out
  clear r9
  clear r2 r3 rf rc r4
  go_wp2_with fail
  clear r0
  refine ((HA2.out D' tr' wH H7.out).1 0).mono ?_
  rintro r wI ⟨rfl, m5, hG⟩
  have H8 : Hid (MsF w0 c x sl n K N s q LL D' tr' (AA.set j (pb, gb, (⟨fi, sp + 1, va, false, p.2.2.put, p.2.2.old, p.2.2.si, p.2.2.nx + 1⟩ : Wa))) wI) := hide' (by rw [hG]; exact (H7.out.drewN 0).drewN m5)
  clear hG H7
  obtain ⟨r9, r0, r2, r3, r4, rf, rc⟩ := HA2.out D' tr' wI H8.out
  clear r9
  obtain ⟨dn, wn, wn2⟩ := Hc.out
  clear r0 rf HA2 Hc
  go_wp2_with fail
  go_quiet (fail)
  go_wp2
  go_ret
  exact ⟨rfl, HE.out D' tr' wI nq Htr.out H8.out⟩
end Wt
end Go.Proofs.Ytbbopkhgmgdlfaa
set_option linter.unusedVariables false
set_option linter.unusedSimpArgs false
namespace Go.Proofs.Ytbbopkhgmgdlfaa
open Go.RowKit
namespace Wt
open M F V
variable {w0 : World} {c x sl n K N k j : Nat} {q : Pl} {s : St} {now cur : Int} {ii tt : List Int} {ws : List Int} {tr : List Ac} {LL : List Lb} {AA : List Wb} {w w' : World} {D : Nat → Prop} {p : Lb}
/-- a period more, its wait, and the row of waits grown -/
theorem Ms.growA (h : Ms w0 c x sl n K now D ws cur ii tt q tr LL AA w) {sb lb : Nat} {l : Wa} (hs : w.heap[sb]? = some (.cells (grc x 1 2 n l.si l.nx) 113 (0, 0))) (hl : w.heap[lb]? = some (.cells (wac (lb, sb, l)) 108 (0, 0))) (hB : w0.heap.size ≤ sb ∧ w0.heap.size ≤ lb) (ns : ∀ (i : Nat) (p : Wb), AA[i]? = some p → p.2.1 ≠ sb ∧ p.1 ≠ lb) {gg cap' : Nat} {w1 : World}
    (hr1 : w1.ownsRow w0.heap.size 109 1 (.slice (some ⟨gg, 0, none⟩) (AA.length + 1) cap') (AA.length + 1) ((AA.map (·.1)).map ptr ++ [ptr lb])) (t : Turn (At q.wo) w w1) :
    Ms w0 c x sl n K now D ws cur ii tt { q with wo := some ⟨gg, 0, none⟩, wc := cap' } tr LL (AA ++ [(lb, sb, l)]) (w1.setCell ⟨c, 6, none⟩ (.slice (some ⟨gg, 0, none⟩) (AA.length + 1) cap')) := by
  have far : ∀ {j : Nat} {cs : Array Value} {T : TypeId}, w.heap[j]? = some (.cells cs T (0, 0)) → T ≠ 109 → ¬ At q.wo j := fun hj n1 z => by
    obtain ⟨_, _, cs', h'⟩ := row_atk h.sw.rw z
    exact cells_ne hj h' n1 rfl
  have hc1 := (t.block c (lt_of_heap h.sw.hc) (far h.sw.hc (by decide))).trans h.sw.hc
  have t2 := turn_b c 6 (.slice (some ⟨gg, 0, none⟩) (AA.length + 1) cap') w1
  have tt2 : Turn (fun j => At q.wo j ∨ j = c) w (w1.setCell ⟨c, 6, none⟩ (.slice (some ⟨gg, 0, none⟩) (AA.length + 1) cap')) := (t.mono (fun j _ z => .inl z)).trans (t2.mono (fun j _ z => .inr z))
  have far2 : ∀ {j : Nat} {cs : Array Value} {T : TypeId}, w.heap[j]? = some (.cells cs T (0, 0)) → T ≠ 109 → T ≠ 67 → ¬ (At q.wo j ∨ j = c) := fun hj n1 n2 z => by
    rcases z with z | z
    · exact far hj n1 z
    · exact cells_ne hj h.sw.hc n2 z
  refine ⟨h.bel.trans (tt2.below (fun j hj => ?_) h.bel.size), h.m.kept tt2 (fun j hj z => ?_), ⟨?_, h.sw.hsl.kept tt2 (far2 h.sw.hsl (by decide) (by decide)), ?_, ?_, ?_, ?_, h.sw.fl.kept tt2 (fun j cs hj => far2 hj (by decide) (by decide)), h.sw.fs.kept tt2 (fun j cs hj => far2 hj (by decide) (by decide)), ?_, ?_, h.sw.ne, h.sw.lb⟩, h.gi, h.gt⟩
  · rcases hj with z | z
    · exact (row_atk h.sw.rw z).1
    · rw [z]; exact h.sw.lb.1
  · obtain ⟨cs, T, hT, hk⟩ := h.m.kind hj
    exact far2 hT (by rcases hk with rfl | rfl | rfl <;> decide) (by rcases hk with rfl | rfl | rfl <;> decide) z
  · have := set_block (off := 6) (v := .slice (some ⟨gg, 0, none⟩) (AA.length + 1) cap') hc1
    rw [this, List.length_append, List.length_singleton]; rfl
  · refine tt2.row h.sw.rl (fun j hj => ?_)
    obtain ⟨_, _, cs, h'⟩ := row_atk h.sw.rl (own_at hj)
    exact far2 h' (by decide) (by decide)
  · rw [List.length_append, List.length_singleton, List.map_append, List.map_append]
    refine t2.row hr1 (fun j hj e => ?_)
    have e1 : gg = j := by simpa [Value.ownBlock] using hj
    obtain ⟨_, _, cs', h'⟩ := row_atk hr1 ⟨_, rfl, rfl⟩
    exact cells_ne h' hc1 (by decide) (e1.trans e)
  · refine tt2.row h.sw.ri (fun j hj => ?_)
    obtain ⟨_, _, cs, h'⟩ := row_atk h.sw.ri (own_at hj)
    exact far2 h' (by decide) (by decide)
  · refine tt2.row h.sw.rt (fun j hj => ?_)
    obtain ⟨_, _, cs, h'⟩ := row_atk h.sw.rt (own_at hj)
    exact far2 h' (by decide) (by decide)
  · rw [List.map_append]
    refine (h.sw.fw.kept tt2 (fun j cs hj => far2 hj (by decide) (by decide))).add ((tt2.block lb (lt_of_heap hl) (far2 hl (by decide) (by decide))).trans hl) hB.2 (fun i u hu => ?_)
    rw [List.getElem?_map] at hu
    cases hp : AA[i]? with
    | none => rw [hp] at hu; cases hu
    | some p => rw [hp] at hu; cases hu; exact (ns i p hp).2
  · rw [List.map_append]
    refine (h.sw.fg.kept tt2 (fun j cs hj => far2 hj (by decide) (by decide))).add ((tt2.block sb (lt_of_heap hs) (far2 hs (by decide) (by decide))).trans hs) hB.1 (fun i u hu => ?_)
    rw [List.getElem?_map] at hu
    cases hp : AA[i]? with
    | none => rw [hp] at hu; cases hu
    | some p => rw [hp] at hu; cases hu; exact (ns i p hp).1
theorem Ms.setCur (h : Ms w0 c x sl n K now D ws cur ii tt q tr LL AA w) (v : Int) : Ms w0 c x sl n K now D ws v ii tt q tr LL AA (w.setCell ⟨c, 8, none⟩ (.int .i64 v)) := by
  have t := turn_b c 8 (.int .i64 v) w
  have hl := h.sw.lb
  exact ⟨h.bel.trans (t.below (fun k hk => by omega) h.bel.size), h.m.kept t (fun k hk e => h.m.not h.sw.hc (by decide) (e ▸ hk)), h.sw.setCur v, h.gi, h.gt⟩
theorem Ms.setNow (h : Ms w0 c x sl n K now D ws cur ii tt q tr LL AA w) (v : Int) : Ms w0 c x sl n K v D ws cur ii tt q tr LL AA (w.setCell ⟨c, 3, none⟩ (.int .i64 v)) := by
  have t := turn_b c 3 (.int .i64 v) w
  have hl := h.sw.lb
  exact ⟨h.bel.trans (t.below (fun k hk => by omega) h.bel.size), h.m.kept t (fun k hk e => h.m.not h.sw.hc (by decide) (e ▸ hk)), h.sw.setNow v, h.gi, h.gt⟩
/-- the next step of the reader in a slot, whatever it is -/
theorem reader_any (h : At1 w0 c x sl n K N D s q tr LL AA w) (hk : k < n) (hn : n ≤ 16) (hN : N < 199999999999) :
    Calls Try.prog 21 #[.pointer (some ⟨c, 0, none⟩), .int .i64 (k : Nat)] w fun r w' => r = .returned (.bool true) ∧ Se w0 c x sl n K (N + 1) (N : Nat) w' := by
  rcases h.inv.inn k hk with ⟨h1, _⟩ | ⟨j, l, h1, h2, _⟩
  · exact reader_0 h hk hn hN h1
  · rw [h.eL, List.getElem?_map] at h2
    cases hp : LL[j]? with
    | none => rw [hp] at h2; cases h2
    | some p =>
      by_cases hb : p.2.2.begun < 0
      · exact reader_1 h hk hn hN h1 hp hb
      · by_cases hr : p.2.2.read < 0
        · exact reader_2 h hk hN h1 hp (by omega) hr
        · exact reader_3 h hk hn hN h1 hp (by omega) hr
/-- the next step of a writer amid a period -/
theorem writer_amid (h : At1 w0 c x sl n K N D s q tr LL AA w) (hk : k < K) (hn : n ≤ 16) (hN : N < 199999999999) {p : Wb} (hi : s.turn k = (j : Nat)) (hp : AA[j]? = some p) (hov : p.2.2.over = false) :
    Calls Try.prog 22 #[.pointer (some ⟨c, 0, none⟩), .int .i64 (k : Nat)] w fun r w' => r = .returned (.bool true) ∧ Se w0 c x sl n K (N + 1) (N : Nat) w' := by
  by_cases hf : p.2.2.first < 0
  · exact writer_1 h hk hn hN hi hp hf
  · obtain ⟨u1, u2, u3, u4, u5, u6, u7, u8⟩ := (h.inv.wa j _ (h.aj hp)).yes (by omega)
    have hne : p.2.2.nx ≠ (n : Int) := fun e => by rw [u8.2 e] at hov; cases hov
    obtain ⟨kk, hx⟩ : ∃ kk : Nat, p.2.2.nx = (kk : Nat) := ⟨p.2.2.nx.toNat, by omega⟩
    have hkk : kk < n := by omega
    cases hl : ltq p.2.2.si (s.wd kk) with
    | false => exact writer_2c h hk hn hN hi hp (by omega) hx hkk hl
    | true =>
      by_cases he : kk + 1 = n
      · exact writer_2a h hk hn hN hi hp (by omega) hx hkk hl he
      · exact writer_2b h hk hn hN hi hp (by omega) hx hkk hl he
end Wt
end Go.Proofs.Ytbbopkhgmgdlfaa
set_option linter.unusedVariables false
set_option linter.unusedSimpArgs false
namespace Go.Proofs.Ytbbopkhgmgdlfaa
open Go.RowKit
namespace Wt
open M F V
variable {w0 : World} {c x sl n K N k j : Nat} {q : Pl} {s : St} {tr : List Ac} {LL : List Lb} {AA : List Wb} {w w' : World} {D : Nat → Prop}
/-- the current thing, read by Words -/
theorem words_cur (h : MsF w0 c x sl n K N s q LL D tr AA w) : Calls Try.prog 18 #[.pointer (some ⟨x, 0, none⟩), .int .i64 0, .int .i64 1] w fun r w' => ∃ g rc, r = .returned (.tuple #[.slice (some ⟨g, 0, none⟩) 1 rc, .int .i64 0]) ∧ w'.cell? ⟨g, 0, none⟩ = some (.int .i64 s.cur) ∧ w.heap.size ≤ g ∧ Below w.heap.size w w' := by
  have hw : Wi (Mm n s.cur s.ep s.wd) 0 1 := ⟨by omega, by omega, by rw [mm_len]; omega⟩
  refine (words_any 0 1 h.m (by omega)).mono fun r w' ⟨ro, rc, hr, hrow, hb⟩ => ?_
  rw [show piece (Mm n s.cur s.ep s.wd) 0 1 = [s.cur] from (if_pos hw).trans rfl, show pe (Mm n s.cur s.ep s.wd) 0 1 = 0 from if_pos hw] at *
  obtain ⟨g, cap', hv, _, _⟩ := hrow.form (by show 0 < 1; omega)
  simp only [Value.slice.injEq] at hv
  obtain ⟨rfl, _, rfl⟩ := hv
  refine ⟨g, rc, hr, ?_, (row_atk hrow ⟨_, rfl, rfl⟩).1, hb⟩
  have := row_cell hrow 0 (.int .i64 s.cur) rfl
  exact this
def a0 (cur : Int) : Wa := ⟨-1, 0, 0, false, cur + 1, cur, 0, -1⟩
/-- behind the new period's row: the store, At and Ready -/
theorem fin_w0 {lb gb : Nat} (hL : s.L = LL.map (·.2.2)) (hA : s.A = AA.map (·.2.2)) (inv : Inv n K s (N : Nat)) (tl : tr.length ≤ 2 * N + 1) (ll : LL.length ≤ N) (al : AA.length ≤ N) (hN : N < 199999999999)
    (h : Ms w0 c x sl n K (N : Nat) D (Mm n s.cur s.ep s.wd) (s.cur + 1) ((List.range n).map s.inn) (((List.range K).map s.turn).set k (AA.length : Nat)) q tr LL (AA ++ [(lb, gb, a0 s.cur)]) w) :
    w.cell? ⟨c, 0, none⟩ = some (.pointer (some ⟨x, 0, none⟩)) ∧ w.cell? ⟨lb, 5, none⟩ = some (.int .i64 (s.cur + 1)) ∧ Calls Try.prog 20 #[.pointer (some ⟨x, 0, none⟩), .int .i64 0, .int .i64 (s.cur + 1)] w.drew (fun r w' => r = .returned (.int .i64 0) ∧ w'.cell? ⟨c, 0, none⟩ = some (.pointer (some ⟨x, 0, none⟩)) ∧ w'.cell? ⟨lb, 5, none⟩ = some (.int .i64 (s.cur + 1)) ∧ w'.cell? ⟨lb, 0, none⟩ = some (.pointer (some ⟨gb, 0, none⟩)) ∧ Gr gb x 1 2 n 0 (-1) w' ∧ ∀ m, Se w0 c x sl n K (N + 1) (N : Nat) (w'.drewN m)) := by
  have hp : (AA ++ [(lb, gb, a0 s.cur)])[AA.length]? = some (lb, gb, a0 s.cur) := List.getElem?_concat_length
  have z := mm0 n (ep := s.ep) s.wd inv.cur.1
  have hd : Ms w0 c x sl n K (N : Nat) D (Mm n s.cur s.ep s.wd) (s.cur + 1) ((List.range n).map s.inn) (((List.range K).map s.turn).set k (AA.length : Nat)) q tr LL (AA ++ [(lb, gb, a0 s.cur)]) w.drew := h.quiet ⟨rfl, rfl, rfl, Nat.le_refl _, fun _ _ => rfl⟩
  refine ⟨h.sw.c0, by have := h.sw.w5 hp; exact this, ?_⟩
  refine (M.store_any 0 (s.cur + 1) hd.m (by omega)).mono fun r w' ⟨hr, ht⟩ => ⟨by rw [hr, z.1], ?_⟩
  rw [z.2.2.1, z.2.2.2] at ht
  obtain ⟨D', h4⟩ := hd.to (bad' := 0 + 0) rfl ht
  refine ⟨h4.sw.c0, by have := h4.sw.w5 hp; exact this, by have := h4.sw.w0 hp; exact this, by have := h4.gr hp; exact this, fun m => ?_⟩
  rw [rmap_set] at h4
  have e : (Wt.w0 s k).turn = fup s.turn k (AA.length : Nat) := by
    show fup s.turn k (s.A.length : Nat) = _
    rw [hA, List.length_map]
  rw [← e] at h4
  refine ⟨D', Wt.w0 s k, q, _, LL, _, h4.drewN m, hL, ?_, ?_, by rw [List.length_append, List.length_singleton]; omega, by omega, by rw [List.length_append, List.length_singleton]; omega⟩
  · show s.A ++ [_] = _
    rw [hA, List.map_append]; rfl
  · rw [n1]; exact inv_w0 inv
set_option maxRecDepth 100000 in
set_option maxHeartbeats 4000000 in
theorem writer_0a (h : At1 w0 c x sl n K N D s q tr LL AA w) (hk : k < K) (hn : n ≤ 16) (hN : N < 199999999999) (hi : s.turn k = -1) :
    Calls Try.prog 22 #[.pointer (some ⟨c, 0, none⟩), .int .i64 (k : Nat)] w fun r w' => r = .returned (.bool true) ∧ Se w0 c x sl n K (N + 1) (N : Nat) w' := by
  have c7 := h.ms.sw.c7
  have e0 := h.ms.sw.tcell (rmap_at s.turn hk)
  rw [hi] at e0
  have hk' : (k : Int) < (K : Int) := by omega
  have hcu := h.inv.cur
  have wz : wrap64 (s.cur + 1) = s.cur + 1 := by unfold wrap64; omega
  have HM := hide' h.ms
  have HK := hide' (And.intro h (And.intro hk (And.intro hn (And.intro hN wz))))
  clear h hk hi hcu wz hn hN
  go_enter Try.func22, Try.ntmps22
  go_wp2_with fail
  go_quiet (fail)
  have HM2 := hide' (HM.out.drewN nq)
  have a0 := HM2.out.sw.c0
  have HW := hide' (words_cur HM2.out)
  clear c7 e0 HM
  generalize w.drewN nq = wA at *
  go_wp2_with fail
  refine HW.out.mono ?_
  rintro r wB ⟨g, rc, rfl, cg, hgA, bB⟩
  have hgc' : ¬ g = c := fun e => by have := lt_of_heap HM2.out.sw.hc; omega
  clear hgA
  have HM3 := hide' (HM2.out.quiet bB)
  clear HW HM2 a0 bB
  have b8 := HM3.out.sw.c8
  have f8 := HM3.out.sw.fz 8
  have HM4 := hide' (HM3.out.setCur (wrap64 (s.cur + 1)))
  have ltg := World.block_lt_of_cell? wB _ cg
  clear HM3
  have hgc : Hid ((wB.setCell ⟨c, 8, none⟩ (.int .i64 (wrap64 (s.cur + 1)))).cell? ⟨g, 0, none⟩ = some (.int .i64 s.cur)) := hide' (((turn_b c 8 (.int .i64 (wrap64 (s.cur + 1))) wB).cell (p := ⟨g, 0, none⟩) ltg hgc').trans cg)
  go_wp2_with fail
  clear b8 f8 cg ltg
  generalize wB.setCell ⟨c, 8, none⟩ (.int .i64 (wrap64 (s.cur + 1))) = wC at *
  have cg := hgc.out
  have b8 := HM4.out.sw.c8
  have b1 := HM4.out.sw.c1
  have HT : Hid (Calls Try.prog 23 #[.pointer (some ⟨sl, 0, none⟩)] wC.drew fun r w' => r = .returned (.pointer (some ⟨wC.heap.size, 0, none⟩)) ∧ Below wC.heap.size wC w' ∧ Gr wC.heap.size x 1 2 n 0 (-1) w') := hide' ((wait_any (show Sl sl x 1 2 n wC.drew from HM4.out.sw.hsl)).mono fun r w' ⟨hr, hw⟩ => ⟨hr, by
    subst hw
    have b0 : Below wC.heap.size wC wC.drew := ⟨rfl, rfl, rfl, Nat.le_refl _, fun _ _ => rfl⟩
    exact ⟨b0.alloc (Nat.le_refl _) _, wait_gr x 1 2 n wC.drew⟩⟩)
  have HX : Hid (∀ V, Below wC.heap.size wC V → V.cell? ⟨c, 1, none⟩ = some (.pointer (some ⟨sl, 0, none⟩)) ∧ V.cell? ⟨g, 0, none⟩ = some (.int .i64 s.cur) ∧ V.cell? ⟨c, 8, none⟩ = some (.int .i64 (wrap64 (s.cur + 1)))) := hide' (fun V b => ⟨(HM4.out.quiet b).sw.c1, (World.cell?_of_block (w := wC) (b.block g (World.block_lt_of_cell? wC _ hgc.out))).trans hgc.out, (HM4.out.quiet b).sw.c8⟩)
  clear hgc
  go_region_held3 (fun w' => w'.cell? ⟨c, 1, none⟩ = some (.pointer (some ⟨sl, 0, none⟩)) ∧ w'.cell? ⟨g, 0, none⟩ = some (.int .i64 s.cur) ∧ w'.cell? ⟨c, 8, none⟩ = some (.int .i64 (wrap64 (s.cur + 1)))) (first | exact ⟨b1, cg, b8⟩ | exact k3 | exact HX.out _ (bD.alloc bD.size _)) ((go_at_call 23; refine HT.out.mono ?_; rintro e1 wD ⟨rfl, bD, gD⟩; have k3 := HX.out wD bD))
  rename_i hHeld
  clear hHeld k3 b1 b8 cg HT HX
  obtain ⟨wE, hE⟩ : ∃ wE, wE = (wD.alloc (.cells #[.pointer (some ⟨wC.heap.size, 0, none⟩), .int .i64 (-1), .int .i64 0, .int .i64 0, .bool false, .int .i64 (wrap64 (s.cur + 1)), .int .i64 s.cur] 108)) := ⟨_, rfl⟩
  have H5 : Hid (Ms w0 c x sl n K (N : Nat) D (Mm n s.cur s.ep s.wd) (s.cur + 1) ((List.range n).map s.inn) ((List.range K).map s.turn) q tr LL AA wE ∧ Gr wC.heap.size x 1 2 n 0 (-1) wE ∧ wE.heap[wD.heap.size]? = some (.cells (wac (wD.heap.size, wC.heap.size, a0 s.cur)) 108 (0, 0)) ∧ (w0.heap.size ≤ wC.heap.size ∧ w0.heap.size ≤ wD.heap.size) ∧ ∀ (i : Nat) (p : Wb), AA[i]? = some p → p.2.1 ≠ wC.heap.size ∧ p.1 ≠ wD.heap.size) := hide' (by
    have hm := HM4.out
    rw [HK.out.2.2.2.2] at hm
    have bE : Below wD.heap.size wD wE := by rw [hE]; exact (Below.refl _ _).alloc (Nat.le_refl _) _
    refine ⟨(hm.quiet bD).quiet bE, gD.below bE, ?_, ⟨hm.bel.size, by have := hm.bel.size; have := bD.size; omega⟩, fun i p hp => ⟨fun e => ?_, fun e => ?_⟩⟩
    · rw [hE]
      have := heap_alloc_new wD (.cells #[.pointer (some ⟨wC.heap.size, 0, none⟩), .int .i64 (-1), .int .i64 0, .int .i64 0, .bool false, .int .i64 (wrap64 (s.cur + 1)), .int .i64 s.cur] 108)
      rw [HK.out.2.2.2.2] at this ⊢
      exact this
    · have := lt_of_heap (hm.sw.gra hp).1; omega
    · have := lt_of_heap (hm.sw.wait hp).1; have := bD.size; omega)
  rw [← hE]
  clear hE HM4 bD gD
  have HQ := hide' HK.out.1
  have HK2 := hide' HK.out.2
  clear HK
  generalize wC.heap.size = gb at *
  generalize wD.heap.size = lb at *
  have t7 := H5.out.1.sw.c7
  have t6 := H5.out.1.sw.c6
  obtain ⟨tv, htv⟩ : ∃ tv, ((List.range K).map s.turn)[k]? = some tv := ⟨_, rmap_at s.turn HK2.out.1⟩
  have i0 := H5.out.1.sw.tcell htv
  have f0 := H5.out.1.fz_turn k
  clear htv
  go_wp2_with fail
  go_region
  clear t7 t6 i0 f0
  obtain ⟨wF, hF⟩ : ∃ wF, wF = (wE.setCell ⟨q.gt, k, none⟩ (.int .i64 (AA.length : Nat))).drew := ⟨_, rfl⟩
  have H6 : Hid (Ms w0 c x sl n K (N : Nat) D (Mm n s.cur s.ep s.wd) (s.cur + 1) ((List.range n).map s.inn) (((List.range K).map s.turn).set k (AA.length : Nat)) q tr LL AA wF ∧ Gr gb x 1 2 n 0 (-1) wF ∧ wF.heap[lb]? = some (.cells (wac (lb, gb, a0 s.cur)) 108 (0, 0)) ∧ (w0.heap.size ≤ gb ∧ w0.heap.size ≤ lb) ∧ ∀ (i : Nat) (p : Wb), AA[i]? = some p → p.2.1 ≠ gb ∧ p.1 ≠ lb) := hide' (by
    have hm := H5.out.1.tput HK2.out.1 (AA.length : Nat)
    obtain ⟨ci, hci⟩ := H5.out.1.sw.gtk
    have t := turn_b q.gt k (.int .i64 (AA.length : Nat)) wE
    have n1 : ¬ gb = q.gt := cells_ne (show wE.heap[gb]? = some (Obj.cells (grc x 1 2 n 0 (-1)) 113 (0, 0)) from H5.out.2.1) hci (by decide)
    have n2 : ¬ lb = q.gt := cells_ne H5.out.2.2.1 hci (by decide)
    have g1 := Gr.kept (S := fun j => j = q.gt) H5.out.2.1 t n1
    have g2 := (t.block lb (lt_of_heap H5.out.2.2.1) n2).trans H5.out.2.2.1
    rw [hF]
    exact ⟨hm.quiet ⟨rfl, rfl, rfl, Nat.le_refl _, fun _ _ => rfl⟩, g1, g2, H5.out.2.2.2⟩)
  rw [← hF]
  clear hF H5
  have c6 := H6.out.1.sw.c6
  have HRw := hide' (H6.out.1.sw.rw)
  have HL1 := hide' (show AA.length < 3000000000000 by have := HQ.out.al; have := HK2.out.2.2.1; omega)
  have HB9 := hide' (H6.out.1.bel.size)
  have nws : Hid (¬ At q.wo c) := hide' (fun z => by obtain ⟨_, _, cs', h'⟩ := row_atk H6.out.1.sw.rw z; exact cells_ne H6.out.1.sw.hc h' (by decide) rfl)
  go_wp2_with (at_builtin; refine wpList_more (e := 109) (m := 1) Try.underlying65 info109 rfl (by decide) (by decide) wF rfl _ _ rfl HRw.out HL1.out HB9.out [.pointer (some ⟨lb, 0, none⟩)] rfl (by simp [Value.oneCell']) _ rfl rfl ?_; intro gg cap' w5 hr5 t5 hg5; have ax := (t5.cell (p := ⟨c, 6, none⟩) (lt_of_heap H6.out.1.sw.hc) nws.out).trans H6.out.1.sw.c6; have a1 : w5.frozen? ⟨c, 6, none⟩ = false := Lib.frozen_of_heap ((t5.block c (lt_of_heap H6.out.1.sw.hc) nws.out).trans H6.out.1.sw.hc) 6)
  have H7 := hide' (H6.out.1.growA (sb := gb) (lb := lb) (l := a0 s.cur) H6.out.2.1 H6.out.2.2.1 H6.out.2.2.2.1 H6.out.2.2.2.2 hr5 t5)
  clear ax a1 c6 hr5 t5 hg5 HRw HL1 HB9 nws H6
  generalize w5.setCell ⟨c, 6, none⟩ (.slice (some ⟨gg, 0, none⟩) (AA.length + 1) cap') = wG at *
  obtain ⟨g0, g5, g20⟩ := fin_w0 HQ.out.eL HQ.out.eA HQ.out.inv HQ.out.tl HQ.out.ll HQ.out.al HK2.out.2.2.1 H7.out
  have HC := hide' g20
  clear g20 H7 HQ HK2
  go_region_held3 (fun w' => w'.cell? ⟨c, 0, none⟩ = some (.pointer (some ⟨x, 0, none⟩)) ∧ w'.cell? ⟨lb, 5, none⟩ = some (.int .i64 (s.cur + 1))) (first | exact ⟨g0, g5⟩ | exact ⟨k0, k5⟩) ((go_at_call 20; refine HC.out.mono ?_; rintro e1 wH ⟨rfl, k0, k5, k1, kg, kf⟩))
  rename_i hHeld
  have F := hide' kf
  have HA : Hid (∀ m, Calls Try.prog 27 #[.pointer (some ⟨gb, 0, none⟩)] (wH.drewN m) fun r w' => r = .returned (.int .i64 (-1)) ∧ ∃ k, w' = (wH.drewN m).drewN k) := hide' (fun m => at_any (show Gr gb x 1 2 n 0 (-1) (wH.drewN m) from kg))
  have HB : Hid (∀ m, Calls Try.prog 28 #[.pointer (some ⟨gb, 0, none⟩)] (wH.drewN m) fun r w' => r = .returned (.bool true) ∧ ∃ k, w' = (wH.drewN m).drewN k) := hide' (fun m => ready_out (show Gr gb x 1 2 n 0 (-1) (wH.drewN m) from kg) rfl)
  clear hHeld kf kg k0 k5 HC g0 g5
  go_wp2_with fail
  refine (HA.out 0).mono ?_
  rintro r wI ⟨rfl, m1, hI⟩
  replace hI : wI = wH.drewN (0 + m1) := by rw [hI, World.drewN_drewN]
  have k1' : wI.cell? ⟨lb, 0, none⟩ = some (.pointer (some ⟨gb, 0, none⟩)) := by rw [hI]; exact k1
  have HB' := HB.out (0 + m1)
  rw [← hI] at HB'
  have HB2 := hide' HB'
  have HI := hide' hI
  clear HB HB' HA hI k1
  go_wp2_with fail
  refine HB2.out.mono ?_
  rintro r wJ ⟨rfl, m2, hJ⟩
  have HJ := hide' hJ
  clear hJ HB2 k1'
  go_wp2
  go_ret
  exact ⟨rfl, by rw [HJ.out, HI.out, World.drewN_drewN]; exact F.out _⟩
end Wt
end Go.Proofs.Ytbbopkhgmgdlfaa
set_option linter.unusedVariables false
set_option linter.unusedSimpArgs false
namespace Go.Proofs.Ytbbopkhgmgdlfaa
open Go.RowKit
namespace Wt
open M F V
variable {w0 : World} {c x sl n K N k j : Nat} {q : Pl} {s : St} {tr : List Ac} {LL : List Lb} {AA : List Wb} {w w' : World} {D : Nat → Prop}
set_option maxRecDepth 100000 in
set_option maxHeartbeats 4000000 in
theorem writer_0b (h : At1 w0 c x sl n K N D s q tr LL AA w) (hk : k < K) (hn : n ≤ 16) (hN : N < 199999999999) {p : Wb} (hi : s.turn k = (j : Nat)) (hp : AA[j]? = some p) (hov : p.2.2.over = true) :
    Calls Try.prog 22 #[.pointer (some ⟨c, 0, none⟩), .int .i64 (k : Nat)] w fun r w' => r = .returned (.bool true) ∧ Se w0 c x sl n K (N + 1) (N : Nat) w' := by
  have c7 := h.ms.sw.c7
  have e0 := h.ms.sw.tcell (rmap_at s.turn hk)
  rw [hi] at e0
  obtain ⟨gz, hgz, e1⟩ := h.ms.sw.wrow hp
  have c6 := h.ms.sw.c6
  rw [hgz] at c6
  have y4 := h.ms.sw.w4 hp
  rw [hov] at y4
  have hlj : (j : Int) < (AA.length : Int) := by have := (List.getElem?_eq_some_iff.1 hp).1; omega
  have d0 : decide ((j : Int) < 0) = false := decide_eq_false (by omega)
  have hk' : (k : Int) < (K : Int) := by omega
  have hcu := h.inv.cur
  have wz : wrap64 (s.cur + 1) = s.cur + 1 := by unfold wrap64; omega
  have HM := hide' h.ms
  have HK := hide' (And.intro h (And.intro hk (And.intro hn (And.intro hN wz))))
  clear h hk hi hcu wz hn hN hp hov hgz
  generalize p.1 = pb at *
  go_enter Try.func22, Try.ntmps22
  go_wp2_with fail
  go_quiet (fail)
  have HM2 := hide' (HM.out.drewN nq)
  have a0 := HM2.out.sw.c0
  have HW := hide' (words_cur HM2.out)
  clear c7 e0 HM c6 e1 y4
  generalize w.drewN nq = wA at *
  go_wp2_with fail
  refine HW.out.mono ?_
  rintro r wB ⟨g, rc, rfl, cg, hgA, bB⟩
  have hgc' : ¬ g = c := fun e => by have := lt_of_heap HM2.out.sw.hc; omega
  clear hgA
  have HM3 := hide' (HM2.out.quiet bB)
  clear HW HM2 a0 bB
  have b8 := HM3.out.sw.c8
  have f8 := HM3.out.sw.fz 8
  have HM4 := hide' (HM3.out.setCur (wrap64 (s.cur + 1)))
  have ltg := World.block_lt_of_cell? wB _ cg
  clear HM3
  have hgc : Hid ((wB.setCell ⟨c, 8, none⟩ (.int .i64 (wrap64 (s.cur + 1)))).cell? ⟨g, 0, none⟩ = some (.int .i64 s.cur)) := hide' (((turn_b c 8 (.int .i64 (wrap64 (s.cur + 1))) wB).cell (p := ⟨g, 0, none⟩) ltg hgc').trans cg)
  go_wp2_with fail
  clear b8 f8 cg ltg
  generalize wB.setCell ⟨c, 8, none⟩ (.int .i64 (wrap64 (s.cur + 1))) = wC at *
  have cg := hgc.out
  have b8 := HM4.out.sw.c8
  have b1 := HM4.out.sw.c1
  have HT : Hid (Calls Try.prog 23 #[.pointer (some ⟨sl, 0, none⟩)] wC.drew fun r w' => r = .returned (.pointer (some ⟨wC.heap.size, 0, none⟩)) ∧ Below wC.heap.size wC w' ∧ Gr wC.heap.size x 1 2 n 0 (-1) w') := hide' ((wait_any (show Sl sl x 1 2 n wC.drew from HM4.out.sw.hsl)).mono fun r w' ⟨hr, hw⟩ => ⟨hr, by
    subst hw
    have b0 : Below wC.heap.size wC wC.drew := ⟨rfl, rfl, rfl, Nat.le_refl _, fun _ _ => rfl⟩
    exact ⟨b0.alloc (Nat.le_refl _) _, wait_gr x 1 2 n wC.drew⟩⟩)
  have HX : Hid (∀ V, Below wC.heap.size wC V → V.cell? ⟨c, 1, none⟩ = some (.pointer (some ⟨sl, 0, none⟩)) ∧ V.cell? ⟨g, 0, none⟩ = some (.int .i64 s.cur) ∧ V.cell? ⟨c, 8, none⟩ = some (.int .i64 (wrap64 (s.cur + 1)))) := hide' (fun V b => ⟨(HM4.out.quiet b).sw.c1, (World.cell?_of_block (w := wC) (b.block g (World.block_lt_of_cell? wC _ hgc.out))).trans hgc.out, (HM4.out.quiet b).sw.c8⟩)
  clear hgc
  go_region_held3 (fun w' => w'.cell? ⟨c, 1, none⟩ = some (.pointer (some ⟨sl, 0, none⟩)) ∧ w'.cell? ⟨g, 0, none⟩ = some (.int .i64 s.cur) ∧ w'.cell? ⟨c, 8, none⟩ = some (.int .i64 (wrap64 (s.cur + 1)))) (first | exact ⟨b1, cg, b8⟩ | exact k3 | exact HX.out _ (bD.alloc bD.size _)) ((go_at_call 23; refine HT.out.mono ?_; rintro e1 wD ⟨rfl, bD, gD⟩; have k3 := HX.out wD bD))
  rename_i hHeld
  clear hHeld k3 b1 b8 cg HT HX
  obtain ⟨wE, hE⟩ : ∃ wE, wE = (wD.alloc (.cells #[.pointer (some ⟨wC.heap.size, 0, none⟩), .int .i64 (-1), .int .i64 0, .int .i64 0, .bool false, .int .i64 (wrap64 (s.cur + 1)), .int .i64 s.cur] 108)) := ⟨_, rfl⟩
  have H5 : Hid (Ms w0 c x sl n K (N : Nat) D (Mm n s.cur s.ep s.wd) (s.cur + 1) ((List.range n).map s.inn) ((List.range K).map s.turn) q tr LL AA wE ∧ Gr wC.heap.size x 1 2 n 0 (-1) wE ∧ wE.heap[wD.heap.size]? = some (.cells (wac (wD.heap.size, wC.heap.size, a0 s.cur)) 108 (0, 0)) ∧ (w0.heap.size ≤ wC.heap.size ∧ w0.heap.size ≤ wD.heap.size) ∧ ∀ (i : Nat) (p : Wb), AA[i]? = some p → p.2.1 ≠ wC.heap.size ∧ p.1 ≠ wD.heap.size) := hide' (by
    have hm := HM4.out
    rw [HK.out.2.2.2.2] at hm
    have bE : Below wD.heap.size wD wE := by rw [hE]; exact (Below.refl _ _).alloc (Nat.le_refl _) _
    refine ⟨(hm.quiet bD).quiet bE, gD.below bE, ?_, ⟨hm.bel.size, by have := hm.bel.size; have := bD.size; omega⟩, fun i p hp => ⟨fun e => ?_, fun e => ?_⟩⟩
    · rw [hE]
      have := heap_alloc_new wD (.cells #[.pointer (some ⟨wC.heap.size, 0, none⟩), .int .i64 (-1), .int .i64 0, .int .i64 0, .bool false, .int .i64 (wrap64 (s.cur + 1)), .int .i64 s.cur] 108)
      rw [HK.out.2.2.2.2] at this ⊢
      exact this
    · have := lt_of_heap (hm.sw.gra hp).1; omega
    · have := lt_of_heap (hm.sw.wait hp).1; have := bD.size; omega)
  rw [← hE]
  clear hE HM4 bD gD
  have HQ := hide' HK.out.1
  have HK2 := hide' HK.out.2
  clear HK
  generalize wC.heap.size = gb at *
  generalize wD.heap.size = lb at *
  have t7 := H5.out.1.sw.c7
  have t6 := H5.out.1.sw.c6
  obtain ⟨tv, htv⟩ : ∃ tv, ((List.range K).map s.turn)[k]? = some tv := ⟨_, rmap_at s.turn HK2.out.1⟩
  have i0 := H5.out.1.sw.tcell htv
  have f0 := H5.out.1.fz_turn k
  clear htv
  go_wp2_with fail
  go_region
  clear t7 t6 i0 f0
  obtain ⟨wF, hF⟩ : ∃ wF, wF = (wE.setCell ⟨q.gt, k, none⟩ (.int .i64 (AA.length : Nat))).drew := ⟨_, rfl⟩
  have H6 : Hid (Ms w0 c x sl n K (N : Nat) D (Mm n s.cur s.ep s.wd) (s.cur + 1) ((List.range n).map s.inn) (((List.range K).map s.turn).set k (AA.length : Nat)) q tr LL AA wF ∧ Gr gb x 1 2 n 0 (-1) wF ∧ wF.heap[lb]? = some (.cells (wac (lb, gb, a0 s.cur)) 108 (0, 0)) ∧ (w0.heap.size ≤ gb ∧ w0.heap.size ≤ lb) ∧ ∀ (i : Nat) (p : Wb), AA[i]? = some p → p.2.1 ≠ gb ∧ p.1 ≠ lb) := hide' (by
    have hm := H5.out.1.tput HK2.out.1 (AA.length : Nat)
    obtain ⟨ci, hci⟩ := H5.out.1.sw.gtk
    have t := turn_b q.gt k (.int .i64 (AA.length : Nat)) wE
    have n1 : ¬ gb = q.gt := cells_ne (show wE.heap[gb]? = some (Obj.cells (grc x 1 2 n 0 (-1)) 113 (0, 0)) from H5.out.2.1) hci (by decide)
    have n2 : ¬ lb = q.gt := cells_ne H5.out.2.2.1 hci (by decide)
    have g1 := Gr.kept (S := fun j => j = q.gt) H5.out.2.1 t n1
    have g2 := (t.block lb (lt_of_heap H5.out.2.2.1) n2).trans H5.out.2.2.1
    rw [hF]
    exact ⟨hm.quiet ⟨rfl, rfl, rfl, Nat.le_refl _, fun _ _ => rfl⟩, g1, g2, H5.out.2.2.2⟩)
  rw [← hF]
  clear hF H5
  have c6 := H6.out.1.sw.c6
  have HRw := hide' (H6.out.1.sw.rw)
  have HL1 := hide' (show AA.length < 3000000000000 by have := HQ.out.al; have := HK2.out.2.2.1; omega)
  have HB9 := hide' (H6.out.1.bel.size)
  have nws : Hid (¬ At q.wo c) := hide' (fun z => by obtain ⟨_, _, cs', h'⟩ := row_atk H6.out.1.sw.rw z; exact cells_ne H6.out.1.sw.hc h' (by decide) rfl)
  go_wp2_with (at_builtin; refine wpList_more (e := 109) (m := 1) Try.underlying65 info109 rfl (by decide) (by decide) wF rfl _ _ rfl HRw.out HL1.out HB9.out [.pointer (some ⟨lb, 0, none⟩)] rfl (by simp [Value.oneCell']) _ rfl rfl ?_; intro gg cap' w5 hr5 t5 hg5; have ax := (t5.cell (p := ⟨c, 6, none⟩) (lt_of_heap H6.out.1.sw.hc) nws.out).trans H6.out.1.sw.c6; have a1 : w5.frozen? ⟨c, 6, none⟩ = false := Lib.frozen_of_heap ((t5.block c (lt_of_heap H6.out.1.sw.hc) nws.out).trans H6.out.1.sw.hc) 6)
  have H7 := hide' (H6.out.1.growA (sb := gb) (lb := lb) (l := a0 s.cur) H6.out.2.1 H6.out.2.2.1 H6.out.2.2.2.1 H6.out.2.2.2.2 hr5 t5)
  clear ax a1 c6 hr5 t5 hg5 HRw HL1 HB9 nws H6
  generalize w5.setCell ⟨c, 6, none⟩ (.slice (some ⟨gg, 0, none⟩) (AA.length + 1) cap') = wG at *
  obtain ⟨g0, g5, g20⟩ := fin_w0 HQ.out.eL HQ.out.eA HQ.out.inv HQ.out.tl HQ.out.ll HQ.out.al HK2.out.2.2.1 H7.out
  have HC := hide' g20
  clear g20 H7 HQ HK2
  go_region_held3 (fun w' => w'.cell? ⟨c, 0, none⟩ = some (.pointer (some ⟨x, 0, none⟩)) ∧ w'.cell? ⟨lb, 5, none⟩ = some (.int .i64 (s.cur + 1))) (first | exact ⟨g0, g5⟩ | exact ⟨k0, k5⟩) ((go_at_call 20; refine HC.out.mono ?_; rintro e1 wH ⟨rfl, k0, k5, k1, kg, kf⟩))
  rename_i hHeld
  have F := hide' kf
  have HA : Hid (∀ m, Calls Try.prog 27 #[.pointer (some ⟨gb, 0, none⟩)] (wH.drewN m) fun r w' => r = .returned (.int .i64 (-1)) ∧ ∃ k, w' = (wH.drewN m).drewN k) := hide' (fun m => at_any (show Gr gb x 1 2 n 0 (-1) (wH.drewN m) from kg))
  have HB : Hid (∀ m, Calls Try.prog 28 #[.pointer (some ⟨gb, 0, none⟩)] (wH.drewN m) fun r w' => r = .returned (.bool true) ∧ ∃ k, w' = (wH.drewN m).drewN k) := hide' (fun m => ready_out (show Gr gb x 1 2 n 0 (-1) (wH.drewN m) from kg) rfl)
  clear hHeld kf kg k0 k5 HC g0 g5
  go_wp2_with fail
  refine (HA.out 0).mono ?_
  rintro r wI ⟨rfl, m1, hI⟩
  replace hI : wI = wH.drewN (0 + m1) := by rw [hI, World.drewN_drewN]
  have k1' : wI.cell? ⟨lb, 0, none⟩ = some (.pointer (some ⟨gb, 0, none⟩)) := by rw [hI]; exact k1
  have HB' := HB.out (0 + m1)
  rw [← hI] at HB'
  have HB2 := hide' HB'
  have HI := hide' hI
  clear HB HB' HA hI k1
  go_wp2_with fail
  refine HB2.out.mono ?_
  rintro r wJ ⟨rfl, m2, hJ⟩
  have HJ := hide' hJ
  clear hJ HB2 k1'
  go_wp2
  go_ret
  exact ⟨rfl, by rw [HJ.out, HI.out, World.drewN_drewN]; exact F.out _⟩
/-- the next step of a writer, whatever it is -/
theorem writer_any (h : At1 w0 c x sl n K N D s q tr LL AA w) (hk : k < K) (hn : n ≤ 16) (hN : N < 199999999999) :
    Calls Try.prog 22 #[.pointer (some ⟨c, 0, none⟩), .int .i64 (k : Nat)] w fun r w' => r = .returned (.bool true) ∧ Se w0 c x sl n K (N + 1) (N : Nat) w' := by
  rcases h.inv.turn k hk with h1 | ⟨j, a, h1, h2⟩
  · exact writer_0a h hk hn hN h1
  · rw [h.eA, List.getElem?_map] at h2
    cases hp : AA[j]? with
    | none => rw [hp] at h2; cases h2
    | some p =>
      cases hov : p.2.2.over with
      | true => exact writer_0b h hk hn hN h1 hp hov
      | false => exact writer_amid h hk hn hN h1 hp hov
end Wt
end Go.Proofs.Ytbbopkhgmgdlfaa
set_option linter.unusedVariables false
set_option linter.unusedSimpArgs false
namespace Go.Proofs.Ytbbopkhgmgdlfaa
open Go.RowKit
namespace Wt
open M F V
variable {w0 : World} {c x sl n K N i k ic tc : Nat} {io uo : Option Addr} {ws : List Int} {tr : List Ac} {w w' : World} {D : Nat → Prop}
/-- a scene in the making -/
structure Sp (w0 : World) (c x sl n : Nat) (D : Nat → Prop) (ws : List Int) (tr : List Ac) (io : Option Addr) (ic i : Nat) (uo : Option Addr) (tc k : Nat) (w : World) : Prop where
  bel : Below w0.heap.size w0 w
  m : Mem D w0.heap.size x ws tr 0 w
  hc : w.heap[c]? = some (.cells #[.pointer (some ⟨x, 0, none⟩), .pointer (some ⟨sl, 0, none⟩), .int .i64 (n : Nat), .int .i64 0, .slice none 0 0, .slice io i ic, .slice none 0 0, .slice uo k tc, .int .i64 0] 67 (0, 0))
  hsl : Sl sl x 1 2 n w
  ri : w.ownsRow w0.heap.size 3 1 (.slice io i ic) i (ivs (List.replicate i (-1)))
  rt : w.ownsRow w0.heap.size 3 1 (.slice uo k tc) k (ivs (List.replicate k (-1)))
  lb : w0.heap.size ≤ c ∧ w0.heap.size ≤ sl
  di : ∀ j, At io j → ¬ D j
  dt : ∀ j, At uo j → ¬ D j
  ne : ∀ j, At io j → ¬ At uo j
theorem Sp.c5 (h : Sp w0 c x sl n D ws tr io ic i uo tc k w) : w.cell? ⟨c, 5, none⟩ = some (.slice io i ic) := by rw [Lib.cell_of_heap h.hc]; rfl
theorem Sp.c7 (h : Sp w0 c x sl n D ws tr io ic i uo tc k w) : w.cell? ⟨c, 7, none⟩ = some (.slice uo k tc) := by rw [Lib.cell_of_heap h.hc]; rfl
theorem ivs_more (k : Nat) : ivs (List.replicate (k + 1) (-1)) = ivs (List.replicate k (-1)) ++ [.int .i64 (-1)] := by
  rw [List.replicate_succ']; simp [ivs]
theorem Sp.growI (h : Sp w0 c x sl n D ws tr io ic i uo tc k w) {gg cap' : Nat} {w1 : World} (hr1 : w1.ownsRow w0.heap.size 3 1 (.slice (some ⟨gg, 0, none⟩) (i + 1) cap') (i + 1) (ivs (List.replicate i (-1)) ++ [.int .i64 (-1)])) (t : Turn (At io) w w1) (hg : At io gg ∨ w.heap.size ≤ gg) :
    Sp w0 c x sl n D ws tr (some ⟨gg, 0, none⟩) cap' (i + 1) uo tc k (w1.setCell ⟨c, 5, none⟩ (.slice (some ⟨gg, 0, none⟩) (i + 1) cap')) := by
  have far : ∀ {j : Nat} {cs : Array Value} {T : TypeId}, w.heap[j]? = some (.cells cs T (0, 0)) → T ≠ 3 → ¬ At io j := fun hj n1 z => by
    obtain ⟨_, _, cs', h'⟩ := row_atk h.ri z
    exact cells_ne hj h' n1 rfl
  have hc1 := (t.block c (lt_of_heap h.hc) (far h.hc (by decide))).trans h.hc
  have t2 := turn_b c 5 (.slice (some ⟨gg, 0, none⟩) (i + 1) cap') w1
  have tt2 : Turn (fun j => At io j ∨ j = c) w (w1.setCell ⟨c, 5, none⟩ (.slice (some ⟨gg, 0, none⟩) (i + 1) cap')) := (t.mono (fun j _ z => .inl z)).trans (t2.mono (fun j _ z => .inr z))
  refine ⟨h.bel.trans (tt2.below (fun j hj => ?_) h.bel.size), h.m.kept tt2 (fun j hj z => ?_), ?_, h.hsl.kept tt2 (fun z => ?_), ?_, ?_, h.lb, fun j hj z => ?_, h.dt, fun j hj z => ?_⟩
  · rcases hj with z | z
    · exact (row_atk h.ri z).1
    · rw [z]; exact h.lb.1
  · rcases z with z | z
    · exact h.di j z hj
    · exact h.m.not h.hc (by decide) (z ▸ hj)
  · have := set_block (off := 5) (v := .slice (some ⟨gg, 0, none⟩) (i + 1) cap') hc1
    rw [this]; rfl
  · rcases z with z | z
    · exact far h.hsl (by decide) z
    · exact cells_ne h.hsl h.hc (by decide) z
  · rw [ivs_more]
    refine t2.row hr1 (fun j hj e => ?_)
    have e1 : gg = j := by simpa [Value.ownBlock] using hj
    obtain ⟨_, _, cs', h'⟩ := row_atk hr1 ⟨_, rfl, rfl⟩
    exact cells_ne h' hc1 (by decide) (e1.trans e)
  · refine tt2.row h.rt (fun j hj z => ?_)
    rcases z with z | z
    · exact h.ne j z (own_at hj)
    · obtain ⟨_, _, cs', h'⟩ := row_atk h.rt (own_at hj)
      exact cells_ne h' h.hc (by decide) z
  · obtain ⟨a, ha, e⟩ := hj
    cases ha
    subst e
    rcases hg with y | y
    · exact h.di _ y z
    · have := (h.m.lo z).2
      omega
  · obtain ⟨a, ha, e⟩ := hj
    cases ha
    subst e
    rcases hg with y | y
    · exact h.ne _ y z
    · have := (row_atk h.rt z).2.1
      omega
theorem Sp.growT (h : Sp w0 c x sl n D ws tr io ic i uo tc k w) {gg cap' : Nat} {w1 : World} (hr1 : w1.ownsRow w0.heap.size 3 1 (.slice (some ⟨gg, 0, none⟩) (k + 1) cap') (k + 1) (ivs (List.replicate k (-1)) ++ [.int .i64 (-1)])) (t : Turn (At uo) w w1) (hg : At uo gg ∨ w.heap.size ≤ gg) :
    Sp w0 c x sl n D ws tr io ic i (some ⟨gg, 0, none⟩) cap' (k + 1) (w1.setCell ⟨c, 7, none⟩ (.slice (some ⟨gg, 0, none⟩) (k + 1) cap')) := by
  have far : ∀ {j : Nat} {cs : Array Value} {T : TypeId}, w.heap[j]? = some (.cells cs T (0, 0)) → T ≠ 3 → ¬ At uo j := fun hj n1 z => by
    obtain ⟨_, _, cs', h'⟩ := row_atk h.rt z
    exact cells_ne hj h' n1 rfl
  have hc1 := (t.block c (lt_of_heap h.hc) (far h.hc (by decide))).trans h.hc
  have t2 := turn_b c 7 (.slice (some ⟨gg, 0, none⟩) (k + 1) cap') w1
  have tt2 : Turn (fun j => At uo j ∨ j = c) w (w1.setCell ⟨c, 7, none⟩ (.slice (some ⟨gg, 0, none⟩) (k + 1) cap')) := (t.mono (fun j _ z => .inl z)).trans (t2.mono (fun j _ z => .inr z))
  refine ⟨h.bel.trans (tt2.below (fun j hj => ?_) h.bel.size), h.m.kept tt2 (fun j hj z => ?_), ?_, h.hsl.kept tt2 (fun z => ?_), ?_, ?_, h.lb, h.di, fun j hj z => ?_, fun j hj z => ?_⟩
  · rcases hj with z | z
    · exact (row_atk h.rt z).1
    · rw [z]; exact h.lb.1
  · rcases z with z | z
    · exact h.dt j z hj
    · exact h.m.not h.hc (by decide) (z ▸ hj)
  · have := set_block (off := 7) (v := .slice (some ⟨gg, 0, none⟩) (k + 1) cap') hc1
    rw [this]; rfl
  · rcases z with z | z
    · exact far h.hsl (by decide) z
    · exact cells_ne h.hsl h.hc (by decide) z
  · refine tt2.row h.ri (fun j hj z => ?_)
    rcases z with z | z
    · exact h.ne j (own_at hj) z
    · obtain ⟨_, _, cs', h'⟩ := row_atk h.ri (own_at hj)
      exact cells_ne h' h.hc (by decide) z
  · rw [ivs_more]
    refine t2.row hr1 (fun j hj e => ?_)
    have e1 : gg = j := by simpa [Value.ownBlock] using hj
    obtain ⟨_, _, cs', h'⟩ := row_atk hr1 ⟨_, rfl, rfl⟩
    exact cells_ne h' hc1 (by decide) (e1.trans e)
  · obtain ⟨a, ha, e⟩ := hj
    cases ha
    subst e
    rcases hg with y | y
    · exact h.dt _ y z
    · have := (h.m.lo z).2
      omega
  · obtain ⟨a, ha, e⟩ := z
    cases ha
    subst e
    rcases hg with y | y
    · exact h.ne _ hj y
    · have := (row_atk h.ri hj).2.1
      omega
theorem row_some {g0 e m nn cap : Nat} {ao : Option Addr} {xs : List Value} (h : w.ownsRow g0 e m (.slice ao nn cap) nn xs) (hn : 1 ≤ nn) : ∃ g, ao = some ⟨g, 0, none⟩ := by
  rcases h.2 with ⟨hv, _⟩ | ⟨g', cap', cur, hv, hb, hg', _⟩
  · simp only [Value.slice.injEq] at hv
    omega
  · simp only [Value.slice.injEq] at hv
    exact ⟨g', hv.1⟩
theorem rep_range (n : Nat) : (List.range n).map (fun _ => (-1 : Int)) = List.replicate n (-1) := by
  apply List.ext_getElem?
  intro i
  by_cases h : i < n
  · rw [List.getElem?_map, List.getElem?_range h, List.getElem?_replicate, if_pos h]; rfl
  · rw [List.getElem?_eq_none (by simpa using h), List.getElem?_eq_none (by simpa using h)]
def s0 (q0 : Int) : St := ⟨q0, 0, fun _ => 0, [], fun _ => -1, [], fun _ => -1⟩
theorem inv_s0 {q0 : Int} (hn : 1 ≤ n) (h : 1 ≤ q0 ∧ q0 ≤ 1000000) : Inv n K (s0 q0) ((0 : Nat) : Int) := by
  refine ⟨hn, h.1, by omega, by show q0 ≤ _; omega, ⟨by show (0 : Int) ≤ 0; omega, by show (0 : Int) ≤ _; omega⟩, fun i l hl => ?_, fun i l hl => ?_, fun i j l a hl => ?_, fun i j l a hl => ?_, fun i l hl => ?_, fun k hk => .inl ⟨rfl, rfl⟩, fun k hk => .inl rfl⟩
  all_goals exact absurd (show ([] : List _)[i]? = some _ from hl) (by simp)
theorem Sp.fin {q0 : Int} (h : Sp w0 c x sl n D (Mm n 0 q0 (fun _ => 0)) tr io ic n uo tc K w) (hn : 1 ≤ n) (hK : 1 ≤ K) (htr : tr.length ≤ 1) (hq : 1 ≤ q0 ∧ q0 ≤ 1000000) : Se w0 c x sl n K 0 0 w := by
  obtain ⟨gi, rfl⟩ := row_some h.ri hn
  obtain ⟨gt, rfl⟩ := row_some h.rt hK
  refine ⟨D, s0 q0, ⟨none, 0, gi, ic, none, 0, gt, tc⟩, tr, [], [], ⟨h.bel, h.m, ⟨h.hc, h.hsl, World.ownsRow_nil _ _ _ _, World.ownsRow_nil _ _ _ _, ?_, ?_, ⟨fun i p hp => ?_, fun i j p q hp => ?_⟩, ⟨fun i p hp => ?_, fun i j p q hp => ?_⟩, ⟨fun i p hp => ?_, fun i j p q hp => ?_⟩, ⟨fun i p hp => ?_, fun i j p q hp => ?_⟩, fun e => h.ne gi ⟨_, rfl, rfl⟩ ⟨_, rfl, e⟩, h.lb⟩, h.di gi ⟨_, rfl, rfl⟩, h.dt gt ⟨_, rfl, rfl⟩⟩, rfl, rfl, inv_s0 hn hq, by omega, Nat.le_refl _, Nat.le_refl _⟩
  · show w.ownsRow _ 3 1 _ n (ivs ((List.range n).map fun _ => (-1 : Int)))
    rw [rep_range]; exact h.ri
  · show w.ownsRow _ 3 1 _ K (ivs ((List.range K).map fun _ => (-1 : Int)))
    rw [rep_range]; exact h.rt
  all_goals exact absurd (show ([] : List _)[i]? = some _ from hp) (by simp)
theorem Se.bel {now : Int} (h : Se w0 c x sl n K N now w) : Below w0.heap.size w0 w := by
  obtain ⟨D, s, q, tr, LL, AA, hms, _⟩ := h
  exact hms.bel
set_option maxRecDepth 100000 in
set_option maxHeartbeats 1000000 in
theorem pick_big (k n : Int) (w : World) (hn : 0 < n) (hn2 : n ≤ 4000000) : Calls Try.prog 7 #[.int .i64 k, .int .i64 n] w fun e w' => e = .returned (.int .i64 (k % n)) ∧ w' = w := by
  by_cases h : k < 0
  · obtain ⟨t1, t2, t3, t4⟩ := tmod_neg h hn
    by_cases hz : k.tmod n < 0
    · rw [t3 hz]
      clear t3 t4 h
      go_enter Try.func7, Try.ntmps7
      go_wp2
      go_ret
      exact ⟨rfl, rfl⟩
    · have e := t4 (by omega)
      have e2 : k.tmod n = 0 := by omega
      rw [e]
      clear t3 t4 h e
      go_enter Try.func7, Try.ntmps7
      go_wp2
      go_ret
      exact ⟨rfl, rfl⟩
  · have h3 := Int.emod_nonneg k (b := n) (by omega)
    go_enter Try.func7, Try.ntmps7
    go_wp2
    go_ret
    exact ⟨rfl, rfl⟩
theorem modn (z : Int) (n : Nat) (h : 0 < n) : ∃ e : Nat, e < n ∧ z % (n : Int) = (e : Int) := by
  have h3 := Int.emod_nonneg z (b := (n : Int)) (by omega)
  have h4 := Int.emod_lt_of_pos z (b := (n : Int)) (by omega)
  exact ⟨(z % (n : Int)).toNat, by omega, by omega⟩
theorem tmodn {z : Int} {n : Nat} (hz : 0 ≤ z) (h : 0 < n) : ∃ e : Nat, e < n ∧ z.tmod (n : Int) = (e : Int) := by
  obtain ⟨e, h1, h2⟩ := modn z n h
  exact ⟨e, h1, by rw [Int.tmod_eq_emod_of_nonneg hz]; exact h2⟩
theorem wp1 (m n : Nat) (h : n = m + 1) (hb : m < 2000000) : wrap64 (1 + (m : Int)) = (n : Int) := by subst h; unfold wrap64; omega
theorem wp2 (n : Nat) (hb : n < 2000000) : wrap64 (2 + (n : Int)) = ((n + 2 : Nat) : Int) := by unfold wrap64; omega
theorem wq1 (m : Nat) (q : Int) (h : q = (m : Int) + 1) (hb : m < 2000000) : wrap64 (1 + (m : Int)) = q := by subst h; unfold wrap64; omega
theorem wsK (k : Nat) (h : k < 2000000) : wrap64 ((k : Int) + 1) = (k : Int) + 1 := by unfold wrap64; omega
theorem wneg {p : Int} (h0 : p < 0) (h1 : -9223372036854775808 ≤ p) : wrap64 (-(wrap64 (p + 1))) = -(p + 1) ∧ 0 ≤ -(p + 1) := by
  have : wrap64 (p + 1) = p + 1 := by unfold wrap64; omega
  rw [this]
  exact ⟨by unfold wrap64; omega, by omega⟩
theorem mm_first (n : Nat) (q0 : Int) : er (List.replicate (n + 2) 0) 1 = 0 ∧ bd (List.replicate (n + 2) 0) 1 = 0 ∧ put (List.replicate (n + 2) 0) 1 q0 = Mm n 0 q0 (fun _ => 0) := by
  have h0 : (List.replicate (n + 2) (0 : Int)).getD 1 0 = 0 := by simp [List.getD, List.getElem?_replicate]
  obtain ⟨e1, e2⟩ := er_ok (ws := List.replicate (n + 2) 0) (k := 1) (by simp) (by rw [h0]; decide)
  have e1' : er (List.replicate (n + 2) 0) 1 = 0 := e1
  refine ⟨e1', bd_ok e1', ?_⟩
  have := put_ok (v := q0) e1
  refine this.trans ?_
  show (List.replicate (n + 2) (0 : Int)).set 1 q0 = _
  rw [List.replicate_succ, List.replicate_succ]
  show (0 : Int) :: q0 :: List.replicate n 0 = 0 :: q0 :: (List.range n).map (fun _ => (0 : Int))
  congr 2
  apply List.ext_getElem?
  intro i
  by_cases h : i < n
  · rw [List.getElem?_map, List.getElem?_range h, List.getElem?_replicate, if_pos h]; rfl
  · rw [List.getElem?_eq_none (by simpa using h), List.getElem?_eq_none (by simpa using h)]
end Wt
end Go.Proofs.Ytbbopkhgmgdlfaa
set_option linter.unusedVariables false
set_option linter.unusedSimpArgs false
namespace Go.Proofs.Ytbbopkhgmgdlfaa
open Go.RowKit
namespace Wt
open M F V
set_option maxRecDepth 100000 in
set_option maxHeartbeats 8000000 in
theorem waits_walk (z0 z1 z2 : Int) (a : Option Addr) (pcap : Nat) (ns : List Int) (w : World) (hI : Ints w a ns) (hb : ∀ k, k < ns.length → -9223372036854775808 ≤ ns.getD k 0) (hl : ns.length ≤ 1048576) :
    Calls Try.prog 4 #[.int .i64 z0, .int .i64 z1, .int .i64 z2, .slice a ns.length pcap] w fun e w' => e = .returned (.bool true) ∧ Below w.heap.size w w' := by
  obtain ⟨m0, hm0, e0⟩ := modn z0 16 (by omega)
  obtain ⟨m1, hm1, e1⟩ := modn z1 4 (by omega)
  obtain ⟨m2, hm2, e2⟩ := modn z2 1000000 (by omega)
  have HAw := hide' (A.awake_any w)
  have Hp0 := hide' (fun w => pick_big z0 16 w (by omega) (by omega))
  have Hp1 := hide' (fun w => pick_big z1 4 w (by omega) (by omega))
  have Hp2 := hide' (fun w => pick_big z2 1000000 w (by omega) (by omega))
  replace e0 : z0 % 16 = (m0 : Int) := e0
  replace e1 : z1 % 4 = (m1 : Int) := e1
  replace e2 : z2 % 1000000 = (m2 : Int) := e2
  rw [e0] at Hp0
  rw [e1] at Hp1
  rw [e2] at Hp2
  obtain ⟨n, hn⟩ : ∃ n, n = m0 + 1 := ⟨_, rfl⟩
  obtain ⟨K, hK⟩ : ∃ K, K = m1 + 1 := ⟨_, rfl⟩
  obtain ⟨q0, hq0⟩ : ∃ q0 : Int, q0 = (m2 : Int) + 1 := ⟨_, rfl⟩
  have HN := hide' (show 1 ≤ n ∧ n ≤ 16 by omega)
  have HK := hide' (show 1 ≤ K ∧ K ≤ 4 by omega)
  have HQ := hide' (show 1 ≤ q0 ∧ q0 ≤ 1000000 by omega)
  have HI := hide' hI
  have HB := hide' hb
  have HL := hide' hl
  have WN := hide' (wp1 m0 n hn (by omega))
  have WK := hide' (wp1 m1 K hK (by omega))
  have WN2 := hide' (wp2 n (by omega))
  have WQ := hide' (wq1 m2 q0 hq0 (by omega))
  have HN16 := hide' (show n + 2 ≤ 65536 by omega)
  have hn0 : 0 < (n : Int) := by omega
  have hK0 : 0 < (K : Int) := by omega
  clear hI hb hl e0 e1 e2 hn hK hq0 hm0 hm1 hm2
  go_enter Try.func4, Try.ntmps4
  go_wp2_with fail
  refine HAw.out.mono ?_
  rintro r w1 ⟨rfl, b1⟩
  have HB1 := hide' b1
  clear HAw b1
  go_wp2_with fail
  refine (Hp0.out w1).mono ?_
  rintro r wa ⟨rfl, hwa⟩
  replace hwa := hwa.symm
  subst hwa
  clear Hp0
  go_wp2_with fail
  rw [WN.out]
  refine (Hp1.out w1).mono ?_
  rintro r wa ⟨rfl, hwa⟩
  replace hwa := hwa.symm
  subst hwa
  have H8 := hide' (M.new_any (n + 2) w1 (by omega) HN16.out ((n + 2 : Nat) : Int) rfl)
  clear Hp1
  go_wp2_with fail
  rw [WK.out, WN2.out]
  refine H8.out.mono ?_
  rintro r w2 ⟨x, rfl, D2, m2', b2⟩
  have HM2 := hide' (And.intro m2' b2)
  clear H8 m2' b2 WN WK WN2 HN16
  go_wp2_with fail
  refine (Hp2.out w2).mono ?_
  rintro r wa ⟨rfl, hwa⟩
  replace hwa := hwa.symm
  subst hwa
  clear Hp2
  have HS : Hid (Calls Try.prog 20 #[.pointer (some ⟨x, 0, none⟩), .int .i64 1, .int .i64 q0] w2 fun r w' => r = .returned (.int .i64 0) ∧ ∃ v, To D2 w1.heap.size x (Mm n 0 q0 (fun _ => 0)) [v] 0 w2 w') := hide' (by
    obtain ⟨e1, e2, e3⟩ := mm_first n q0
    refine (M.store_any 1 q0 HM2.out.1 (by simp)).mono fun r w' ⟨hr, ht⟩ => ?_
    rw [e1] at hr
    rw [e3, e2] at ht
    exact ⟨hr, _, ht⟩)
  go_wp2_with fail
  rw [WQ.out]
  refine HS.out.mono ?_
  rintro r w3 ⟨rfl, v3, t3⟩
  obtain ⟨D3, m3, b3⟩ := M.To.below HM2.out.1 HM2.out.2 t3
  have H10 : Hid (Calls Try.prog 10 #[.pointer (some ⟨x, 0, none⟩), .int .i64 1, .int .i64 2, .int .i64 (n : Nat)] w3 fun r w' => r = .returned (.tuple #[.pointer (some ⟨w3.heap.size, 0, none⟩), .int .i64 0]) ∧ Hid (w' = w3.alloc (.cells #[.pointer (some ⟨x, 0, none⟩), .int .i64 ((1 : Nat) : Int), .int .i64 ((2 : Nat) : Int), .int .i64 (n : Nat)] 90))) := hide' (snew_ok 1 2 n m3 HN.out (by rw [mm_len]; omega) (by rw [mm_len]; omega) (by omega))
  have HM3 := hide' (And.intro m3 b3)
  clear t3 m3 b3 HS HM2 WQ
  go_wp2_with fail
  refine H10.out.mono ?_
  rintro r w4 ⟨rfl, hw4⟩
  have HS4 : Hid (Sl w3.heap.size x 1 2 n w4 ∧ Below w3.heap.size w3 w4) := hide' (by
    rw [hw4.out]
    exact ⟨heap_alloc_new w3 _, (Below.refl _ _).alloc (Nat.le_refl _) _⟩)
  obtain ⟨sl, hsl⟩ : ∃ sl, sl = w3.heap.size := ⟨_, rfl⟩
  have HM4 : Hid (Mem D3 w1.heap.size x (Mm n 0 q0 (fun _ => 0)) [v3] 0 w4 ∧ Below w1.heap.size w1 w4 ∧ Sl sl x 1 2 n w4 ∧ w1.heap.size ≤ sl) := hide' (by
    refine ⟨HM3.out.1.below HS4.out.2, HM3.out.2.trans (HS4.out.2.mono HM3.out.2.size), by rw [hsl]; exact HS4.out.1, by rw [hsl]; exact HM3.out.2.size⟩)
  rw [← hsl]
  clear hw4 HS4 HM3 H10 hsl
  clear w3
  go_wp2_with fail
  obtain ⟨c, hc⟩ : ∃ c, c = w4.heap.size := ⟨_, rfl⟩
  have HP : Hid (Sp w1 c x sl n D3 (Mm n 0 q0 (fun _ => 0)) [v3] none 0 0 none 0 0 (w4.alloc (.cells #[.pointer (some ⟨x, 0, none⟩), .pointer (some ⟨sl, 0, none⟩), .int .i64 (n : Nat), .int .i64 0, .slice none 0 0, .slice none 0 0, .slice none 0 0, .slice none 0 0, .int .i64 0] 67))) := hide' (by
    have b : Below w4.heap.size w4 (w4.alloc (.cells #[.pointer (some ⟨x, 0, none⟩), .pointer (some ⟨sl, 0, none⟩), .int .i64 (n : Nat), .int .i64 0, .slice none 0 0, .slice none 0 0, .slice none 0 0, .slice none 0 0, .int .i64 0] 67)) := (Below.refl _ _).alloc (Nat.le_refl _) _
    refine ⟨HM4.out.2.1.trans (b.mono HM4.out.2.1.size), HM4.out.1.below b, ?_, Sl.kept (S := fun _ => False) HM4.out.2.2.1 (turn_below b) (fun z => z), World.ownsRow_nil _ _ _ _, World.ownsRow_nil _ _ _ _, ⟨by rw [hc]; exact HM4.out.2.1.size, HM4.out.2.2.2⟩, fun j hj => ?_, fun j hj => ?_, fun j hj => ?_⟩
    · rw [hc]; exact heap_alloc_new _ _
    all_goals (obtain ⟨_, ha, _⟩ := hj; cases ha))
  rw [← hc]
  clear HM4 hc
  generalize (w4.alloc (.cells #[.pointer (some ⟨x, 0, none⟩), .pointer (some ⟨sl, 0, none⟩), .int .i64 (n : Nat), .int .i64 0, .slice none 0 0, .slice none 0 0, .slice none 0 0, .slice none 0 0, .int .i64 0] 67)) = w5 at *
  go_loopw [17] (fun i wx => ∃ k : Nat, k ≤ n ∧ i = .int .i64 (k : Int) ∧ ∃ io ic, Sp w1 c x sl n D3 (Mm n 0 q0 (fun _ => 0)) [v3] io ic k none 0 0 wx) (fun i _ => n - (intOf i).toNat)
  case atStart => exact ⟨0, by omega, rfl, none, 0, HP.out⟩
  case round =>
    clear HP
    obtain ⟨k, hkn, rfl, io, ic, hS⟩ := hrel
    by_cases hlt : k < n
    · have HS := hide' hS
      have c5 := hS.c5
      have hlt' : (k : Int) < (n : Int) := by omega
      have Hw := hide' (wsK k (by have := HN.out; omega))
      have HL1 := hide' (show k < 3000000000000 by have := HN.out; omega)
      have HB9 := hide' (hS.bel.size)
      have nws : Hid (¬ At io c) := hide' (fun z => by obtain ⟨_, _, cs', h'⟩ := row_atk hS.ri z; exact cells_ne hS.hc h' (by decide) rfl)
      clear hS
      go_wp2_with (at_builtin; refine wpList_more (e := 3) (m := 1) Try.underlying57 info3 rfl (by decide) (by decide) wr rfl _ _ rfl HS.out.ri HL1.out HB9.out [.int .i64 (-1)] rfl (by simp [Value.oneCell']) _ rfl rfl ?_; intro gg cap' w6 hr6 t6 hg6; have ax := (t6.cell (p := ⟨c, 5, none⟩) (lt_of_heap HS.out.hc) nws.out).trans HS.out.c5; have a1 : w6.frozen? ⟨c, 5, none⟩ = false := Lib.frozen_of_heap ((t6.block c (lt_of_heap HS.out.hc) nws.out).trans HS.out.hc) 5)
      have H7 := hide' (HS.out.growI hr6 t6 hg6)
      exact ⟨⟨k + 1, by omega, by rw [Hw.out]; rfl, _, _, H7.out⟩, msr' hlt _ Hw.out⟩
    · obtain rfl : k = n := by omega
      have HS := hide' hS
      clear hS
      go_wp2_with fail
      go_loopw [18] (fun i wx => ∃ j : Nat, j ≤ K ∧ i = .int .i64 (j : Int) ∧ ∃ uo tc, Sp w1 c x sl k D3 (Mm k 0 q0 (fun _ => 0)) [v3] io ic k uo tc j wx) (fun i _ => K - (intOf i).toNat)
      case atStart => exact ⟨0, by omega, rfl, none, 0, HS.out⟩
      case round =>
        clear HS
        obtain ⟨j, hjn, rfl, uo, tc, hS⟩ := hrel
        by_cases hlt : j < K
        · have HS := hide' hS
          have c7 := hS.c7
          have hlt' : (j : Int) < (K : Int) := by omega
          have Hw := hide' (wsK j (by have := HK.out; omega))
          have HL1 := hide' (show j < 3000000000000 by have := HK.out; omega)
          have HB9 := hide' (hS.bel.size)
          have nws : Hid (¬ At uo c) := hide' (fun z => by obtain ⟨_, _, cs', h'⟩ := row_atk hS.rt z; exact cells_ne hS.hc h' (by decide) rfl)
          clear hS
          go_wp2_with (at_builtin; refine wpList_more (e := 3) (m := 1) Try.underlying57 info3 rfl (by decide) (by decide) wr rfl _ _ rfl HS.out.rt HL1.out HB9.out [.int .i64 (-1)] rfl (by simp [Value.oneCell']) _ rfl rfl ?_; intro gg cap' w6 hr6 t6 hg6; have ax := (t6.cell (p := ⟨c, 7, none⟩) (lt_of_heap HS.out.hc) nws.out).trans HS.out.c7; have a1 : w6.frozen? ⟨c, 7, none⟩ = false := Lib.frozen_of_heap ((t6.block c (lt_of_heap HS.out.hc) nws.out).trans HS.out.hc) 7)
          have H7 := hide' (HS.out.growT hr6 t6 hg6)
          exact ⟨⟨j + 1, by omega, by rw [Hw.out]; rfl, _, _, H7.out⟩, msr' hlt _ Hw.out⟩
        · obtain rfl : j = K := by omega
          have HE := hide' (hS.fin HN.out.1 HK.out.1 (Nat.le_refl _) HQ.out)
          clear hS
          go_wp2_with fail
          go_loopw [9, 19] (fun b i wx => ∃ N : Nat, N ≤ ns.length ∧ b = .bool true ∧ i = .int .i64 (N : Int) ∧ ∃ now, Se w1 c x sl k j N now wx) (fun _ i _ => ns.length - (intOf i).toNat)
          case atStart => exact ⟨0, by omega, rfl, rfl, 0, HE.out⟩
          case round =>
            clear HE
            obtain ⟨N, hNn, rfl, rfl, now, hS⟩ := hrel
            by_cases hlt : N < ns.length
            · have hlt' : (N : Int) < (ns.length : Int) := by omega
              obtain ⟨D, s, q, tr, LL, AA, hms, eL, eA, inv, tl, ll, al⟩ := hS
              have c3 := hms.sw.c3
              have f3 := hms.sw.fz 3
              have hm3 := hms.setNow (N : Nat)
              have HA := hide' (At1.mk hm3 eL eA inv tl ll al)
              have Hw := hide' (wsK N (by have := HL.out; omega))
              have HNb := hide' (show N < 199999999999 by have := HL.out; omega)
              have HI1 := hide' ((HI.out.below HB1.out).below ((hm3.bel).mono (Nat.le_refl _)))
              have HpB := hide' (HB.out N hlt)
              clear hms eL eA inv tl ll al hm3
              rcases HI1.out with hI | ⟨ab, off, rfl, hab, hc⟩
              · rw [hI] at hlt; exact absurd hlt (by simp)
              · have hcell := hc N hlt
                clear hc HI1 hab
                generalize ns.getD N 0 = p at *
                generalize hws : wr.setCell ⟨c, 3, none⟩ (.int .i64 ((N : Nat) : Int)) = ww at *
                by_cases hp : 0 ≤ p
                · obtain ⟨kk, hkk, ek⟩ := tmodn hp HN.out.1
                  have HC := hide' (reader_any HA.out hkk HN.out.2 HNb.out)
                  go_wp2_with fail
                  refine HC.out.mono ?_
                  rintro r w9 ⟨rfl, hE⟩
                  have HE := hide' hE
                  clear hE HC ek hws hcell c3 f3
                  go_wp2
                  exact ⟨⟨N + 1, by omega, rfl, by rw [Hw.out]; rfl, _, HE.out⟩, msr' hlt _ Hw.out⟩
                · have hp' : p < 0 := by omega
                  obtain ⟨en, en0⟩ := wneg hp' HpB.out
                  obtain ⟨kk, hkk, ek⟩ := tmodn en0 HK.out.1
                  have HC := hide' (writer_any HA.out hkk HN.out.2 HNb.out)
                  have En := hide' en
                  have Ek := hide' ek
                  clear en ek en0 hp
                  go_wp2_with fail
                  rw [En.out, Ek.out]
                  refine HC.out.mono ?_
                  rintro r w9 ⟨rfl, hE⟩
                  have HE := hide' hE
                  clear hE HC Ek En hws hcell c3 f3
                  go_wp2
                  exact ⟨⟨N + 1, by omega, rfl, by rw [Hw.out]; rfl, _, HE.out⟩, msr' hlt _ Hw.out⟩
            · have hlt' : ¬ (N : Int) < (ns.length : Int) := by omega
              have HBe := hide' (HB1.out.trans (hS.bel.mono HB1.out.size))
              obtain ⟨D, s, q, tr, LL, AA, hms, _⟩ := hS
              have HC := hide' (bad_any hms.m)
              clear hms
              go_wp2_with fail
              refine HC.out.mono ?_
              rintro r w9 ⟨rfl, hw9⟩
              have HBf : Hid (Below w.heap.size w w9) := hide' (by rw [hw9]; exact HBe.out)
              clear hw9 HC
              go_wp2
              go_ret
              exact ⟨rfl, HBf.out⟩
end Wt
end Go.Proofs.Ytbbopkhgmgdlfaa
set_option linter.unusedVariables false
set_option linter.unusedSimpArgs false
namespace Go.Proofs.Ytbbopkhgmgdlfaa
namespace InN
open Go.ChangeShapes Go.WideShapes Go.ChangeAt Go.RowKit
theorem wf_ge {z : Int} (h : (Lit.int .i64 z).wf = true) : -9223372036854775808 ≤ z := by
  simp [Lit.wf, IntKind.min, IntKind.max, IntKind.bits, IntKind.signed] at h
  omega
/-- a slice of numbers that came in, and where they begin -/
theorem ints_in {H : Type} {enc : TypeId × Value → H} {W : World} {a : Option Addr} {len cap : Nat} {d : DataW H} {ps : List MemPlace} {base : Nat} {spare : Nat → Bool} {held : Bool}
    (h : DataW.Trod enc Try.prog W base spare held 57 (.slice a len cap) d ps) : ∃ ns, ns.length = len ∧ M.Ints W a ns ∧ ∀ k, k < ns.length → -9223372036854775808 ≤ ns.getD k 0 := by
  obtain ⟨fuel, hf⟩ := h
  rcases open_ints Try.underlying57 Try.underlying3 (by kernel_rfl) hf with ⟨hcs, _⟩ | ⟨x, l, c, zs, hcs, _, hl, hm, hz, hx, hcell, hwz⟩
  · simp [Value.cells] at hcs
    obtain ⟨rfl, rfl, rfl⟩ := hcs
    exact ⟨[], rfl, .inl rfl, fun k hk => by simp at hk⟩
  · simp [Value.cells] at hcs
    obtain ⟨rfl, rfl, rfl⟩ := hcs
    have hlz : len ≤ zs.length := by rw [hz]; split <;> omega
    refine ⟨zs.take len, by rw [List.length_take]; omega, ?_, fun k hk => ?_⟩
    · by_cases h0 : len = 0
      · exact .inl (by rw [h0]; rfl)
      · have hc0 := hcell 0 (by omega)
        obtain ⟨b, off, spot⟩ := x
        have hspot : spot = none := by simpa [Addr.add] using World.cell?_spot hc0
        subst hspot
        have hbl : b < W.heap.size := World.block_lt_of_cell? W _ (by simpa [Addr.add] using hc0)
        refine .inr ⟨b, off, rfl, hbl, fun j hj => ?_⟩
        rw [List.length_take] at hj
        have := hcell j (by omega)
        rw [show (⟨b, off, none⟩ : Addr).add j = ⟨b, off + j, none⟩ from by simp [Addr.add]] at this
        rw [this]
        simp [List.getD, List.getElem?_take_of_lt (show j < len by omega)]
    · have hm : (zs.take len).getD k 0 ∈ zs := by
        rw [show (zs.take len).getD k 0 = (zs.take len)[k] from by rw [List.getD, List.getElem?_eq_getElem hk]; rfl]
        exact List.mem_of_mem_take (List.getElem_mem hk)
      exact wf_ge (hwz _ hm)
end InN
namespace epochWaits
open Go.ChangeShapes Go.WideShapes Go.ChangeAt Go.RowKit Go.Deep
set_option maxRecDepth 100000 in
theorem contract (H : Type) (enc : TypeId × Value → H) (W : World) (base : Nat) (args : Array Value) (ds gs : List (DataW H)) (before : List MemPlace)
    (hval : ∀ (j : Nat) t v, Try.f4.params[j]? = some t → args[j]? = some v → Value.okWide Try.prog W .any base t v)
    (hW : DataW.Whole enc Try.prog Try.f4.params.toList Rows.epochWaitsSpec.vars false W args.toList ds gs before) (hk : Rows.uptoSmall H (ds ++ gs) = true) :
    Calls Try.prog 4 args W fun e W' => ∃ v, e = .returned v ∧ Rows.epochWaitsSpec.post enc Try.prog Try.f4 false true false false W args v W' := by
  have hW' := hW
  obtain ⟨p, q, hA0, hV, rfl, hfz, hnd⟩ := hW
  have hA : DataW.TrodAll enc Try.prog W 0 (fun _ => true) true Try.f4.params.toList args.toList ds p := hA0
  rw [Try.params4] at hA hval
  obtain ⟨v0, vs0, d0, ds0, p0, q0, hargs, rfl, rfl, h0, r0⟩ := trodAll_cons hA
  obtain ⟨v1, vs1, d1, ds1, p1, q1, rfl, rfl, rfl, h1, r1⟩ := trodAll_cons r0
  obtain ⟨v2, vs2, d2, ds2, p2, q2, rfl, rfl, rfl, h2, r2⟩ := trodAll_cons r1
  obtain ⟨v3, vs3, d3, ds3, p3, q3, rfl, rfl, rfl, h3, r3⟩ := trodAll_cons r2
  obtain ⟨rfl, rfl, rfl⟩ := trodAll_nil r3
  obtain rfl : args = #[v0, v1, v2, v3] := by cases args; simp_all
  obtain ⟨rfl, rfl⟩ := trodVars_none hV
  simp only [List.append_nil] at hk
  have hb : Rows.uptoBulk d0 + Rows.uptoBulk d1 + Rows.uptoBulk d2 + Rows.uptoBulk d3 ≤ 1048576 := by
    have hb : Rows.uptoBulkAll [d0, d1, d2, d3] ≤ 1048576 := of_decide_eq_true hk
    simp only [Rows.uptoBulkAll] at hb
    omega
  obtain ⟨x0, rfl, rfl, rfl, w0⟩ := open_int Try.underlying3 (hval 0 3 v0 rfl rfl) h0
  obtain ⟨x1, rfl, rfl, rfl, w1⟩ := open_int Try.underlying3 (hval 1 3 v1 rfl rfl) h1
  obtain ⟨x2, rfl, rfl, rfl, w2⟩ := open_int Try.underlying3 (hval 2 3 v2 rfl rfl) h2
  have k3 := h3
  have lt3 : ∀ x ∈ p3, x.block < W.heap.size := by obtain ⟨m, hm⟩ := k3; exact DataW.trod_lt m _ _ _ hm
  obtain ⟨a3, len3, cap3, rfl⟩ := okWide_slice Try.underlying57 (hval 3 57 v3 rfl rfl)
  have hs3 := Ins.short h3 (by omega)
  obtain ⟨ns3, rfl, hI3, hB3⟩ := InN.ints_in h3
  clear hA0
  refine (Wt.waits_walk x0 x1 x2 a3 cap3 ns3 W hI3 hB3 (by have := hs3; omega)).mono fun e W' ⟨he, bel⟩ => ?_
  subst he
  exact ⟨_, rfl, _, _, _, [], _, [], hW', trodAll_mk1 (shut_bool Try.underlying4 _), (trodAll_cons_mk (shut_int Try.underlying3 w0) (trodAll_cons_mk (shut_int Try.underlying3 w1) (trodAll_cons_mk (shut_int Try.underlying3 w2) (trodAll_cons_mk (Below.trod laidOut (by kernel_rfl) (of_decide_eq_true (by kernel_rfl)) k3 bel lt3) trodAll_mk0)))), rfl, bel.frame _, fun h => by cases h⟩

set_option maxRecDepth 100000 in
theorem lifted (os : Os) (started : os.Started) (H : Type) (enc : TypeId × Value → H) (F : Stop.Interp) :
    ReturnsInHanded {} Try.checked os 4 .any ((Rows.OpenSpec.upto Rows.epochWaitsSpec).pre6 enc Try.prog Try.f4 Rows.epochWaitsUptoRow.domain false) (((Rows.OpenSpec.upto Rows.epochWaitsSpec).at F).post enc Try.prog Try.f4 false true false false) := by
  refine returnsInHanded_of_cond (C := Try.checked) (s := Rows.OpenSpec.upto Rows.epochWaitsSpec) (k := Rows.uptoSmall) rfl own started (by kernel_rfl) Try.func4
    (OpenSpec.witness (enc := enc) (C := Try.checked) (s := Rows.OpenSpec.upto Rows.epochWaitsSpec) (k := Rows.uptoSmall) rfl false ⟨#[], #[.int .i64 0, .int .i64 0, .int .i64 0, .slice none 0 0], []⟩ 8 (by kernel_rfl) (by kernel_rfl) (by kernel_rfl)
      (x := ([.lit (.int .i64 0), .lit (.int .i64 0), .lit (.int .i64 0), .nil], [], [])) (by kernel_rfl) rfl (by kernel_rfl)) ?_
  intro W base args ds gs before hval hW _ hk _
  exact contract H enc W base args ds gs before hval hW hk

theorem over : Rows.EpochWaitsUptoSaid :=
  OpenClaim.holds_of_cond 4 Try.f4 rfl rfl rfl rfl rfl rfl rfl ⟨rfl, rfl, rfl, rfl, rfl⟩ rfl rfl rfl rfl rfl (by kernel_rfl) Try.func4 (by kernel_rfl)
    (of_decide_eq_true (by kernel_rfl)) (by unfold Func.isWrapper; first | (rw [if_pos (by decide +kernel)]; kernel_rfl) | (rw [if_neg (by decide +kernel)]; exact ⟨rfl, rfl⟩))
    (fun os started H enc _ F => lifted os started H enc F)
end epochWaits

theorem epochWaits_holds : Rows.EpochWaitsUptoSaid := epochWaits.over
#print axioms epochWaits_holds
end Go.Proofs.Ytbbopkhgmgdlfaa
