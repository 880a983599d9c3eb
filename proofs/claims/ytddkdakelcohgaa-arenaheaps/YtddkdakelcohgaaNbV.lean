import Derived.Test.YtddkdakelcohgaaNbU
set_option linter.unusedVariables false
set_option linter.unusedSimpArgs false
namespace Go.Proofs.Ytddkdakelcohgaa
open Go.RowKit Go.Sort
namespace Nb
open Th Hp Dh
variable {B K N : Nat} {R : Nat → Rc} {ro : Option Addr} {rc : Nat} {w w' : World}
theorem lowI {D : Nat → Prop} {B B' h n : Nat} {fv : Value} {zs : List (Int × Nat)} {w : World} (H : HI.Ho D B h fv zs n w) (hb : B' ≤ B) : HI.Ho D B' h fv zs n w := by
  obtain ⟨ao, cap, hm, hd⟩ := H
  exact ⟨ao, cap, ⟨hm.hh, row_lower hm.row hb, Nat.le_trans hb hm.lo⟩, hd⟩
/-- a new pair: its order's box at s, the heap's blocks behind it, its own block last -/
theorem PN.new {s h nb : Nat} {o : Int} {D : Nat → Prop} (hs : B ≤ s) (hD : ∀ j, D j → s < j ∧ j ≠ nb) (hsn : s ≠ nb) (hn : B ≤ nb) (hB : B ≤ w.heap.size) (H : HI.Ho D B h (.func (.func 13) #[] #[.pointer (some ⟨s, 0, none⟩)]) [] 0 w) (ho : w.heap[s]? = some (.cells #[.int .i64 o] 3 (0, 0))) (hb : w.heap[nb]? = some (.cells #[.int .i64 o, .pointer (some ⟨h, 0, none⟩), .slice none 0 0] 35 (0, 0))) :
    PN B nb h s o [] 0 [] (fun j => j = s ∨ D j ∨ j = nb) w := by
  have on : ∀ j, Own nb none j ↔ j = nb := fun j => ⟨fun q => q.elim id (fun ⟨a, ha, _⟩ => by cases ha), .inl⟩
  refine ⟨D, none, 0, ⟨H, ⟨by rw [Lib.cell_of_heap hb]; rfl, Lib.frozen_of_heap hb 2, World.ownsRow_nil w B 52 2, lt_of_heap hb, fun j ⟨a, ha, _⟩ => by cases ha⟩, by rw [Lib.cell_of_heap hb]; rfl, by rw [Lib.cell_of_heap hb]; rfl, by unfold KO; rw [Lib.cell_of_heap ho]; rfl, fun j d q => (hD j d).2 ((on j).1 q), ⟨fun d => by have := (hD s d).1; omega, fun q => hsn ((on s).1 q)⟩, ⟨hB, hn, hs⟩⟩, fun j => by rw [on j]⟩
/-- a pair more, and its pointer in the row -/
theorem Fa.add (f : Fa B K N R ro rc w) {r : Rc} {w1 w2 : World} (hb : Below w.heap.size w w1) (hp : PN B r.nb r.h r.ob r.o r.zs r.n r.ds r.Q w1) (hc : Cp (rk r.o) r.zs r.n r.ds r.L) (hq : ∀ q ∈ r.L, q.1 = q.2.2) (hbd : r.n ≤ K ∧ r.L.length ≤ K) (hQ : ∀ j, r.Q j → w.heap.size ≤ j) {g cap' : Nat} (t : Turn (M.At ro) w1 w2) (hr : w2.ownsRow B 26 1 (.slice (some ⟨g, 0, none⟩) (N + 1) cap') (N + 1) ((List.range N).map (fun i => (R i).v) ++ [r.v])) (hg : M.At ro g ∨ w1.heap.size ≤ g) : Fa B K (N + 1) (upd R N r) (some ⟨g, 0, none⟩) cap' w2 := by
  have f1 := f.below hb
  have e1 : upd R N r N = r := by simp [upd]
  have e2 : ∀ i, i < N → upd R N r i = R i := fun i hi => by simp [upd, show i ≠ N by omega]
  have lt : ∀ i, i < N → ∀ b, (R i).Q b → b < w.heap.size := fun i hi b q => ((f.pn i hi).lt q).1
  have rlt : ∀ b, M.At ro b → b < w.heap.size := fun b hb => by
    obtain ⟨a, rfl, rfl⟩ := hb
    rcases f.row.2 with ⟨hv, _⟩ | ⟨g', cap', cur, hv, hb', hg', _⟩
    · cases hv
    · simp only [Value.slice.injEq, Option.some.injEq] at hv
      obtain ⟨rfl, _, _⟩ := hv
      exact lt_of_heap hg'
  have hs := hb.size
  refine ⟨fun i hi => ?_, fun i hi => ?_, fun i hi => ?_, fun i hi => ?_, fun i hi j hj e b => ?_, ?_, fun i hi b hb' => ?_, Nat.le_trans f1.lo t.size⟩
  · by_cases e : i = N
    · subst e; rw [e1]; exact hp.kept t (fun b q a => by have := hQ b q; have := rlt b a; omega)
    · rw [e2 i (by omega)]; exact (f1.pn i (by omega)).kept t (fun b q a => f.rq i (by omega) b a q)
  · by_cases e : i = N
    · subst e; rw [e1]; exact hc
    · rw [e2 i (by omega)]; exact f.cp i (by omega)
  · by_cases e : i = N
    · subst e; rw [e1]; exact hq
    · rw [e2 i (by omega)]; exact f.hq i (by omega)
  · by_cases e : i = N
    · subst e; rw [e1]; exact hbd
    · rw [e2 i (by omega)]; exact f.bd i (by omega)
  · by_cases e3 : i = N
    · have hj' : j < N := by omega
      rw [e3, e1, e2 j hj']
      exact fun q a => by have := hQ b q; have := lt j hj' b a; omega
    · have hi' : i < N := by omega
      rw [e2 i hi']
      by_cases e4 : j = N
      · rw [e4, e1]; exact fun a q => by have := hQ b q; have := lt i hi' b a; omega
      · rw [e2 j (by omega)]; exact f.dj i hi' j (by omega) e b
  · rw [List.range_succ, List.map_append]
    have : (List.range N).map (fun i => (upd R N r i).v) = (List.range N).map (fun i => (R i).v) := List.map_congr_left (fun i hi => by rw [e2 i (List.mem_range.1 hi)])
    rw [this]
    simpa [e1] using hr
  · obtain rfl : b = g := by
      obtain ⟨a, ha, e⟩ := hb'
      cases ha
      exact e
    by_cases e : i = N
    · subst e
      rw [e1]
      intro q
      rcases hg with x | x
      · have := hQ b q; have := rlt b x; omega
      · have := (hp.lt q).1; omega
    · rw [e2 i (by omega)]
      intro q
      rcases hg with x | x
      · exact f.rq i (by omega) b x q
      · have := lt i (by omega) b q; omega
theorem fa_none (B : Nat) (R : Nat → Rc) (w : World) (h : B ≤ w.heap.size) : Fa B 0 0 R none 0 w :=
  ⟨fun i hi => by omega, fun i hi => by omega, fun i hi => by omega, fun i hi => by omega, fun i hi => by omega, World.ownsRow_nil w B 26 1, fun i hi => by omega, h⟩
end Nb
end Go.Proofs.Ytddkdakelcohgaa
