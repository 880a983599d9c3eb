import Derived.Test.YtfeehnfpfheojaaHpM
import Derived.BigQuiet
import Derived.BigRegion
import Derived.LoopTactic
set_option linter.unusedVariables false
set_option linter.unusedSimpArgs false
namespace Go.Proofs.Ytfeehnfpfheojaa
open Go.RowKit Go.Sort
/-- a piece -/
structure Bk where
  addr : Int
  size : Int
  free : Bool
namespace HB
open Hp
def ic (z : Bk × Nat) : List Value := [.int .i64 z.1.addr, .int .i64 z.1.size, .bool z.1.free, .int .i64 (z.2 : Nat)]
theorem ic_len (z : Bk × Nat) : (ic z).length = 4 := rfl
/-- BLOCK h IS A HEAP: its things with their turns lie in a row of their own -/
structure Hm (B h : Nat) (fv : Value) (ao : Option Addr) (cap : Nat) (zs : List (Bk × Nat)) (cnt : Nat) (w : World) : Prop where
  hh : w.heap[h]? = some (.cells #[fv, .slice ao zs.length cap, .int .i64 (cnt : Nat)] 158 (0, 0))
  row : w.ownsRow B 165 4 (.slice ao zs.length cap) zs.length (zs.flatMap ic)
  lo : B ≤ h
variable {B h : Nat} {fv : Value} {ao : Option Addr} {cap : Nat} {zs : List (Bk × Nat)} {cnt : Nat} {w w' : World}
theorem Hm.lt (H : Hm B h fv ao cap zs cnt w) : h < w.heap.size := lt_of_heap H.hh
theorem Hm.at (H : Hm B h fv ao cap zs cnt w) {j : Nat} (hj : M.At ao j) : j ≠ h ∧ B ≤ j ∧ j < w.heap.size := by
  obtain ⟨a, rfl, rfl⟩ := hj
  rcases H.row.2 with ⟨hv, _⟩ | ⟨g', cap', cur, hv, hb, hg', _⟩
  · cases hv
  · simp only [Value.slice.injEq, Option.some.injEq] at hv
    obtain ⟨rfl, _, _⟩ := hv
    exact ⟨cells_ne hg' H.hh (by decide), hb, lt_of_heap hg'⟩
theorem Hm.c0 (H : Hm B h fv ao cap zs cnt w) : w.cell? ⟨h, 0, none⟩ = some fv := by rw [Lib.cell_of_heap H.hh]; rfl
theorem Hm.c1 (H : Hm B h fv ao cap zs cnt w) : w.cell? ⟨h, 1, none⟩ = some (.slice ao zs.length cap) := by rw [Lib.cell_of_heap H.hh]; rfl
theorem Hm.c2 (H : Hm B h fv ao cap zs cnt w) : w.cell? ⟨h, 2, none⟩ = some (.int .i64 (cnt : Nat)) := by rw [Lib.cell_of_heap H.hh]; rfl
theorem Hm.fx (H : Hm B h fv ao cap zs cnt w) (j : Nat) : w.frozen? ⟨h, j, none⟩ = false := Lib.frozen_of_heap H.hh j
def Own (h : Nat) (ao : Option Addr) (j : Nat) : Prop := j = h ∨ M.At ao j
theorem Hm.own (H : Hm B h fv ao cap zs cnt w) {j : Nat} (hj : Own h ao j) : B ≤ j ∧ j < w.heap.size := by
  rcases hj with rfl | hj
  · exact ⟨H.lo, H.lt⟩
  · exact (H.at hj).2
theorem Hm.kept {S : Nat → Prop} (H : Hm B h fv ao cap zs cnt w) (t : Turn S w w') (hn : ∀ j, Own h ao j → ¬ S j) : Hm B h fv ao cap zs cnt w' :=
  ⟨(t.block h H.lt (hn h (.inl rfl))).trans H.hh, t.row H.row (fun j hj => hn j (.inr (M.own_at hj))), H.lo⟩
theorem Hm.some (H : Hm B h fv ao cap zs cnt w) (hl : 0 < zs.length) : ∃ g, ao = some ⟨g, 0, none⟩ ∧ zs.length ≤ cap ∧ g < w.heap.size ∧ g ≠ h := by
  obtain ⟨g, cap', hv, h2, h3⟩ := H.row.form hl
  simp only [Value.slice.injEq] at hv
  obtain ⟨rfl, _, rfl⟩ := hv
  have := H.at (j := g) ⟨_, rfl, rfl⟩
  refine ⟨g, rfl, ?_, this.2.2, this.1⟩
  rcases H.row.2 with ⟨hv, _⟩ | ⟨g', cap', cur, hv, hb, hg', hc, _⟩
  · cases hv
  · simp only [Value.slice.injEq] at hv
    obtain ⟨_, _, rfl⟩ := hv
    exact hc
/-- the cells of a thing -/
theorem Hm.item {g : Nat} (H : Hm B h fv (Option.some ⟨g, 0, none⟩) cap zs cnt w) {i : Nat} {z : Bk × Nat} (hz : zs[i]? = Option.some z) : w.cell? ⟨g, i * 4, none⟩ = Option.some (.int .i64 z.1.addr) ∧ w.cell? ⟨g, i * 4 + 1, none⟩ = Option.some (.int .i64 z.1.size) ∧ w.cell? ⟨g, i * 4 + 2, none⟩ = Option.some (.bool z.1.free) ∧ w.cell? ⟨g, i * 4 + 3, none⟩ = Option.some (.int .i64 (z.2 : Nat)) := by
  have hi : i < zs.length := (List.getElem?_eq_some_iff.1 hz).1
  have e : ∀ r, r < 4 → w.cell? ⟨g, i * 4 + r, none⟩ = (ic z)[r]? := fun r hr => by
    rw [H.row.cellAt (i * 4 + r) (by omega)]
    exact flat_at ic_len zs i z r hz hr
  exact ⟨e 0 (by omega), e 1 (by omega), e 2 (by omega), e 3 (by omega)⟩
theorem Hm.fr {g : Nat} (H : Hm B h fv (Option.some ⟨g, 0, none⟩) cap zs cnt w) (j : Nat) : w.frozen? ⟨g, j, none⟩ = false := H.row.frozenAt j
/-- a thing written over -/
theorem Hm.put {g : Nat} (H : Hm B h fv (Option.some ⟨g, 0, none⟩) cap zs cnt w) (i : Nat) (z : Bk × Nat) (hi : i < zs.length) : Hm B h fv (Option.some ⟨g, 0, none⟩) cap (zs.set i z) cnt (stc w g (i * 4) (ic z)) ∧ Turn (Own h (Option.some ⟨g, 0, none⟩)) w (stc w g (i * 4) (ic z)) := by
  obtain ⟨h1, t1⟩ := stc_row (ic z) _ (i * 4) w H.row
  have hne : h ≠ g := fun e => (H.at (j := g) ⟨_, rfl, rfl⟩).1 e.symm
  refine ⟨⟨?_, ?_, H.lo⟩, t1.mono (fun j _ e => .inr ⟨_, rfl, e⟩)⟩
  · rw [List.length_set]; exact (stc_heap (ic z) _ _ hne).trans H.hh
  · rw [List.length_set, ← flat_put ic_len zs i z hi]; exact h1
theorem swap_put {g : Nat} (H : Hm B h fv (Option.some ⟨g, 0, none⟩) cap zs cnt w) {i j : Nat} {x y : Bk × Nat} (hi : zs[i]? = Option.some x) (hj : zs[j]? = Option.some y) : Hm B h fv (Option.some ⟨g, 0, none⟩) cap (swp zs i j) cnt (stc (stc w g (i * 4) (ic y)) g (j * 4) (ic x)) ∧ Turn (Own h (Option.some ⟨g, 0, none⟩)) w (stc (stc w g (i * 4) (ic y)) g (j * 4) (ic x)) := by
  have li : i < zs.length := (List.getElem?_eq_some_iff.1 hi).1
  have lj : j < zs.length := (List.getElem?_eq_some_iff.1 hj).1
  obtain ⟨h1, t1⟩ := H.put i y li
  obtain ⟨h2, t2⟩ := h1.put j x (by simpa using lj)
  rw [swp_some hi hj]
  exact ⟨h2, t1.trans t2⟩
set_option maxRecDepth 100000 in
set_option maxHeartbeats 4000000 in
theorem swap_any (i j : Nat) (x y : Bk × Nat) (H : Hm B h fv ao cap zs cnt w) (hi : zs[i]? = Option.some x) (hj : zs[j]? = Option.some y) :
    Calls Try.prog 106 #[.pointer (Option.some ⟨h, 0, none⟩), .int .i64 (i : Nat), .int .i64 (j : Nat)] w fun e w' => e = .returned (.tuple #[]) ∧ Hm B h fv ao cap (swp zs i j) cnt w' ∧ Turn (Own h ao) w w' := by
  have li : i < zs.length := (List.getElem?_eq_some_iff.1 hi).1
  have lj : j < zs.length := (List.getElem?_eq_some_iff.1 hj).1
  obtain ⟨g, rfl, hc, hg, hgh⟩ := H.some (by omega)
  have K := hide' (swap_put H hi hj)
  have c1 := H.c1
  have c1d := fun n => show (w.drewN n).cell? ⟨h, 1, none⟩ = _ from c1
  obtain ⟨x0, x1, x2, x3⟩ := H.item hi
  obtain ⟨y0, y1, y2, y3⟩ := H.item hj
  have fr := H.fr
  by_cases hij : i = j
  · subst hij
    rw [hi] at hj
    cases hj
    clear H hi c1d y0 y1 y2 y3
    go_enter Try.func106, Try.ntmps106
    go_region
    go_end0
    exact ⟨rfl, K.out.1.kept (Turn.drew (Turn.refl (fun _ => False) _)) (fun _ _ q => q), K.out.2.drew⟩
  · clear H hi hj c1d
    go_enter Try.func106, Try.ntmps106
    go_region
    go_end0
    exact ⟨rfl, K.out.1.kept (Turn.drew (Turn.refl (fun _ => False) _)) (fun _ _ q => q), K.out.2.drew⟩
end HB
end Go.Proofs.Ytfeehnfpfheojaa
