import Derived.Test.YtbbopkhgmgdlfaaRepP
import Derived.Test.YtbbopkhgmgdlfaaSeq
import Derived.Laws.Tables
set_option linter.unusedVariables false
set_option linter.unusedSimpArgs false
namespace Go.Proofs.Ytbbopkhgmgdlfaa
open Go.RowKit
namespace M
variable {w0 : World} {s0 x0 : Nat} {o oX : Obj} {B x : Nat} {ws : List Int} {tr : List Ac} {bad : Nat} {w w' : World}
def Stay (p : Prop) : Prop := p
theorem stay_store {P : Program} {ops : Array Oper} {rest : List Oper} {o : Oper} {a : Act} {Q : Exit → Act → World → Prop} {w : World} (t : TypeId) (x y : Operand) (ho : o.op = .store t x y) (h : Stay (wpList P ops Q (o :: rest) a w)) : wpList P ops Q (o :: rest) a w := h
/-- a memory beside two blocks -/
def Cy (w0 : World) (s0 : Nat) (o : Obj) (x0 : Nat) (oX : Obj) (B x : Nat) (ws : List Int) (tr : List Ac) (bad : Nat) (w : World) : Prop :=
  w0.heap.size ≤ B ∧ s0 < B ∧ B ≤ x0 ∧ ∃ D, Mem D B x ws tr bad w ∧ ¬ D x0 ∧ Below w0.heap.size w0 w ∧ w.heap[s0]? = some o ∧ w.heap[x0]? = some oX
theorem Cx.with (h : Cx w0 s0 o B x ws tr bad w) (oX : Obj) : Cy w0 s0 o w.heap.size oX B x ws tr bad (w.alloc oX) := by
  obtain ⟨h1, h2, D, hm, b, hs⟩ := h
  exact ⟨h1, h2, hm.base, D, hm.alloc oX, fun q => Nat.lt_irrefl _ (hm.lo q).2, b.alloc b.size oX, (Below.heap_alloc w oX s0 (lt_of_heap hs)).trans hs, heap_alloc_new _ _⟩
theorem Cy.to {D : Nat → Prop} {ws' : List Int} {tr' : List Ac} {bad' : Nat} (h1 : w0.heap.size ≤ B) (h2 : s0 < B) (h3 : B ≤ x0) (hm : Mem D B x ws tr bad w) (hD : ¬ D x0) (b : Below w0.heap.size w0 w) (hs : w.heap[s0]? = some o) (hx : w.heap[x0]? = some oX) (t : To D B x ws' tr' bad' w w') : Cy w0 s0 o x0 oX B x ws' tr' bad' w' := by
  obtain ⟨D', h', tt, hsub⟩ := t
  refine ⟨h1, h2, h3, D', h', fun q => ?_, b.trans (tt.below (fun j hj => Nat.le_trans h1 (hm.lo hj).1) (Nat.le_trans h1 hm.base)), (tt.block s0 (lt_of_heap hs) (fun q => ?_)).trans hs, (tt.block x0 (lt_of_heap hx) hD).trans hx⟩
  · rcases hsub x0 q with q | q
    · exact hD q
    · have := lt_of_heap hx; omega
  · have := (hm.lo q).1; omega
theorem Cy.load (a : Int) (h : Cy w0 s0 o x0 oX B x ws tr bad w) (hl : tr.length < 1999999999999) :
    Calls Try.prog 48 #[.pointer (some ⟨x, 0, none⟩), .int .i64 a] w fun e w' => e = .returned (.tuple #[.int .i64 (std ws a), .int .i64 (er ws a)]) ∧ Cy w0 s0 o x0 oX B x ws (tr ++ [⟨1, a, std ws a, 0, good ws a⟩]) (bad + bd ws a) w' := by
  obtain ⟨h1, h2, h3, D, hm, hD, b, hs, hx⟩ := h
  exact (load_any a hm hl).mono fun e w' ⟨he, ht⟩ => ⟨he, Cy.to h1 h2 h3 hm hD b hs hx ht⟩
theorem Cy.store (a v : Int) (h : Cy w0 s0 o x0 oX B x ws tr bad w) (hl : tr.length < 1999999999999) :
    Calls Try.prog 20 #[.pointer (some ⟨x, 0, none⟩), .int .i64 a, .int .i64 v] w fun e w' => e = .returned (.int .i64 (er ws a)) ∧ Cy w0 s0 o x0 oX B x (put ws a v) (tr ++ [⟨2, a, v, std ws a, good ws a⟩]) (bad + bd ws a) w' := by
  obtain ⟨h1, h2, h3, D, hm, hD, b, hs, hx⟩ := h
  exact (store_any a v hm hl).mono fun e w' ⟨he, ht⟩ => ⟨he, Cy.to h1 h2 h3 hm hD b hs hx ht⟩
theorem Cy.add (a v : Int) (h : Cy w0 s0 o x0 oX B x ws tr bad w) (hl : tr.length < 1999999999999) :
    Calls Try.prog 72 #[.pointer (some ⟨x, 0, none⟩), .int .i64 a, .int .i64 v] w fun e w' => e = .returned (.tuple #[.int .i64 (std ws a), .int .i64 (er ws a)]) ∧ Cy w0 s0 o x0 oX B x (put ws a (wrap64 (std ws a + v))) (tr ++ [⟨4, a, v, std ws a, good ws a⟩]) (bad + bd ws a) w' := by
  obtain ⟨h1, h2, h3, D, hm, hD, b, hs, hx⟩ := h
  exact (add_any a v hm hl).mono fun e w' ⟨he, ht⟩ => ⟨he, Cy.to h1 h2 h3 hm hD b hs hx ht⟩
theorem Cy.hs (h : Cy w0 s0 o x0 oX B x ws tr bad w) : w.heap[s0]? = some o := by obtain ⟨h1, h2, h3, D, hm, hD, b, hs, hx⟩ := h; exact hs
theorem Cy.hx (h : Cy w0 s0 o x0 oX B x ws tr bad w) : w.heap[x0]? = some oX := by obtain ⟨h1, h2, h3, D, hm, hD, b, hs, hx⟩ := h; exact hx
theorem Cy.bel (h : Cy w0 s0 o x0 oX B x ws tr bad w) : Below w0.heap.size w0 w := by obtain ⟨h1, h2, h3, D, hm, hD, b, hs, hx⟩ := h; exact b
theorem Cy.bads (h : Cy w0 s0 o x0 oX B x ws tr bad w) : Calls Try.prog 16 #[.pointer (some ⟨x, 0, none⟩)] w fun e w' => e = .returned (.int .i64 (bad : Nat)) ∧ w' = w := by
  obtain ⟨h1, h2, h3, D, hm, hD, b, hs, hx⟩ := h
  exact bad_any hm
theorem Cy.below (h : Cy w0 s0 o x0 oX B x ws tr bad w) (t : Below w.heap.size w w') : Cy w0 s0 o x0 oX B x ws tr bad w' := by
  obtain ⟨h1, h2, h3, D, hm, hD, b, hs, hx⟩ := h
  exact ⟨h1, h2, h3, D, hm.below t, hD, b.trans (t.mono b.size), (t.block s0 (lt_of_heap hs)).trans hs, (t.block x0 (lt_of_heap hx)).trans hx⟩
theorem Cy.trace (h : Cy w0 s0 o x0 oX B x ws tr bad w) (hl : tr.length < 2000000000000) :
    Calls Try.prog 14 #[.pointer (some ⟨x, 0, none⟩)] w fun e w' => ∃ ro rc, e = .returned (.slice ro tr.length rc) ∧ w'.ownsRow w.heap.size 75 5 (.slice ro tr.length rc) tr.length (acs tr) ∧ Cy w0 s0 o x0 oX B x ws tr bad w' ∧ x0 < w.heap.size := by
  have hc := h
  obtain ⟨h1, h2, h3, D, hm, hD, b, hs, hx⟩ := h
  exact (trace_any hm hl).mono fun e w' ⟨ro, rc, he, hr, hb⟩ => ⟨ro, rc, he, hr, hc.below hb, lt_of_heap hx⟩
theorem setRow_turn (w : World) (g : Nat) (cs : Array Value) : Turn (fun j => j = g) w (w.setRow g cs) :=
  ⟨rfl, rfl, rfl, by simp [World.setRow], fun k hk hn => by
    have hne : ¬ g = k := fun q => hn q.symm
    simp [World.setRow, Array.getElem?_modify, hne]⟩
theorem Cy.row {cs cs' : Array Value} {T : TypeId} {r : Nat × Nat} (h : Cy w0 s0 o x0 (.cells cs T r) B x ws tr bad w) : Cy w0 s0 o x0 (.cells cs' T r) B x ws tr bad (w.setRow x0 cs') := by
  obtain ⟨h1, h2, h3, D, hm, hD, b, hs, hx⟩ := h
  have t := setRow_turn w x0 cs'
  refine ⟨h1, h2, h3, D, hm.kept t (fun j hj q => hD (by rw [← q]; exact hj)), hD, b.trans (t.below (fun j hj => by rw [hj]; omega) b.size), (t.block s0 (lt_of_heap hs) (by show ¬ s0 = x0; omega)).trans hs, setRow_heap w x0 cs cs' T r hx⟩
theorem Cy.putx {cs : Array Value} {T : TypeId} {r : Nat × Nat} (h : Cy w0 s0 o x0 (.cells cs T r) B x ws tr bad w) (i : Nat) (v : Value) : Cy w0 s0 o x0 (.cells (cs.setIfInBounds i v) T r) B x ws tr bad (w.setCell ⟨x0, i, none⟩ v) := by
  obtain ⟨h1, h2, h3, D, hm, hD, b, hs, hx⟩ := h
  have t : Turn (fun j => j = x0) w (w.setCell ⟨x0, i, none⟩ v) := (Turn.refl (fun k => k = x0) w).setCell (p := ⟨x0, i, none⟩) (fun _ => rfl) _
  exact ⟨h1, h2, h3, D, hm.kept t (fun j hj q => hD (by rw [← q]; exact hj)), hD, b.trans (t.below (fun j hj => by rw [hj]; omega) b.size), (t.block s0 (lt_of_heap hs) (by show ¬ s0 = x0; omega)).trans hs, set_block hx⟩
theorem cell_other {w : World} {x0 g i j : Nat} {v u : Value} (h : w.cell? ⟨g, j, none⟩ = some u) (hne : g ≠ x0) : (w.setCell ⟨x0, i, none⟩ v).cell? ⟨g, j, none⟩ = some u :=
  (World.cell?_of_block (w := w) (Below.heap_setCell _ _ _ _ hne)).trans h
end M
end Go.Proofs.Ytbbopkhgmgdlfaa
