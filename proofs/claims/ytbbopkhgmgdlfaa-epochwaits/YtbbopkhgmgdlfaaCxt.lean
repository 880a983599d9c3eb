import Derived.Test.YtbbopkhgmgdlfaaPcP
set_option linter.unusedVariables false
set_option linter.unusedSimpArgs false
namespace Go.Proofs.Ytbbopkhgmgdlfaa
open Go.RowKit
namespace M
variable {w0 : World} {s0 : Nat} {o : Obj} {B x : Nat} {ws : List Int} {tr : List Ac} {bad : Nat} {w w' : World}
/-- a memory, beside a block s0 that holds o -/
def Cx (w0 : World) (s0 : Nat) (o : Obj) (B x : Nat) (ws : List Int) (tr : List Ac) (bad : Nat) (w : World) : Prop :=
  w0.heap.size ≤ B ∧ s0 < B ∧ ∃ D, Mem D B x ws tr bad w ∧ Below w0.heap.size w0 w ∧ w.heap[s0]? = some o
theorem Cx.turn {D : Nat → Prop} {ws' : List Int} {tr' : List Ac} {bad' : Nat} (h1 : w0.heap.size ≤ B) (h2 : s0 < B) (h : Mem D B x ws tr bad w) (b : Below w0.heap.size w0 w) (hs : w.heap[s0]? = some o) (t : Turn D w w') (hm : ∃ D', Mem D' B x ws' tr' bad' w') : Cx w0 s0 o B x ws' tr' bad' w' := by
  obtain ⟨D', h'⟩ := hm
  refine ⟨h1, h2, D', h', b.trans (t.below (fun j hj => Nat.le_trans h1 (h.lo hj).1) (Nat.le_trans h1 h.base)), (t.block s0 (lt_of_heap hs) (fun q => ?_)).trans hs⟩
  have := (h.lo q).1
  omega
theorem Cx.to {D : Nat → Prop} {ws' : List Int} {tr' : List Ac} {bad' : Nat} (h1 : w0.heap.size ≤ B) (h2 : s0 < B) (h : Mem D B x ws tr bad w) (b : Below w0.heap.size w0 w) (hs : w.heap[s0]? = some o) (t : To D B x ws' tr' bad' w w') : Cx w0 s0 o B x ws' tr' bad' w' := by
  obtain ⟨D', h', tt, _⟩ := t
  exact Cx.turn h1 h2 h b hs tt ⟨D', h'⟩
theorem Cx.load (a : Int) (h : Cx w0 s0 o B x ws tr bad w) (hl : tr.length < 1999999999999) :
    Calls Try.prog 48 #[.pointer (some ⟨x, 0, none⟩), .int .i64 a] w fun e w' => e = .returned (.tuple #[.int .i64 (std ws a), .int .i64 (er ws a)]) ∧ Cx w0 s0 o B x ws (tr ++ [⟨1, a, std ws a, 0, good ws a⟩]) (bad + bd ws a) w' := by
  obtain ⟨h1, h2, D, hm, b, hs⟩ := h
  exact (load_any a hm hl).mono fun e w' ⟨he, ht⟩ => ⟨he, Cx.to h1 h2 hm b hs ht⟩
theorem Cx.store (a v : Int) (h : Cx w0 s0 o B x ws tr bad w) (hl : tr.length < 1999999999999) :
    Calls Try.prog 20 #[.pointer (some ⟨x, 0, none⟩), .int .i64 a, .int .i64 v] w fun e w' => e = .returned (.int .i64 (er ws a)) ∧ Cx w0 s0 o B x (put ws a v) (tr ++ [⟨2, a, v, std ws a, good ws a⟩]) (bad + bd ws a) w' := by
  obtain ⟨h1, h2, D, hm, b, hs⟩ := h
  exact (store_any a v hm hl).mono fun e w' ⟨he, ht⟩ => ⟨he, Cx.to h1 h2 hm b hs ht⟩
theorem Cx.add (a v : Int) (h : Cx w0 s0 o B x ws tr bad w) (hl : tr.length < 1999999999999) :
    Calls Try.prog 72 #[.pointer (some ⟨x, 0, none⟩), .int .i64 a, .int .i64 v] w fun e w' => e = .returned (.tuple #[.int .i64 (std ws a), .int .i64 (er ws a)]) ∧ Cx w0 s0 o B x (put ws a (wrap64 (std ws a + v))) (tr ++ [⟨4, a, v, std ws a, good ws a⟩]) (bad + bd ws a) w' := by
  obtain ⟨h1, h2, D, hm, b, hs⟩ := h
  exact (add_any a v hm hl).mono fun e w' ⟨he, ht⟩ => ⟨he, Cx.to h1 h2 hm b hs ht⟩
theorem Cx.poison (a n : Int) (h : Cx w0 s0 o B x ws tr bad w) (hn2 : n ≤ 9223372036854775807) :
    Calls Try.prog 38 #[.pointer (some ⟨x, 0, none⟩), .int .i64 a, .int .i64 n] w fun e w' => e = .returned (.int .i64 (pe ws a n)) ∧ Cx w0 s0 o B x (pfill ws a n P) tr bad w' := by
  obtain ⟨h1, h2, D, hm, b, hs⟩ := h
  exact (poison_any a n hm hn2).mono fun e w' ⟨he, hm', ht⟩ => ⟨he, Cx.turn h1 h2 hm b hs ht ⟨D, hm'⟩⟩
theorem Cx.clear (a n : Int) (h : Cx w0 s0 o B x ws tr bad w) (hn2 : n ≤ 9223372036854775807) :
    Calls Try.prog 40 #[.pointer (some ⟨x, 0, none⟩), .int .i64 a, .int .i64 n] w fun e w' => e = .returned (.int .i64 (pe ws a n)) ∧ Cx w0 s0 o B x (pfill ws a n 0) tr bad w' := by
  obtain ⟨h1, h2, D, hm, b, hs⟩ := h
  exact (clear_any a n hm hn2).mono fun e w' ⟨he, hm', ht⟩ => ⟨he, Cx.turn h1 h2 hm b hs ht ⟨D, hm'⟩⟩
theorem Cx.bads (h : Cx w0 s0 o B x ws tr bad w) : Calls Try.prog 16 #[.pointer (some ⟨x, 0, none⟩)] w fun e w' => e = .returned (.int .i64 (bad : Nat)) ∧ w' = w := by
  obtain ⟨h1, h2, D, hm, b, hs⟩ := h
  exact bad_any hm
theorem Cx.below (h : Cx w0 s0 o B x ws tr bad w) (t : Below w.heap.size w w') : Cx w0 s0 o B x ws tr bad w' := by
  obtain ⟨h1, h2, D, hm, b, hs⟩ := h
  exact ⟨h1, h2, D, hm.below t, b.trans (t.mono b.size), (t.block s0 (lt_of_heap hs)).trans hs⟩
theorem Cx.words (a n : Int) (h : Cx w0 s0 o B x ws tr bad w) (hn2 : n ≤ 9223372036854775807) :
    Calls Try.prog 18 #[.pointer (some ⟨x, 0, none⟩), .int .i64 a, .int .i64 n] w fun e w' => ∃ ro rc, e = .returned (.tuple #[.slice ro (piece ws a n).length rc, .int .i64 (pe ws a n)]) ∧ w'.ownsRow w.heap.size 3 1 (.slice ro (piece ws a n).length rc) (piece ws a n).length (ivs (piece ws a n)) ∧ Below w.heap.size w w' ∧ Cx w0 s0 o B x ws tr bad w' := by
  have hc := h
  obtain ⟨h1, h2, D, hm, b, hs⟩ := h
  exact (words_any a n hm hn2).mono fun e w' ⟨ro, rc, he, hr, hb⟩ => ⟨ro, rc, he, hr, hb, hc.below hb⟩
theorem Cx.trace (h : Cx w0 s0 o B x ws tr bad w) (hl : tr.length < 2000000000000) :
    Calls Try.prog 14 #[.pointer (some ⟨x, 0, none⟩)] w fun e w' => ∃ ro rc, e = .returned (.slice ro tr.length rc) ∧ w'.ownsRow w.heap.size 75 5 (.slice ro tr.length rc) tr.length (acs tr) ∧ Below w.heap.size w w' ∧ Cx w0 s0 o B x ws tr bad w' := by
  have hc := h
  obtain ⟨h1, h2, D, hm, b, hs⟩ := h
  exact (trace_any hm hl).mono fun e w' ⟨ro, rc, he, hr, hb⟩ => ⟨ro, rc, he, hr, hb, hc.below hb⟩
theorem Cx.hs (h : Cx w0 s0 o B x ws tr bad w) : w.heap[s0]? = some o := by obtain ⟨h1, h2, D, hm, b, hs⟩ := h; exact hs
theorem Cx.bel (h : Cx w0 s0 o B x ws tr bad w) : Below w0.heap.size w0 w := by obtain ⟨h1, h2, D, hm, b, hs⟩ := h; exact b
/-- the block is written -/
theorem Cx.put0 {cs : Array Value} {T : TypeId} {r : Nat × Nat} (h : Cx w0 s0 (.cells cs T r) B x ws tr bad w) (h0 : w0.heap.size ≤ s0) (i : Nat) (v : Value) : Cx w0 s0 (.cells (cs.setIfInBounds i v) T r) B x ws tr bad (w.setCell ⟨s0, i, none⟩ v) := by
  obtain ⟨h1, h2, D, hm, b, hs⟩ := h
  have t : Turn (fun j => j = s0) w (w.setCell ⟨s0, i, none⟩ v) := (Turn.refl (fun k => k = s0) w).setCell (p := ⟨s0, i, none⟩) (fun _ => rfl) _
  exact ⟨h1, h2, D, hm.kept t (fun j hj e => by have := (hm.lo hj).1; omega), b.trans (t.below (fun j hj => by rw [hj]; exact h0) b.size), set_block hs⟩
end M
end Go.Proofs.Ytbbopkhgmgdlfaa
