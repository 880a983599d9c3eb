import Derived.Test.YtmcdifmbblbhgaaPrf
set_option linter.unusedVariables false
set_option linter.unusedSimpArgs false
namespace Go.Proofs.Ytmcdifmbblbhgaa
open Go.RowKit Go.Maps
namespace V
open U D
theorem cells_ne {w : World} {i j : Nat} {c c' : Array Value} {t t' : Nat} {r r' : Nat × Nat} (h : w.heap[i]? = some (.cells c t r)) (h' : w.heap[j]? = some (.cells c' t' r')) (n : t ≠ t') : i ≠ j := by
  rintro rfl
  rw [h] at h'
  cases h'
  exact n rfl
theorem map_ne {w : World} {i j : Nat} {c : Array Value} {t : Nat} {r : Nat × Nat} {n : Nat} {ls : List (List Nat)} (h : w.heap[i]? = some (.cells c t r)) (h' : P.Pm j n ls w) : i ≠ j := by
  rintro rfl
  obtain ⟨D, ⟨es, cl, hb, _⟩, _⟩ := h'.map
  rw [h] at hb
  cases hb
/-- classes in the making -/
structure Cs (w : World) (q2 q3 bm : Nat) (no : Option Addr) (nc : Nat) (nz : List Int) (fo : Option Addr) (fc : Nat) (fz : List Int) (n : Nat) (ls : List (List Nat)) (V : World) : Prop where
  b : Below w.heap.size w V
  h2 : V.heap[q2]? = some (.cells #[.slice none 0 0, .slice none 0 0] 81 (0, 0))
  h3 : V.heap[q3]? = some (.cells #[.slice no nz.length nc, .slice fo fz.length fc] 81 (0, 0))
  rn : I.RowI w.heap.size no nc nz V
  rf : I.RowI w.heap.size fo fc fz V
  ap : ∀ j, I.At no j → ¬ I.At fo j
  m : P.Pm bm n ls V
  mb : w.heap.size ≤ bm
  l2 : w.heap.size ≤ q2
  l3 : w.heap.size ≤ q3
  n23 : q2 ≠ q3
section
variable {w V V' V1 : World} {q2 q3 bm nc fc n g2 c2 : Nat} {no fo : Option Addr} {nz fz : List Int} {ls : List (List Nat)} {k : Int}
theorem Cs.below (c : Cs w q2 q3 bm no nc nz fo fc fz n ls V) (t : Below V.heap.size V V') : Cs w q2 q3 bm no nc nz fo fc fz n ls V' :=
  ⟨c.b.trans (t.mono c.b.size), (t.block _ (lt_of_heap c.h2)).trans c.h2, (t.block _ (lt_of_heap c.h3)).trans c.h3, c.rn.below t, c.rf.below t, c.ap, c.m.turn (turn_below (S := fun _ => False) t) id, c.mb, c.l2, c.l3, c.n23⟩
theorem Cs.c0 (c : Cs w q2 q3 bm no nc nz fo fc fz n ls V) : V.cell? ⟨q3, 0, none⟩ = some (.slice no nz.length nc) := by rw [Lib.cell_of_heap c.h3]; rfl
theorem Cs.c1 (c : Cs w q2 q3 bm no nc nz fo fc fz n ls V) : V.cell? ⟨q3, 1, none⟩ = some (.slice fo fz.length fc) := by rw [Lib.cell_of_heap c.h3]; rfl
theorem Cs.f (c : Cs w q2 q3 bm no nc nz fo fc fz n ls V) (i : Nat) : V.frozen? ⟨q3, i, none⟩ = false := Lib.frozen_of_heap c.h3 i
theorem at_new {ao bo : Option Addr} (hap : ∀ j, I.At ao j → ¬ I.At bo j) (hlt : ∀ j, I.At ao j → j < V.heap.size) (hg : bo = some ⟨g2, 0, none⟩ ∨ V.heap.size ≤ g2) : ∀ j, I.At ao j → ¬ I.At (some ⟨g2, 0, none⟩) j := by
  intro j q r
  rcases hg with e | e
  · rw [← e] at r; exact hap j q r
  · obtain ⟨a, e2, rfl⟩ := r
    cases e2
    have q2 : g2 < V.heap.size := hlt _ q
    omega
/-- what stands behind the append to one of the two rows -/
structure Mid (w : World) (q2 q3 bm : Nat) (no : Option Addr) (nc : Nat) (nz : List Int) (fo : Option Addr) (fc : Nat) (fz : List Int) (no' : Option Addr) (nc' : Nat) (nz' : List Int) (fo' : Option Addr) (fc' : Nat) (fz' : List Int) (n : Nat) (ls : List (List Nat)) (V : World) : Prop where
  b : Below w.heap.size w V
  h2 : V.heap[q2]? = some (.cells #[.slice none 0 0, .slice none 0 0] 81 (0, 0))
  h3 : V.heap[q3]? = some (.cells #[.slice no nz.length nc, .slice fo fz.length fc] 81 (0, 0))
  rn : I.RowI w.heap.size no' nc' nz' V
  rf : I.RowI w.heap.size fo' fc' fz' V
  ap : ∀ j, I.At no' j → ¬ I.At fo' j
  m : P.Pm bm n ls V
  mb : w.heap.size ≤ bm
  l2 : w.heap.size ≤ q2
  l3 : w.heap.size ≤ q3
  n23 : q2 ≠ q3
theorem Cs.appF (c : Cs w q2 q3 bm no nc nz fo fc fz n ls V) (hr : I.RowI w.heap.size (some ⟨g2, 0, none⟩) c2 (fz ++ [k]) V1) (t : Turn (I.At fo) V V1) (hg : fo = some ⟨g2, 0, none⟩ ∨ V.heap.size ≤ g2) : Mid w q2 q3 bm no nc nz fo fc fz no nc nz (some ⟨g2, 0, none⟩) c2 (fz ++ [k]) n ls V1 := by
  have hk : ∀ j, I.At fo j → ∃ cur, V.heap[j]? = some (.cells cur 3 (0, 0)) := fun j q => Pl.kindI c.rf q
  have e2 : ¬ I.At fo q2 := fun q => by obtain ⟨cur, h⟩ := hk _ q; exact cells_ne h c.h2 (by decide) rfl
  have e3 : ¬ I.At fo q3 := fun q => by obtain ⟨cur, h⟩ := hk _ q; exact cells_ne h c.h3 (by decide) rfl
  have em : ¬ I.At fo bm := fun q => by obtain ⟨cur, h⟩ := hk _ q; exact map_ne h c.m rfl
  exact ⟨c.b.trans (t.below (fun j q => (c.rf.lt j q).1) c.b.size), (t.block _ (lt_of_heap c.h2) e2).trans c.h2, (t.block _ (lt_of_heap c.h3) e3).trans c.h3, c.rn.turn t (fun j q => c.ap j q), hr, at_new c.ap (fun j q => (c.rn.lt j q).2) hg, c.m.turn t em, c.mb, c.l2, c.l3, c.n23⟩
theorem Cs.appN (c : Cs w q2 q3 bm no nc nz fo fc fz n ls V) (hr : I.RowI w.heap.size (some ⟨g2, 0, none⟩) c2 (nz ++ [k]) V1) (t : Turn (I.At no) V V1) (hg : no = some ⟨g2, 0, none⟩ ∨ V.heap.size ≤ g2) : Mid w q2 q3 bm no nc nz fo fc fz (some ⟨g2, 0, none⟩) c2 (nz ++ [k]) fo fc fz n ls V1 := by
  have hk : ∀ j, I.At no j → ∃ cur, V.heap[j]? = some (.cells cur 3 (0, 0)) := fun j q => Pl.kindI c.rn q
  have e2 : ¬ I.At no q2 := fun q => by obtain ⟨cur, h⟩ := hk _ q; exact cells_ne h c.h2 (by decide) rfl
  have e3 : ¬ I.At no q3 := fun q => by obtain ⟨cur, h⟩ := hk _ q; exact cells_ne h c.h3 (by decide) rfl
  have em : ¬ I.At no bm := fun q => by obtain ⟨cur, h⟩ := hk _ q; exact map_ne h c.m rfl
  exact ⟨c.b.trans (t.below (fun j q => (c.rn.lt j q).1) c.b.size), (t.block _ (lt_of_heap c.h2) e2).trans c.h2, (t.block _ (lt_of_heap c.h3) e3).trans c.h3, hr, c.rf.turn t (fun j q r => c.ap j r q), fun j q r => at_new (fun j q r => c.ap j r q) (fun j q => (c.rf.lt j q).2) hg j r q, c.m.turn t em, c.mb, c.l2, c.l3, c.n23⟩
theorem Mid.set {no' fo' : Option Addr} {nc' fc' : Nat} {nz' fz' : List Int} (c : Mid w q2 q3 bm no nc nz fo fc fz no' nc' nz' fo' fc' fz' n ls V) (i : Nat) (v : Value) (he : (#[Value.slice no nz.length nc, .slice fo fz.length fc]).setIfInBounds i v = #[.slice no' nz'.length nc', .slice fo' fz'.length fc']) : Cs w q2 q3 bm no' nc' nz' fo' fc' fz' n ls (V.setCell ⟨q3, i, none⟩ v) := by
  have t := set_turn q3 i v V
  have hn : ∀ j, I.At no' j → ¬ j = q3 := fun j q e => by obtain ⟨cur, h⟩ := Pl.kindI c.rn q; exact cells_ne h c.h3 (by decide) e
  have hf : ∀ j, I.At fo' j → ¬ j = q3 := fun j q e => by obtain ⟨cur, h⟩ := Pl.kindI c.rf q; exact cells_ne h c.h3 (by decide) e
  have hm : ¬ bm = q3 := fun e => map_ne c.h3 c.m e.symm
  refine ⟨c.b.trans (t.below (fun j q => by rw [q]; exact c.l3) c.b.size), (t.block _ (lt_of_heap c.h2) c.n23).trans c.h2, ?_, c.rn.turn t hn, c.rf.turn t hf, c.ap, c.m.turn t hm, c.mb, c.l2, c.l3, c.n23⟩
  rw [← he]
  simp [World.setCell, Array.getElem?_modify, c.h3]
theorem Cs.put (c : Cs w q2 q3 bm no nc nz fo fc fz n ls V) {l : List Nat} (hm : P.Pm bm (n + 1) (ls ++ [l]) V') (t : Turn (fun j => j = bm) V V') : Cs w q2 q3 bm no nc nz fo fc fz (n + 1) (ls ++ [l]) V' := by
  have hn : ∀ j, I.At no j → ¬ j = bm := fun j q e => by obtain ⟨cur, h⟩ := Pl.kindI c.rn q; exact map_ne h c.m e
  have hf : ∀ j, I.At fo j → ¬ j = bm := fun j q e => by obtain ⟨cur, h⟩ := Pl.kindI c.rf q; exact map_ne h c.m e
  exact ⟨c.b.trans (t.below (fun j q => by rw [q]; exact c.mb) c.b.size), (t.block _ (lt_of_heap c.h2) (map_ne c.h2 c.m)).trans c.h2, (t.block _ (lt_of_heap c.h3) (map_ne c.h3 c.m)).trans c.h3, c.rn.turn t hn, c.rf.turn t hf, c.ap, hm, c.mb, c.l2, c.l3, c.n23⟩
end
/-- the profiles of the first places of a square -/
def pf (g : Nat → Nat) (i : Nat) : List Nat := pr fun j => g (i * 64 + j)
def pfs (g : Nat → Nat) (n : Nat) : List (List Nat) := (List.range n).map (pf g)
theorem pfs_snoc (g : Nat → Nat) (n : Nat) : pfs g (n + 1) = pfs g n ++ [pf g n] := by unfold pfs; rw [List.range_succ, List.map_append]; rfl
end V
end Go.Proofs.Ytmcdifmbblbhgaa
