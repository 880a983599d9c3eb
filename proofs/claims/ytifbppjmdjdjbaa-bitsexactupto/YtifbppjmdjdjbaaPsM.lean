import Derived.Test.YtifbppjmdjdjbaaPsW
set_option linter.unusedVariables false
set_option linter.unusedSimpArgs false
namespace Go.Proofs.Ytifbppjmdjdjbaa
open Go.RowKit
/-- a pair that was just made -/
structure Mk (C : Nat) (wr F : World) (x g r y : Nat) (ao : Option Addr) (cap blk : Nat) : Prop where
  pr : Pr x g r C y ao cap (fun _ => false) F
  bel : Below wr.heap.size wr F
  c0 : F.cell? ⟨blk, 0, none⟩ = some (.pointer (some ⟨x, 0, none⟩))
  c1 : F.cell? ⟨blk, 1, none⟩ = some (.pointer (some ⟨y, 0, none⟩))
  lg : wr.heap.size ≤ g
  lr : ∀ j, Rrow ao j → wr.heap.size ≤ j
section
variable {C : Nat} {wr v1 v2 : World} {x g r y : Nat} {ao : Option Addr} {cap : Nat}
theorem Rs.low {B x : Nat} {ao : Option Addr} {cap R : Nat} {p : Nat → Bool} {w : World} (h : Rs B x ao cap R p w) : ∀ j, Rrow ao j → B ≤ j := fun j hj => (h.apart j hj).2.1
theorem mk1 (hC : C ≤ wr.heap.size) (hB : Bs x g r (fun _ => false) v1) (b1 : Below wr.drew.heap.size wr.drew v1) (hg : wr.drew.heap.size ≤ g) (hR : Rs v1.heap.size y ao cap r (fun _ => false) v2) (b2 : Below v1.heap.size v1 v2) :
    Mk C wr (v2.alloc (.cells #[.pointer (some ⟨x, 0, none⟩), .pointer (some ⟨y, 0, none⟩)] 31)) x g r y ao cap v2.heap.size := by
  have hs1 : wr.heap.size ≤ v1.heap.size := b1.size
  have bel2 : Below wr.heap.size wr v2 := (show Below wr.heap.size wr v1 from ⟨b1.os, b1.tape, b1.output, b1.size, b1.block⟩).trans (b2.mono hs1)
  refine ⟨⟨(hB.below b2).kept ((Turn.refl (fun _ => False) v2).alloc _) (fun q => q) (fun q => q), (hR.mono (by omega)).kept ((Turn.refl (fun _ => False) v2).alloc _) (fun q => q) (fun _ _ q => q)⟩, bel2.alloc (Nat.le_trans hs1 b2.size) _, ?_, ?_, hg, fun j hj => Nat.le_trans hs1 (hR.low j hj)⟩
  · go_simp
  · go_simp
theorem mk2 {z : Obj} (hC : C ≤ wr.heap.size) (hB : Bs x g r (fun _ => false) v1) (b1 : Below wr.drew.heap.size wr.drew v1) (hg : wr.drew.heap.size ≤ g) (hR : Rs (v1.alloc z).heap.size y ao cap r (fun _ => false) v2) (b2 : Below (v1.alloc z).heap.size (v1.alloc z) v2)
    (e0 : (v2.cell? ⟨v1.heap.size, 0, none⟩).isSome = true) (e1 : (v2.cell? ⟨v1.heap.size, 1, none⟩).isSome = true) :
    Mk C wr ((v2.setCell ⟨v1.heap.size, 0, none⟩ (.pointer (some ⟨x, 0, none⟩))).setCell ⟨v1.heap.size, 1, none⟩ (.pointer (some ⟨y, 0, none⟩))) x g r y ao cap v1.heap.size := by
  have hs1 : wr.heap.size ≤ v1.heap.size := b1.size
  have hsz : (v1.alloc z).heap.size = v1.heap.size + 1 := by simp
  have bel2 : Below wr.heap.size wr v2 := ((show Below wr.heap.size wr v1 from ⟨b1.os, b1.tape, b1.output, b1.size, b1.block⟩).alloc hs1 z).trans (b2.mono (by rw [hsz]; omega))
  have t : Turn (fun j => j = v1.heap.size) v2 ((v2.setCell ⟨v1.heap.size, 0, none⟩ (.pointer (some ⟨x, 0, none⟩))).setCell ⟨v1.heap.size, 1, none⟩ (.pointer (some ⟨y, 0, none⟩))) := ((Turn.refl (fun j => j = v1.heap.size) v2).setCell (p := ⟨v1.heap.size, 0, none⟩) (fun _ => rfl) _).setCell (p := ⟨v1.heap.size, 1, none⟩) (fun _ => rfl) _
  have hB2 := (hB.kept ((Turn.refl (fun _ => False) v1).alloc z) (fun q => q) (fun q => q)).below b2
  have lx := hB.ltx
  have lg := hB.ltg
  have ly := hR.hB
  rw [hsz] at ly
  refine ⟨⟨hB2.kept t (by omega) (by omega), (hR.mono (by omega)).kept t (by omega) (fun j hj => by have := hR.low j hj; omega)⟩, (bel2.setCell hs1 _).setCell hs1 _, ?_, ?_, hg, fun j hj => by have := hR.low j hj; omega⟩
  · rw [World.cell?_setCell_other _ _ _ _ (by simp), World.cell?_setCell_same' _ _ _ e0]
  · rw [World.cell?_setCell_same' _ _ _ (by rw [World.cell?_setCell_other _ _ _ _ (by simp)]; exact e1)]
theorem mk3 {A : World} (hC : C ≤ wr.heap.size) (hA : A.heap.size = wr.heap.size + 1) (bA : Below wr.heap.size wr A) (hB : Bs x g r (fun _ => false) v1) (b1 : Below A.heap.size A v1) (hx : A.heap.size ≤ x) (hg : A.heap.size ≤ g) (hR : Rs v1.heap.size y ao cap r (fun _ => false) v2) (b2 : Below v1.heap.size v1 v2)
    (e0 : (v2.cell? ⟨wr.heap.size, 0, none⟩).isSome = true) (e1 : (v2.cell? ⟨wr.heap.size, 1, none⟩).isSome = true) :
    Mk C wr ((v2.setCell ⟨wr.heap.size, 0, none⟩ (.pointer (some ⟨x, 0, none⟩))).setCell ⟨wr.heap.size, 1, none⟩ (.pointer (some ⟨y, 0, none⟩))) x g r y ao cap wr.heap.size := by
  have hs1 : A.heap.size ≤ v1.heap.size := b1.size
  have bel2 : Below wr.heap.size wr v2 := (bA.trans (b1.mono (by omega))).trans (b2.mono (by omega))
  have t : Turn (fun j => j = wr.heap.size) v2 ((v2.setCell ⟨wr.heap.size, 0, none⟩ (.pointer (some ⟨x, 0, none⟩))).setCell ⟨wr.heap.size, 1, none⟩ (.pointer (some ⟨y, 0, none⟩))) := ((Turn.refl (fun j => j = wr.heap.size) v2).setCell (p := ⟨wr.heap.size, 0, none⟩) (fun _ => rfl) _).setCell (p := ⟨wr.heap.size, 1, none⟩) (fun _ => rfl) _
  have hB2 := hB.below b2
  have ly := hR.hB
  refine ⟨⟨hB2.kept t (by omega) (by omega), (hR.mono (by omega)).kept t (by omega) (fun j hj => by have := hR.low j hj; omega)⟩, (bel2.setCell (Nat.le_refl _) _).setCell (Nat.le_refl _) _, ?_, ?_, by omega, fun j hj => by have := hR.low j hj; omega⟩
  · rw [World.cell?_setCell_other _ _ _ _ (by simp), World.cell?_setCell_same' _ _ _ e0]
  · rw [World.cell?_setCell_same' _ _ _ (by rw [World.cell?_setCell_other _ _ _ _ (by simp)]; exact e1)]
/-- the row of pairs is no block of theirs -/
theorem Row.apart {ro : Option Addr} {rc n : Nat} {X Y : Nat → Nat} {w : World} (h : Row C ro rc n X Y w) : ∀ j, Rrow ro j → C ≤ j ∧ ∃ cur, w.heap[j]? = some (.cells cur 31 (0, 0)) := by
  rintro j ⟨a, ha, rfl⟩
  rcases h.row.2 with ⟨hv, h0⟩ | ⟨g, cap', cur, hv, hb, hg, _⟩
  · rw [ha] at hv; cases hv
  · rw [ha] at hv
    simp only [Value.slice.injEq, Option.some.injEq] at hv
    obtain ⟨rfl, _⟩ := hv
    exact ⟨hb, cur, hg⟩
theorem Pr.not31 {x g R B0 y : Nat} {ao : Option Addr} {cap : Nat} {p : Nat → Bool} {w : World} (h : Pr x g R B0 y ao cap p w) {j : Nat} {cur : Array Value} (hj : w.heap[j]? = some (.cells cur 31 (0, 0))) : j ≠ x ∧ j ≠ g ∧ j ≠ y ∧ ¬ Rrow ao j := by
  refine ⟨fun e => ?_, fun e => ?_, fun e => ?_, ?_⟩
  · have := h.b.hx; rw [← e, hj] at this; simp at this
  · have := h.b.hg; rw [← e, hj] at this; simp at this
  · have := h.r.hx; rw [← e, hj] at this; simp at this
  · rintro ⟨c, hc, e⟩
    rcases h.r.row.2 with ⟨hv, h0⟩ | ⟨g2, cap', cur2, hv, hb, hg, _⟩
    · rw [hc] at hv; cases hv
    · rw [hc] at hv
      simp only [Value.slice.injEq, Option.some.injEq] at hv
      obtain ⟨rfl, _⟩ := hv
      have e' : j = g2 := e
      rw [e', hg] at hj; simp at hj
theorem Ps.kept31 {n : Nat} {X G R Y : Nat → Nat} {AO : Nat → Option Addr} {CP : Nat → Nat} {P : Nat → Nat → Bool} {w w' : World} (h : Ps C n X G R Y AO CP P w) {S : Nat → Prop} (t : Turn S w w') (hS : ∀ j, S j → ∃ cur, w.heap[j]? = some (.cells cur 31 (0, 0))) : Ps C n X G R Y AO CP P w' := by
  refine ⟨fun j hj => ?_, h.lo, h.ng, h.nr⟩
  have hp := h.pr j hj
  refine hp.kept t (fun q => ?_) (fun q => ?_) (fun q => ?_) (fun b hb q => ?_)
  · obtain ⟨cur, hc⟩ := hS _ q; exact (hp.not31 hc).1 rfl
  · obtain ⟨cur, hc⟩ := hS _ q; exact (hp.not31 hc).2.1 rfl
  · obtain ⟨cur, hc⟩ := hS _ q; exact (hp.not31 hc).2.2.1 rfl
  · obtain ⟨cur, hc⟩ := hS _ q; exact (hp.not31 hc).2.2.2 hb
end
end Go.Proofs.Ytifbppjmdjdjbaa
