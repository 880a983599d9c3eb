import Derived.Test.YtollaamlnddhcaaTst
import Derived.Test.YtollaamlnddhcaaRmd
import Derived.Deep.RegionHeld3
set_option linter.unusedVariables false
set_option linter.unusedSimpArgs false
namespace Go.Proofs.Ytollaamlnddhcaa
open Go.RowKit Go.Maps
namespace U
/-- what stands while a policy is read -/
structure Rx (F : Pf) (ao : Option Addr) (ac : Nat) (al : List ByteArray) (q2 q4 q5 qp qx : Nat) (w V : World) : Prop where
  b : Below w.heap.size w V
  h2 : V.heap[q2]? = some (.cells #[.slice F.a.1 F.a.2.2.length F.a.2.1, .slice F.s.1 F.s.2.2.length F.s.2.1, .slice F.r.1 F.r.2.2.length F.r.2.1, .slice F.o.1 F.o.2.2.length F.o.2.1, .slice F.g.1 F.g.2.2.length F.g.2.1, .slice F.m.1 F.m.2.2.length F.m.2.1, .slice F.i.1 F.i.2.2.length F.i.2.1, .slice F.p.1 F.p.2.2.length F.p.2.1, .slice F.w.1 F.w.2.2.length F.w.2.1, .slice F.u.1 F.u.2.2.length F.u.2.1, .slice F.x.1 F.x.2.2.length F.x.2.1] 28 (0, 0))
  h4 : V.heap[q4]? = some (.cells #[.slice none 0 0, .map none, .slice none 0 0, .map none] 87 (0, 0))
  h5 : V.heap[q5]? = some (.cells #[.slice ao al.length ac, .map (some qp), .slice F.u.1 F.u.2.2.length F.u.2.1, .map (some qx)] 87 (0, 0))
theorem Rx.turn {F : Pf} {ao : Option Addr} {ac : Nat} {al : List ByteArray} {q2 q4 q5 qp qx : Nat} {w V V' : World} {T : Nat → Prop} (h : Rx F ao ac al q2 q4 q5 qp qx w V) (t : Turn T V V') (n2 : ¬ T q2) (n4 : ¬ T q4) (n5 : ¬ T q5) (hB : ∀ j, T j → w.heap.size ≤ j) : Rx F ao ac al q2 q4 q5 qp qx w V' :=
  ⟨h.b.trans (below_own t hB h.b.size), (t.block _ (lt_of_heap h.h2) n2).trans h.h2, (t.block _ (lt_of_heap h.h4) n4).trans h.h4, (t.block _ (lt_of_heap h.h5) n5).trans h.h5⟩
theorem cells_ne {w : World} {i j : Nat} {c c' : Array Value} {t t' : Nat} {r r' : Nat × Nat} (h : w.heap[i]? = some (.cells c t r)) (h' : w.heap[j]? = some (.cells c' t' r')) (n : t ≠ t') : i ≠ j := by
  rintro rfl
  rw [h] at h'
  cases h'
  exact n rfl
theorem map_ne {w : World} {i j : Nat} {c : Array Value} {t : Nat} {r : Nat × Nat} {P : Program} {k : TypeId} {R : Value → Option (DataW Unit × List MemPlace)} {n : Nat} {D : DataW Unit} (h : w.heap[i]? = some (.cells c t r)) (h' : w.ownsMap P k R j n D) : i ≠ j := by
  rintro rfl
  obtain ⟨es, cl, hb, _⟩ := h'
  rw [h] at hb
  cases hb
/-- what read tells -/
def ReadIs (F : Pf) (ao : Option Addr) (ac : Nat) (al : List ByteArray) (w : World) (e : Ending) (w' : World) : Prop := ∃ qp qx f, e = .returned (.agg #[.slice ao al.length ac, .map (some qp), .slice F.u.1 F.u.2.2.length F.u.2.1, .map (some qx)]) ∧ Pl.Lm qp w.heap.size al f w' ∧ X.Tset qx F.x.2.2 w' ∧ w.heap.size ≤ qx ∧ Below w.heap.size w w'
/-- four cells are written over -/
structure Sto4 (ty rb : Nat) (w : World) : Prop where
  c0 : ∃ a, w.cell? ⟨rb, 0, none⟩ = some a
  f0 : w.frozen? ⟨rb, 0, none⟩ = false
  c1 : ∀ u, ∃ a, (w.setCell ⟨rb, 0, none⟩ u).cell? ⟨rb, 1, none⟩ = some a
  f1 : ∀ u, (w.setCell ⟨rb, 0, none⟩ u).frozen? ⟨rb, 1, none⟩ = false
  c2 : ∀ u v, ∃ a, ((w.setCell ⟨rb, 0, none⟩ u).setCell ⟨rb, 1, none⟩ v).cell? ⟨rb, 2, none⟩ = some a
  f2 : ∀ u v, ((w.setCell ⟨rb, 0, none⟩ u).setCell ⟨rb, 1, none⟩ v).frozen? ⟨rb, 2, none⟩ = false
  c3 : ∀ u v x, ∃ a, (((w.setCell ⟨rb, 0, none⟩ u).setCell ⟨rb, 1, none⟩ v).setCell ⟨rb, 2, none⟩ x).cell? ⟨rb, 3, none⟩ = some a
  f3 : ∀ u v x, (((w.setCell ⟨rb, 0, none⟩ u).setCell ⟨rb, 1, none⟩ v).setCell ⟨rb, 2, none⟩ x).frozen? ⟨rb, 3, none⟩ = false
  fin : ∀ u v x y, ((((w.setCell ⟨rb, 0, none⟩ u).setCell ⟨rb, 1, none⟩ v).setCell ⟨rb, 2, none⟩ x).setCell ⟨rb, 3, none⟩ y).heap[rb]? = some (.cells #[u, v, x, y] ty (0, 0))
  tt : ∀ u v x y, Turn (fun j => j = rb) w ((((w.setCell ⟨rb, 0, none⟩ u).setCell ⟨rb, 1, none⟩ v).setCell ⟨rb, 2, none⟩ x).setCell ⟨rb, 3, none⟩ y)
theorem sto4 {ty rb : Nat} {w : World} {a0 a1 a2 a3 : Value} (h : w.heap[rb]? = some (.cells #[a0, a1, a2, a3] ty (0, 0))) : Sto4 ty rb w where
  c0 := ⟨a0, by rw [Lib.cell_of_heap h]; rfl⟩
  f0 := Lib.frozen_of_heap h 0
  c1 := fun u => ⟨a1, by rw [World.cell?_setCell_other _ _ _ _ (by simp), Lib.cell_of_heap h]; rfl⟩
  f1 := fun u => by rw [World.frozen?_setCell]; exact Lib.frozen_of_heap h 1
  c2 := fun u v => ⟨a2, by rw [World.cell?_setCell_other _ _ _ _ (by simp), World.cell?_setCell_other _ _ _ _ (by simp), Lib.cell_of_heap h]; rfl⟩
  f2 := fun u v => by rw [World.frozen?_setCell, World.frozen?_setCell]; exact Lib.frozen_of_heap h 2
  c3 := fun u v x => ⟨a3, by rw [World.cell?_setCell_other _ _ _ _ (by simp), World.cell?_setCell_other _ _ _ _ (by simp), World.cell?_setCell_other _ _ _ _ (by simp), Lib.cell_of_heap h]; rfl⟩
  f3 := fun u v x => by rw [World.frozen?_setCell, World.frozen?_setCell, World.frozen?_setCell]; exact Lib.frozen_of_heap h 3
  fin := fun u v x y => by simp [World.setCell, Array.getElem?_modify, h]
  tt := fun u v x y => ((((Turn.refl (fun j => j = rb) w).setCell (p := ⟨rb, 0, none⟩) (fun _ => rfl) _).setCell (p := ⟨rb, 1, none⟩) (fun _ => rfl) _).setCell (p := ⟨rb, 2, none⟩) (fun _ => rfl) _).setCell (p := ⟨rb, 3, none⟩) (fun _ => rfl) _
theorem grownI {B : Nat} {ao : Option Addr} {cap n : Nat} {zs : List Int} {k : Int} {w0 w1 : World} {ob : Obj} {g cap' : Nat} (h : I.RowI B ao cap zs w0) (hn : zs.length = n) (hrow1 : w1.ownsRow B 3 1 (.slice (some ⟨g, 0, none⟩) (n + 1) cap') (n + 1) (zs.flatMap I.cells ++ [.int .i64 k])) (hgrow : (w0.alloc ob).grownBy w1 (Value.slice ao n cap).ownBlock) (hat : (Value.slice ao n cap).ownBlock = some g ∨ g = w0.heap.size + 1) :
    I.RowI B (some ⟨g, 0, none⟩) cap' (zs ++ [k]) w1 ∧ Turn (I.At ao) w0 w1 ∧ (ao = some ⟨g, 0, none⟩ ∨ w0.heap.size ≤ g) := by
  subst hn
  refine ⟨by unfold I.RowI; rw [List.length_append, List.flatMap_append]; simpa [I.cells] using hrow1, ((Turn.refl _ w0).alloc _).grown hgrow (fun j hj _ => by
    cases ao with
    | none => cases hj
    | some ad => exact ⟨ad, rfl, by simpa [Value.ownBlock] using hj.symm⟩), ?_⟩
  rcases hat with q | q
  · cases ao with
    | none => cases q
    | some ad =>
      left
      rcases h.form with ⟨e, _⟩ | ⟨g', e, _⟩
      · cases e
      · cases e; simp only [Value.ownBlock, Option.some.injEq] at q; rw [q]
  · right; omega
theorem Rx.step {F : Pf} {ao : Option Addr} {ac : Nat} {al : List ByteArray} {q2 q4 q5 qp qx : Nat} {w V V1 V2 : World} {qs : List ByteArray} {f : ByteArray → Option V3} {xs : List X.K3} {bo : Option Addr} {c : Nat} {zs : List Int} (h : Rx F ao ac al q2 q4 q5 qp qx w V) (hM : Pl.Lm qp w.heap.size qs f V) (hX : X.Tset qx xs V) (hne : qp ≠ qx) (hr : I.RowI w.heap.size bo c zs V) (t1 : Turn (I.At bo) V V1) (t2 : Turn (fun j => j = qp) V1 V2) : Rx F ao ac al q2 q4 q5 qp qx w V2 ∧ X.Tset qx xs V2 := by
  obtain ⟨D, hm, _⟩ := hM.map
  obtain ⟨n, D2, _, hx, _⟩ := id hX
  have kd : ∀ j, I.At bo j → ∃ cur, V.heap[j]? = some (.cells cur 3 (0, 0)) := fun j r => Pl.kindI hr r
  have h1 : Rx F ao ac al q2 q4 q5 qp qx w V1 := h.turn t1 (fun r => by obtain ⟨cur, k⟩ := kd _ r; exact cells_ne h.h2 k (by decide) rfl) (fun r => by obtain ⟨cur, k⟩ := kd _ r; exact cells_ne h.h4 k (by decide) rfl) (fun r => by obtain ⟨cur, k⟩ := kd _ r; exact cells_ne h.h5 k (by decide) rfl) (fun j r => (hr.lt j r).1)
  refine ⟨h1.turn t2 (map_ne h.h2 hm) (map_ne h.h4 hm) (map_ne h.h5 hm) (fun j e => by rw [e]; exact hM.bB), (hX.turn t1 (fun r => ?_)).turn t2 (fun e => hne e.symm)⟩
  obtain ⟨cur, k⟩ := kd _ r
  exact map_ne k hx rfl
theorem Rx.start (F : Pf) (ao : Option Addr) (ac : Nat) (al : List ByteArray) (w : World) : Rx F ao ac al w.heap.size (w.heap.size + 1) (w.heap.size + 1 + 1 + 1 + 1) (w.heap.size + 1 + 1) (w.heap.size + 1 + 1 + 1) w (((((w.alloc (.cells #[.slice F.a.1 F.a.2.2.length F.a.2.1, .slice F.s.1 F.s.2.2.length F.s.2.1, .slice F.r.1 F.r.2.2.length F.r.2.1, .slice F.o.1 F.o.2.2.length F.o.2.1, .slice F.g.1 F.g.2.2.length F.g.2.1, .slice F.m.1 F.m.2.2.length F.m.2.1, .slice F.i.1 F.i.2.2.length F.i.2.1, .slice F.p.1 F.p.2.2.length F.p.2.1, .slice F.w.1 F.w.2.2.length F.w.2.1, .slice F.u.1 F.u.2.2.length F.u.2.1, .slice F.x.1 F.x.2.2.length F.x.2.1] 28)).alloc (.cells #[.slice none 0 0, .map none, .slice none 0 0, .map none] 87)).alloc (.map #[] 0)).alloc (.map #[] 0)).alloc (.cells #[.slice ao al.length ac, .map (some (w.heap.size + 1 + 1)), .slice F.u.1 F.u.2.2.length F.u.2.1, .map (some (w.heap.size + 1 + 1 + 1))] 87)) ∧ Pl.Lm (w.heap.size + 1 + 1) w.heap.size [] (fun _ => none) (((((w.alloc (.cells #[.slice F.a.1 F.a.2.2.length F.a.2.1, .slice F.s.1 F.s.2.2.length F.s.2.1, .slice F.r.1 F.r.2.2.length F.r.2.1, .slice F.o.1 F.o.2.2.length F.o.2.1, .slice F.g.1 F.g.2.2.length F.g.2.1, .slice F.m.1 F.m.2.2.length F.m.2.1, .slice F.i.1 F.i.2.2.length F.i.2.1, .slice F.p.1 F.p.2.2.length F.p.2.1, .slice F.w.1 F.w.2.2.length F.w.2.1, .slice F.u.1 F.u.2.2.length F.u.2.1, .slice F.x.1 F.x.2.2.length F.x.2.1] 28)).alloc (.cells #[.slice none 0 0, .map none, .slice none 0 0, .map none] 87)).alloc (.map #[] 0)).alloc (.map #[] 0)).alloc (.cells #[.slice ao al.length ac, .map (some (w.heap.size + 1 + 1)), .slice F.u.1 F.u.2.2.length F.u.2.1, .map (some (w.heap.size + 1 + 1 + 1))] 87)) ∧ X.Tset (w.heap.size + 1 + 1 + 1) [] (((((w.alloc (.cells #[.slice F.a.1 F.a.2.2.length F.a.2.1, .slice F.s.1 F.s.2.2.length F.s.2.1, .slice F.r.1 F.r.2.2.length F.r.2.1, .slice F.o.1 F.o.2.2.length F.o.2.1, .slice F.g.1 F.g.2.2.length F.g.2.1, .slice F.m.1 F.m.2.2.length F.m.2.1, .slice F.i.1 F.i.2.2.length F.i.2.1, .slice F.p.1 F.p.2.2.length F.p.2.1, .slice F.w.1 F.w.2.2.length F.w.2.1, .slice F.u.1 F.u.2.2.length F.u.2.1, .slice F.x.1 F.x.2.2.length F.x.2.1] 28)).alloc (.cells #[.slice none 0 0, .map none, .slice none 0 0, .map none] 87)).alloc (.map #[] 0)).alloc (.map #[] 0)).alloc (.cells #[.slice ao al.length ac, .map (some (w.heap.size + 1 + 1)), .slice F.u.1 F.u.2.2.length F.u.2.1, .map (some (w.heap.size + 1 + 1 + 1))] 87)) := by
  have b0 : Below w.heap.size w (w.alloc (.cells #[.slice F.a.1 F.a.2.2.length F.a.2.1, .slice F.s.1 F.s.2.2.length F.s.2.1, .slice F.r.1 F.r.2.2.length F.r.2.1, .slice F.o.1 F.o.2.2.length F.o.2.1, .slice F.g.1 F.g.2.2.length F.g.2.1, .slice F.m.1 F.m.2.2.length F.m.2.1, .slice F.i.1 F.i.2.2.length F.i.2.1, .slice F.p.1 F.p.2.2.length F.p.2.1, .slice F.w.1 F.w.2.2.length F.w.2.1, .slice F.u.1 F.u.2.2.length F.u.2.1, .slice F.x.1 F.x.2.2.length F.x.2.1] 28)) := (Below.refl _ _).alloc (Nat.le_refl _) _
  have b1 : Below w.heap.size w ((w.alloc (.cells #[.slice F.a.1 F.a.2.2.length F.a.2.1, .slice F.s.1 F.s.2.2.length F.s.2.1, .slice F.r.1 F.r.2.2.length F.r.2.1, .slice F.o.1 F.o.2.2.length F.o.2.1, .slice F.g.1 F.g.2.2.length F.g.2.1, .slice F.m.1 F.m.2.2.length F.m.2.1, .slice F.i.1 F.i.2.2.length F.i.2.1, .slice F.p.1 F.p.2.2.length F.p.2.1, .slice F.w.1 F.w.2.2.length F.w.2.1, .slice F.u.1 F.u.2.2.length F.u.2.1, .slice F.x.1 F.x.2.2.length F.x.2.1] 28)).alloc (.cells #[.slice none 0 0, .map none, .slice none 0 0, .map none] 87)) := b0.alloc (by simp) _
  have b2 : Below w.heap.size w (((w.alloc (.cells #[.slice F.a.1 F.a.2.2.length F.a.2.1, .slice F.s.1 F.s.2.2.length F.s.2.1, .slice F.r.1 F.r.2.2.length F.r.2.1, .slice F.o.1 F.o.2.2.length F.o.2.1, .slice F.g.1 F.g.2.2.length F.g.2.1, .slice F.m.1 F.m.2.2.length F.m.2.1, .slice F.i.1 F.i.2.2.length F.i.2.1, .slice F.p.1 F.p.2.2.length F.p.2.1, .slice F.w.1 F.w.2.2.length F.w.2.1, .slice F.u.1 F.u.2.2.length F.u.2.1, .slice F.x.1 F.x.2.2.length F.x.2.1] 28)).alloc (.cells #[.slice none 0 0, .map none, .slice none 0 0, .map none] 87)).alloc (.map #[] 0)) := b1.alloc (by simp; omega) _
  have b3 : Below w.heap.size w ((((w.alloc (.cells #[.slice F.a.1 F.a.2.2.length F.a.2.1, .slice F.s.1 F.s.2.2.length F.s.2.1, .slice F.r.1 F.r.2.2.length F.r.2.1, .slice F.o.1 F.o.2.2.length F.o.2.1, .slice F.g.1 F.g.2.2.length F.g.2.1, .slice F.m.1 F.m.2.2.length F.m.2.1, .slice F.i.1 F.i.2.2.length F.i.2.1, .slice F.p.1 F.p.2.2.length F.p.2.1, .slice F.w.1 F.w.2.2.length F.w.2.1, .slice F.u.1 F.u.2.2.length F.u.2.1, .slice F.x.1 F.x.2.2.length F.x.2.1] 28)).alloc (.cells #[.slice none 0 0, .map none, .slice none 0 0, .map none] 87)).alloc (.map #[] 0)).alloc (.map #[] 0)) := b2.alloc (by simp; omega) _
  have b4 : Below w.heap.size w (((((w.alloc (.cells #[.slice F.a.1 F.a.2.2.length F.a.2.1, .slice F.s.1 F.s.2.2.length F.s.2.1, .slice F.r.1 F.r.2.2.length F.r.2.1, .slice F.o.1 F.o.2.2.length F.o.2.1, .slice F.g.1 F.g.2.2.length F.g.2.1, .slice F.m.1 F.m.2.2.length F.m.2.1, .slice F.i.1 F.i.2.2.length F.i.2.1, .slice F.p.1 F.p.2.2.length F.p.2.1, .slice F.w.1 F.w.2.2.length F.w.2.1, .slice F.u.1 F.u.2.2.length F.u.2.1, .slice F.x.1 F.x.2.2.length F.x.2.1] 28)).alloc (.cells #[.slice none 0 0, .map none, .slice none 0 0, .map none] 87)).alloc (.map #[] 0)).alloc (.map #[] 0)).alloc (.cells #[.slice ao al.length ac, .map (some (w.heap.size + 1 + 1)), .slice F.u.1 F.u.2.2.length F.u.2.1, .map (some (w.heap.size + 1 + 1 + 1))] 87)) := b3.alloc (by simp; omega) _
  have z1 : (w.alloc (.cells #[.slice F.a.1 F.a.2.2.length F.a.2.1, .slice F.s.1 F.s.2.2.length F.s.2.1, .slice F.r.1 F.r.2.2.length F.r.2.1, .slice F.o.1 F.o.2.2.length F.o.2.1, .slice F.g.1 F.g.2.2.length F.g.2.1, .slice F.m.1 F.m.2.2.length F.m.2.1, .slice F.i.1 F.i.2.2.length F.i.2.1, .slice F.p.1 F.p.2.2.length F.p.2.1, .slice F.w.1 F.w.2.2.length F.w.2.1, .slice F.u.1 F.u.2.2.length F.u.2.1, .slice F.x.1 F.x.2.2.length F.x.2.1] 28)).heap.size = w.heap.size + 1 := by simp
  have z2 : ((w.alloc (.cells #[.slice F.a.1 F.a.2.2.length F.a.2.1, .slice F.s.1 F.s.2.2.length F.s.2.1, .slice F.r.1 F.r.2.2.length F.r.2.1, .slice F.o.1 F.o.2.2.length F.o.2.1, .slice F.g.1 F.g.2.2.length F.g.2.1, .slice F.m.1 F.m.2.2.length F.m.2.1, .slice F.i.1 F.i.2.2.length F.i.2.1, .slice F.p.1 F.p.2.2.length F.p.2.1, .slice F.w.1 F.w.2.2.length F.w.2.1, .slice F.u.1 F.u.2.2.length F.u.2.1, .slice F.x.1 F.x.2.2.length F.x.2.1] 28)).alloc (.cells #[.slice none 0 0, .map none, .slice none 0 0, .map none] 87)).heap.size = w.heap.size + 1 + 1 := by simp
  have z3 : (((w.alloc (.cells #[.slice F.a.1 F.a.2.2.length F.a.2.1, .slice F.s.1 F.s.2.2.length F.s.2.1, .slice F.r.1 F.r.2.2.length F.r.2.1, .slice F.o.1 F.o.2.2.length F.o.2.1, .slice F.g.1 F.g.2.2.length F.g.2.1, .slice F.m.1 F.m.2.2.length F.m.2.1, .slice F.i.1 F.i.2.2.length F.i.2.1, .slice F.p.1 F.p.2.2.length F.p.2.1, .slice F.w.1 F.w.2.2.length F.w.2.1, .slice F.u.1 F.u.2.2.length F.u.2.1, .slice F.x.1 F.x.2.2.length F.x.2.1] 28)).alloc (.cells #[.slice none 0 0, .map none, .slice none 0 0, .map none] 87)).alloc (.map #[] 0)).heap.size = w.heap.size + 1 + 1 + 1 := by simp
  have z4 : ((((w.alloc (.cells #[.slice F.a.1 F.a.2.2.length F.a.2.1, .slice F.s.1 F.s.2.2.length F.s.2.1, .slice F.r.1 F.r.2.2.length F.r.2.1, .slice F.o.1 F.o.2.2.length F.o.2.1, .slice F.g.1 F.g.2.2.length F.g.2.1, .slice F.m.1 F.m.2.2.length F.m.2.1, .slice F.i.1 F.i.2.2.length F.i.2.1, .slice F.p.1 F.p.2.2.length F.p.2.1, .slice F.w.1 F.w.2.2.length F.w.2.1, .slice F.u.1 F.u.2.2.length F.u.2.1, .slice F.x.1 F.x.2.2.length F.x.2.1] 28)).alloc (.cells #[.slice none 0 0, .map none, .slice none 0 0, .map none] 87)).alloc (.map #[] 0)).alloc (.map #[] 0)).heap.size = w.heap.size + 1 + 1 + 1 + 1 := by simp
  have a1 := heap_alloc_new w (.cells #[.slice F.a.1 F.a.2.2.length F.a.2.1, .slice F.s.1 F.s.2.2.length F.s.2.1, .slice F.r.1 F.r.2.2.length F.r.2.1, .slice F.o.1 F.o.2.2.length F.o.2.1, .slice F.g.1 F.g.2.2.length F.g.2.1, .slice F.m.1 F.m.2.2.length F.m.2.1, .slice F.i.1 F.i.2.2.length F.i.2.1, .slice F.p.1 F.p.2.2.length F.p.2.1, .slice F.w.1 F.w.2.2.length F.w.2.1, .slice F.u.1 F.u.2.2.length F.u.2.1, .slice F.x.1 F.x.2.2.length F.x.2.1] 28)
  have a2 := heap_alloc_new (w.alloc (.cells #[.slice F.a.1 F.a.2.2.length F.a.2.1, .slice F.s.1 F.s.2.2.length F.s.2.1, .slice F.r.1 F.r.2.2.length F.r.2.1, .slice F.o.1 F.o.2.2.length F.o.2.1, .slice F.g.1 F.g.2.2.length F.g.2.1, .slice F.m.1 F.m.2.2.length F.m.2.1, .slice F.i.1 F.i.2.2.length F.i.2.1, .slice F.p.1 F.p.2.2.length F.p.2.1, .slice F.w.1 F.w.2.2.length F.w.2.1, .slice F.u.1 F.u.2.2.length F.u.2.1, .slice F.x.1 F.x.2.2.length F.x.2.1] 28)) (.cells #[.slice none 0 0, .map none, .slice none 0 0, .map none] 87)
  have a5 := heap_alloc_new ((((w.alloc (.cells #[.slice F.a.1 F.a.2.2.length F.a.2.1, .slice F.s.1 F.s.2.2.length F.s.2.1, .slice F.r.1 F.r.2.2.length F.r.2.1, .slice F.o.1 F.o.2.2.length F.o.2.1, .slice F.g.1 F.g.2.2.length F.g.2.1, .slice F.m.1 F.m.2.2.length F.m.2.1, .slice F.i.1 F.i.2.2.length F.i.2.1, .slice F.p.1 F.p.2.2.length F.p.2.1, .slice F.w.1 F.w.2.2.length F.w.2.1, .slice F.u.1 F.u.2.2.length F.u.2.1, .slice F.x.1 F.x.2.2.length F.x.2.1] 28)).alloc (.cells #[.slice none 0 0, .map none, .slice none 0 0, .map none] 87)).alloc (.map #[] 0)).alloc (.map #[] 0)) (.cells #[.slice ao al.length ac, .map (some (w.heap.size + 1 + 1)), .slice F.u.1 F.u.2.2.length F.u.2.1, .map (some (w.heap.size + 1 + 1 + 1))] 87)
  have m3 := Pl.Lm.made ((w.alloc (.cells #[.slice F.a.1 F.a.2.2.length F.a.2.1, .slice F.s.1 F.s.2.2.length F.s.2.1, .slice F.r.1 F.r.2.2.length F.r.2.1, .slice F.o.1 F.o.2.2.length F.o.2.1, .slice F.g.1 F.g.2.2.length F.g.2.1, .slice F.m.1 F.m.2.2.length F.m.2.1, .slice F.i.1 F.i.2.2.length F.i.2.1, .slice F.p.1 F.p.2.2.length F.p.2.1, .slice F.w.1 F.w.2.2.length F.w.2.1, .slice F.u.1 F.u.2.2.length F.u.2.1, .slice F.x.1 F.x.2.2.length F.x.2.1] 28)).alloc (.cells #[.slice none 0 0, .map none, .slice none 0 0, .map none] 87)) w.heap.size (by rw [z2]; omega)
  have m4 := X.Tset.made (((w.alloc (.cells #[.slice F.a.1 F.a.2.2.length F.a.2.1, .slice F.s.1 F.s.2.2.length F.s.2.1, .slice F.r.1 F.r.2.2.length F.r.2.1, .slice F.o.1 F.o.2.2.length F.o.2.1, .slice F.g.1 F.g.2.2.length F.g.2.1, .slice F.m.1 F.m.2.2.length F.m.2.1, .slice F.i.1 F.i.2.2.length F.i.2.1, .slice F.p.1 F.p.2.2.length F.p.2.1, .slice F.w.1 F.w.2.2.length F.w.2.1, .slice F.u.1 F.u.2.2.length F.u.2.1, .slice F.x.1 F.x.2.2.length F.x.2.1] 28)).alloc (.cells #[.slice none 0 0, .map none, .slice none 0 0, .map none] 87)).alloc (.map #[] 0))
  have k34 : Below (((w.alloc (.cells #[.slice F.a.1 F.a.2.2.length F.a.2.1, .slice F.s.1 F.s.2.2.length F.s.2.1, .slice F.r.1 F.r.2.2.length F.r.2.1, .slice F.o.1 F.o.2.2.length F.o.2.1, .slice F.g.1 F.g.2.2.length F.g.2.1, .slice F.m.1 F.m.2.2.length F.m.2.1, .slice F.i.1 F.i.2.2.length F.i.2.1, .slice F.p.1 F.p.2.2.length F.p.2.1, .slice F.w.1 F.w.2.2.length F.w.2.1, .slice F.u.1 F.u.2.2.length F.u.2.1, .slice F.x.1 F.x.2.2.length F.x.2.1] 28)).alloc (.cells #[.slice none 0 0, .map none, .slice none 0 0, .map none] 87)).alloc (.map #[] 0)).heap.size (((w.alloc (.cells #[.slice F.a.1 F.a.2.2.length F.a.2.1, .slice F.s.1 F.s.2.2.length F.s.2.1, .slice F.r.1 F.r.2.2.length F.r.2.1, .slice F.o.1 F.o.2.2.length F.o.2.1, .slice F.g.1 F.g.2.2.length F.g.2.1, .slice F.m.1 F.m.2.2.length F.m.2.1, .slice F.i.1 F.i.2.2.length F.i.2.1, .slice F.p.1 F.p.2.2.length F.p.2.1, .slice F.w.1 F.w.2.2.length F.w.2.1, .slice F.u.1 F.u.2.2.length F.u.2.1, .slice F.x.1 F.x.2.2.length F.x.2.1] 28)).alloc (.cells #[.slice none 0 0, .map none, .slice none 0 0, .map none] 87)).alloc (.map #[] 0)) ((((w.alloc (.cells #[.slice F.a.1 F.a.2.2.length F.a.2.1, .slice F.s.1 F.s.2.2.length F.s.2.1, .slice F.r.1 F.r.2.2.length F.r.2.1, .slice F.o.1 F.o.2.2.length F.o.2.1, .slice F.g.1 F.g.2.2.length F.g.2.1, .slice F.m.1 F.m.2.2.length F.m.2.1, .slice F.i.1 F.i.2.2.length F.i.2.1, .slice F.p.1 F.p.2.2.length F.p.2.1, .slice F.w.1 F.w.2.2.length F.w.2.1, .slice F.u.1 F.u.2.2.length F.u.2.1, .slice F.x.1 F.x.2.2.length F.x.2.1] 28)).alloc (.cells #[.slice none 0 0, .map none, .slice none 0 0, .map none] 87)).alloc (.map #[] 0)).alloc (.map #[] 0)) := (Below.refl _ _).alloc (Nat.le_refl _) _
  have k45 : Below ((((w.alloc (.cells #[.slice F.a.1 F.a.2.2.length F.a.2.1, .slice F.s.1 F.s.2.2.length F.s.2.1, .slice F.r.1 F.r.2.2.length F.r.2.1, .slice F.o.1 F.o.2.2.length F.o.2.1, .slice F.g.1 F.g.2.2.length F.g.2.1, .slice F.m.1 F.m.2.2.length F.m.2.1, .slice F.i.1 F.i.2.2.length F.i.2.1, .slice F.p.1 F.p.2.2.length F.p.2.1, .slice F.w.1 F.w.2.2.length F.w.2.1, .slice F.u.1 F.u.2.2.length F.u.2.1, .slice F.x.1 F.x.2.2.length F.x.2.1] 28)).alloc (.cells #[.slice none 0 0, .map none, .slice none 0 0, .map none] 87)).alloc (.map #[] 0)).alloc (.map #[] 0)).heap.size ((((w.alloc (.cells #[.slice F.a.1 F.a.2.2.length F.a.2.1, .slice F.s.1 F.s.2.2.length F.s.2.1, .slice F.r.1 F.r.2.2.length F.r.2.1, .slice F.o.1 F.o.2.2.length F.o.2.1, .slice F.g.1 F.g.2.2.length F.g.2.1, .slice F.m.1 F.m.2.2.length F.m.2.1, .slice F.i.1 F.i.2.2.length F.i.2.1, .slice F.p.1 F.p.2.2.length F.p.2.1, .slice F.w.1 F.w.2.2.length F.w.2.1, .slice F.u.1 F.u.2.2.length F.u.2.1, .slice F.x.1 F.x.2.2.length F.x.2.1] 28)).alloc (.cells #[.slice none 0 0, .map none, .slice none 0 0, .map none] 87)).alloc (.map #[] 0)).alloc (.map #[] 0)) (((((w.alloc (.cells #[.slice F.a.1 F.a.2.2.length F.a.2.1, .slice F.s.1 F.s.2.2.length F.s.2.1, .slice F.r.1 F.r.2.2.length F.r.2.1, .slice F.o.1 F.o.2.2.length F.o.2.1, .slice F.g.1 F.g.2.2.length F.g.2.1, .slice F.m.1 F.m.2.2.length F.m.2.1, .slice F.i.1 F.i.2.2.length F.i.2.1, .slice F.p.1 F.p.2.2.length F.p.2.1, .slice F.w.1 F.w.2.2.length F.w.2.1, .slice F.u.1 F.u.2.2.length F.u.2.1, .slice F.x.1 F.x.2.2.length F.x.2.1] 28)).alloc (.cells #[.slice none 0 0, .map none, .slice none 0 0, .map none] 87)).alloc (.map #[] 0)).alloc (.map #[] 0)).alloc (.cells #[.slice ao al.length ac, .map (some (w.heap.size + 1 + 1)), .slice F.u.1 F.u.2.2.length F.u.2.1, .map (some (w.heap.size + 1 + 1 + 1))] 87)) := (Below.refl _ _).alloc (Nat.le_refl _) _
  have m3' := (m3.below k34).below k45
  have m4' := m4.below k45
  rw [z1] at a2
  rw [z4] at a5
  rw [z2] at m3'
  rw [z3] at m4'
  refine ⟨⟨b4, ?_, ?_, a5⟩, m3', m4'⟩
  · exact (Below.heap_alloc _ _ _ (by rw [z4]; omega)).trans ((Below.heap_alloc _ _ _ (by rw [z3]; omega)).trans ((Below.heap_alloc _ _ _ (by rw [z2]; omega)).trans ((Below.heap_alloc _ _ _ (by rw [z1]; omega)).trans a1)))
  · exact (Below.heap_alloc _ _ _ (by rw [z4]; omega)).trans ((Below.heap_alloc _ _ _ (by rw [z3]; omega)).trans ((Below.heap_alloc _ _ _ (by rw [z2]; omega)).trans a2))
set_option maxRecDepth 100000 in
set_option maxHeartbeats 4000000 in
theorem read_any (F : Pf) (ao : Option Addr) (ac : Nat) (al : List ByteArray) (w : World) (h : F.In w) (hs : F.Small) (ha : S.Ints ao al w) (hac : al.length ≤ ac) (hal : al.length ≤ 1048576) (hak : ∀ a ∈ al, S.okk a) (hxk : ∀ t ∈ F.x.2.2, X.okk t) : Calls Try.prog 42 #[.agg #[.slice F.a.1 F.a.2.2.length F.a.2.1, .slice F.s.1 F.s.2.2.length F.s.2.1, .slice F.r.1 F.r.2.2.length F.r.2.1, .slice F.o.1 F.o.2.2.length F.o.2.1, .slice F.g.1 F.g.2.2.length F.g.2.1, .slice F.m.1 F.m.2.2.length F.m.2.1, .slice F.i.1 F.i.2.2.length F.i.2.1, .slice F.p.1 F.p.2.2.length F.p.2.1, .slice F.w.1 F.w.2.2.length F.w.2.1, .slice F.u.1 F.u.2.2.length F.u.2.1, .slice F.x.1 F.x.2.2.length F.x.2.1], .slice ao al.length ac] w fun e w' => ReadIs F ao ac al w e w' := by
  have hmm := @run_makeMap Try.prog
  have H := hide' h
  have HA := hide' ha
  have HK := hide' hak
  have HX := hide' hxk
  have hal64 : (al.length : Int) ≤ 1048576 := by omega
  have hxl : (F.x.2.2.length : Int) ≤ 1048576 := by have := hs.x; omega
  have hx6 : F.x.2.2.length ≤ 1048576 := hs.x
  clear h hs ha hak hxk
  go_enter Try.func42, Try.ntmps42
  go_wp2_with fail
  have X0 : Hid ((Rx F ao ac al w.heap.size (w.heap.size + 1) (w.heap.size + 1 + 1 + 1 + 1) (w.heap.size + 1 + 1) (w.heap.size + 1 + 1 + 1) w (((((w.alloc (.cells #[.slice F.a.1 F.a.2.2.length F.a.2.1, .slice F.s.1 F.s.2.2.length F.s.2.1, .slice F.r.1 F.r.2.2.length F.r.2.1, .slice F.o.1 F.o.2.2.length F.o.2.1, .slice F.g.1 F.g.2.2.length F.g.2.1, .slice F.m.1 F.m.2.2.length F.m.2.1, .slice F.i.1 F.i.2.2.length F.i.2.1, .slice F.p.1 F.p.2.2.length F.p.2.1, .slice F.w.1 F.w.2.2.length F.w.2.1, .slice F.u.1 F.u.2.2.length F.u.2.1, .slice F.x.1 F.x.2.2.length F.x.2.1] 28)).alloc (.cells #[.slice none 0 0, .map none, .slice none 0 0, .map none] 87)).alloc (.map #[] 0)).alloc (.map #[] 0)).alloc (.cells #[.slice ao al.length ac, .map (some (w.heap.size + 1 + 1)), .slice F.u.1 F.u.2.2.length F.u.2.1, .map (some (w.heap.size + 1 + 1 + 1))] 87)) ∧ Pl.Lm (w.heap.size + 1 + 1) w.heap.size [] (fun _ => none) (((((w.alloc (.cells #[.slice F.a.1 F.a.2.2.length F.a.2.1, .slice F.s.1 F.s.2.2.length F.s.2.1, .slice F.r.1 F.r.2.2.length F.r.2.1, .slice F.o.1 F.o.2.2.length F.o.2.1, .slice F.g.1 F.g.2.2.length F.g.2.1, .slice F.m.1 F.m.2.2.length F.m.2.1, .slice F.i.1 F.i.2.2.length F.i.2.1, .slice F.p.1 F.p.2.2.length F.p.2.1, .slice F.w.1 F.w.2.2.length F.w.2.1, .slice F.u.1 F.u.2.2.length F.u.2.1, .slice F.x.1 F.x.2.2.length F.x.2.1] 28)).alloc (.cells #[.slice none 0 0, .map none, .slice none 0 0, .map none] 87)).alloc (.map #[] 0)).alloc (.map #[] 0)).alloc (.cells #[.slice ao al.length ac, .map (some (w.heap.size + 1 + 1)), .slice F.u.1 F.u.2.2.length F.u.2.1, .map (some (w.heap.size + 1 + 1 + 1))] 87)) ∧ X.Tset (w.heap.size + 1 + 1 + 1) [] (((((w.alloc (.cells #[.slice F.a.1 F.a.2.2.length F.a.2.1, .slice F.s.1 F.s.2.2.length F.s.2.1, .slice F.r.1 F.r.2.2.length F.r.2.1, .slice F.o.1 F.o.2.2.length F.o.2.1, .slice F.g.1 F.g.2.2.length F.g.2.1, .slice F.m.1 F.m.2.2.length F.m.2.1, .slice F.i.1 F.i.2.2.length F.i.2.1, .slice F.p.1 F.p.2.2.length F.p.2.1, .slice F.w.1 F.w.2.2.length F.w.2.1, .slice F.u.1 F.u.2.2.length F.u.2.1, .slice F.x.1 F.x.2.2.length F.x.2.1] 28)).alloc (.cells #[.slice none 0 0, .map none, .slice none 0 0, .map none] 87)).alloc (.map #[] 0)).alloc (.map #[] 0)).alloc (.cells #[.slice ao al.length ac, .map (some (w.heap.size + 1 + 1)), .slice F.u.1 F.u.2.2.length F.u.2.1, .map (some (w.heap.size + 1 + 1 + 1))] 87))) ∧ (w.heap.size + 1 + 1 ≠ w.heap.size + 1 + 1 + 1) ∧ w.heap.size ≤ w.heap.size + 1 ∧ w.heap.size ≤ w.heap.size + 1 + 1 + 1 ∧ w.heap.size + 1 ≠ w.heap.size + 1 + 1 + 1 + 1) := ⟨Rx.start F ao ac al w, by omega, by omega, by omega, by omega⟩
  generalize ((((w.alloc (.cells #[.slice F.a.1 F.a.2.2.length F.a.2.1, .slice F.s.1 F.s.2.2.length F.s.2.1, .slice F.r.1 F.r.2.2.length F.r.2.1, .slice F.o.1 F.o.2.2.length F.o.2.1, .slice F.g.1 F.g.2.2.length F.g.2.1, .slice F.m.1 F.m.2.2.length F.m.2.1, .slice F.i.1 F.i.2.2.length F.i.2.1, .slice F.p.1 F.p.2.2.length F.p.2.1, .slice F.w.1 F.w.2.2.length F.w.2.1, .slice F.u.1 F.u.2.2.length F.u.2.1, .slice F.x.1 F.x.2.2.length F.x.2.1] 28)).alloc (.cells #[.slice none 0 0, .map none, .slice none 0 0, .map none] 87)).alloc (.map #[] 0)).alloc (.map #[] 0)).alloc (.cells #[.slice ao al.length ac, .map (some (w.heap.size + 1 + 1)), .slice F.u.1 F.u.2.2.length F.u.2.1, .map (some (w.heap.size + 1 + 1 + 1))] 87) = V0 at *
  obtain ⟨q2, hq2⟩ : ∃ q2, q2 = w.heap.size := ⟨_, rfl⟩
  generalize w.heap.size + 1 + 1 + 1 + 1 = q5 at *
  generalize w.heap.size + 1 + 1 + 1 = qx at *
  generalize w.heap.size + 1 + 1 = qp at *
  generalize w.heap.size + 1 = q4 at *
  have X1 : Hid ((Rx F ao ac al q2 q4 q5 qp qx w V0 ∧ Pl.Lm qp w.heap.size [] (fun _ => none) V0 ∧ X.Tset qx [] V0) ∧ (qp ≠ qx) ∧ w.heap.size ≤ q4 ∧ w.heap.size ≤ qx ∧ q4 ≠ q5) := by rw [hq2]; exact X0
  clear X0
  rw [← hq2]
  clear hq2
  have HN := hide' X1.out.2
  go_loopw [18] (fun iv wx => ∃ (i : Nat) (f : ByteArray → Option V3), iv = .int .i64 (i : Int) ∧ i ≤ al.length ∧ Hid (Rx F ao ac al q2 q4 q5 qp qx w wx ∧ Pl.Lm qp w.heap.size (al.take i) f wx ∧ X.Tset qx [] wx)) (fun iv _ => al.length - (intOf iv).toNat)
  case atStart => exact ⟨0, _, rfl, Nat.zero_le _, X1.out.1⟩
  case round =>
    obtain ⟨i, f, rfl, hil, HM⟩ := hrel
    clear X1
    by_cases hlt : i < al.length
    · have hlt' : (i : Int) < (al.length : Int) := by omega
      obtain ⟨a, ha⟩ : ∃ a, al[i]? = some a := ⟨_, List.getElem?_eq_getElem hlt⟩
      obtain ⟨ab, off, hao, hab, x0⟩ := HA.out.at ha
      have d0 := (HM.out.1.b.cell (p := ⟨ab, off + i, none⟩) hab).trans x0
      have hak : Hid (S.okk a) := HK.out a (List.mem_of_getElem? ha)
      have htk : Hid (al.take (i + 1) = al.take i ++ [a]) := by show _ = _; rw [List.take_add_one, ha]; rfl
      have hqi : Hid ((al.take i).length = i) := by show _ = _; rw [List.length_take]; omega
      have c5 : wr.cell? ⟨q5, 1, none⟩ = some (.map (some qp)) := by rw [Lib.cell_of_heap HM.out.1.h5]; rfl
      have hq5 : q5 < wr.heap.size := lt_of_heap HM.out.1.h5
      have hwV : w.heap.size ≤ wr.heap.size := HM.out.1.b.size
      subst hao
      generalize al.take i = qs at *
      obtain ⟨bo, l, c, hval, hll, hrow0, hcase⟩ := HM.out.2.1.row a
      have hkd : ∀ j, I.At bo j → j ≠ q5 := fun j r => by obtain ⟨cur, k⟩ := Pl.kindI hrow0 r; exact cells_ne k HM.out.1.h5 (by decide)
      have hkp : Hid (∀ j, I.At bo j → j ≠ qp) := fun j r => by obtain ⟨cur, k⟩ := Pl.kindI hrow0 r; obtain ⟨D, hm, _⟩ := HM.out.2.1.map; exact map_ne k hm
      have hqp5 : q5 ≠ qp := by obtain ⟨D, hm, _⟩ := HM.out.2.1.map; exact map_ne HM.out.1.h5 hm
      obtain ⟨D, hown, hD⟩ := HM.out.2.1.map
      have HD := hide' (And.intro hown hD)
      have Hval := hide' hval
      have hrow : wr.ownsRow w.heap.size 3 1 (.slice bo l c) l ((Pl.plc qs a).flatMap I.cells) := by have r := hrow0; unfold I.RowI at r; rw [← hll] at r; exact r
      have Hrow := hide' hrow0
      have hl6 : Hid (l ≤ 1048576) := by have := Pl.plc_len qs a; have := hqi.out; show _ ≤ _; omega
      have B1 : Hid (l + 1 ≤ maxLen) := by have := hl6.out; show _ ≤ _; unfold maxLen; omega
      have B2 : Hid ((l + 1) * 8 ≤ 140737488355328) := by have := hl6.out; show _ ≤ _; omega
      have hqn : Hid (qs.length < maxLen) := by have := hqi.out; show _ < _; unfold maxLen; omega
      have r0 := HM.out.2.1.run hak.out
      have r1 : (Instr.lookup 85 (.map (some qp)) (.string a) false).run Try.prog wr.drew = .ok (val (f a)) wr.drew := (HM.out.2.1.turn ((Turn.refl (fun _ => False) wr).drew) id (fun _ _ => id)).run hak.out
      have r2a : ∀ o, (Instr.lookup 85 (.map (some qp)) (.string a) false).run Try.prog (wr.alloc o).drew = .ok (val (f a)) (wr.alloc o).drew := fun o => (HM.out.2.1.turn (((Turn.refl (fun _ => False) wr).alloc o).drew) id (fun _ _ => id)).run hak.out
      rw [hval] at r0 r1
      have r2 : ∀ o, (Instr.lookup 85 (.map (some qp)) (.string a) false).run Try.prog (wr.alloc o).drew = .ok (.slice bo l c) (wr.alloc o).drew := fun o => by rw [← hval]; exact r2a o
      clear r2a
      obtain ⟨i0, hi, hz0, hz1, hz2⟩ := info_parts I.infoE
      have Hll := hide' hll
      clear hown hD hval hrow0 hcase hll ha x0 hab
      go_wp2_with fail
      go_region_held3 (fun w' => w'.cell? ⟨q5, 1, none⟩ = some (.map (some qp))) (first | go_keep | exact k30 | exact k20) (first
        | (refine step_append_lies _ (by rfl) _ _ 101 (by rfl) w.heap.size 3 i0 (.int .i64 0) 1 8 Try.underlying101 hi hz0 hz1 hz2 rfl (by decide) _ l ((Pl.plc qs a).flatMap I.cells) (by rfl) (by exact (World.ownsRow.alloc hrow _)) ⟨wr.heap.size, 0, none⟩ 1 1 [.int .i64 (i : Int)] (by rfl) (by rfl) (by exact cell_one_new _ _ _) (by simp [Value.oneCell']) (by decide) B1.out B2.out (by simp; omega) (wr.heap.size + 1) (by simp) ?_; intro g2 cap2 w2 hrow1 hgrow0 hat1 hlt1; have hgrow : (wr.alloc (.cells #[.int .i64 (i : Int)] 3)).grownBy w2 (Value.slice bo l c).ownBlock := ⟨hgrow0.os, hgrow0.tape, hgrow0.output, hgrow0.size, hgrow0.block⟩; clear hgrow0; have gr := grownI Hrow.out Hll.out.symm hrow1 hgrow hat1; have k20 : w2.cell? ⟨q5, 1, none⟩ = some (.map (some qp)) := (gr.2.1.cell (p := ⟨q5, 1, none⟩) hq5 (fun r => hkd _ r rfl)).trans c5; have hown2 : w2.ownsMap Try.prog 9 sE qp qs.length D := gr.2.1.map HD.out.1 (fun r => hkp.out _ r rfl); have hq52 : q5 < w2.heap.size := Nat.lt_of_lt_of_le hq5 gr.2.1.size; have G2 := hide' gr; clear hrow1 hgrow hat1 hlt1 gr; obtain ⟨w3, hrun3, hown3, hg3⟩ := hown2.update S.law Try.underlying85 hqn.out (S.hkey hak.out) (show sE (.slice (some ⟨g2, 0, none⟩) (l + 1) cap2) = some (dat (some (g2, l + 1, cap2)), []) from rfl); have t3 : Turn (fun j => j = qp) w2 w3 := ⟨hg3.os, hg3.tape, hg3.output, hg3.size, fun k hk hne => hg3.block k hk (by simpa using hne)⟩; have k30 : w3.cell? ⟨q5, 1, none⟩ = some (.map (some qp)) := (t3.cell (p := ⟨q5, 1, none⟩) hq52 hqp5).trans k20; have G3 := hide' (And.intro hown3 t3); clear hown3 hg3 t3 hown2))
      all_goals go_wp2_with fail
      all_goals
        have hput := HM.out.2.1.put hak.out Hval.out (by rw [hqi.out]; exact G2.out.1) G2.out.2.1 G2.out.2.2 HD.out.2 HD.out.1.isMap G3.out.1 G3.out.2 Hll.out
        have hst := HM.out.1.step HM.out.2.1 HM.out.2.2 HN.out.1 Hrow.out G2.out.2.1 G3.out.2
        exact ⟨⟨i + 1, _, by go_num, by omega, hst.1, by rw [htk.out]; exact hput, hst.2⟩, by simp [intOf]; omega⟩
    · have hin : al.length = i := by omega
      have hlt' : ¬ (i : Int) < (al.length : Int) := by omega
      subst hin
      have HM2 : Hid (Rx F ao ac al q2 q4 q5 qp qx w wr ∧ Pl.Lm qp w.heap.size al f wr ∧ X.Tset qx [] wr) := by have q := HM.out; rw [List.take_length] at q; exact q
      clear HM
      have IN := hide' (H.out.below HM2.out.1.b)
      have cx := IN.out.x.2.1
      have e2 : wr.cell? ⟨q2, 10, none⟩ = some (.slice F.x.1 F.x.2.2.length F.x.2.1) := by rw [Lib.cell_of_heap HM2.out.1.h2]; rfl
      go_wp2_with fail
      go_loopw [37] (fun jv wx => ∃ (j : Nat), jv = .int .i64 (j : Int) ∧ j ≤ F.x.2.2.length ∧ Hid (Rx F ao ac al q2 q4 q5 qp qx w wx ∧ Pl.Lm qp w.heap.size al f wx ∧ X.Tset qx (F.x.2.2.take j) wx)) (fun jv _ => F.x.2.2.length - (intOf jv).toNat)
      case atStart => exact ⟨0, rfl, Nat.zero_le _, HM2⟩
      case round =>
        obtain ⟨j, rfl, hjl, HM⟩ := hrel
        clear HM2 IN e2
        by_cases hjt : j < F.x.2.2.length
        · have hjt' : (j : Int) < (F.x.2.2.length : Int) := by omega
          obtain ⟨z, hz⟩ : ∃ z, F.x.2.2[j]? = some z := ⟨_, List.getElem?_eq_getElem hjt⟩
          obtain ⟨y, off, hy, _, d1, d2, d3⟩ := (H.out.below HM.out.1.b).x.1.at hz
          have hzk : Hid (X.okk z) := HX.out z (List.mem_of_getElem? hz)
          have htk : Hid (F.x.2.2.take (j + 1) = F.x.2.2.take j ++ [z]) := by show _ = _; rw [List.take_add_one, hz]; rfl
          have hzl : Hid ((F.x.2.2.take j).length < maxLen) := by show _ < _; rw [List.length_take]; unfold maxLen; omega
          obtain ⟨z1, z2, z3⟩ := z
          simp only at d1 d2 d3
          have hbV : Below wr.heap.size wr (wr.alloc (.cells #[.string z1, .string z2, .string z3] 42)) := (Below.refl _ _).alloc (Nat.le_refl _) _
          have TT := turn_below (S := fun _ => False) hbV
          have MV : Hid (Rx F ao ac al q2 q4 q5 qp qx w (wr.alloc (.cells #[.string z1, .string z2, .string z3] 42)) ∧ Pl.Lm qp w.heap.size al f (wr.alloc (.cells #[.string z1, .string z2, .string z3] 42)) ∧ X.Tset qx (F.x.2.2.take j) (wr.alloc (.cells #[.string z1, .string z2, .string z3] 42))) := ⟨HM.out.1.turn TT id id id (fun _ q => q.elim), HM.out.2.1.below hbV, HM.out.2.2.below hbV⟩
          have e5 : (wr.alloc (.cells #[.string z1, .string z2, .string z3] 42)).cell? ⟨q5, 3, none⟩ = some (.map (some qx)) := by rw [Lib.cell_of_heap MV.out.1.h5]; rfl
          have e0 : (wr.alloc (.cells #[.string z1, .string z2, .string z3] 42)).cell? ⟨wr.heap.size, 0, none⟩ = some (.string z1) := by rw [Lib.cell_of_heap (heap_alloc_new wr _)]; rfl
          have e1 : (wr.alloc (.cells #[.string z1, .string z2, .string z3] 42)).cell? ⟨wr.heap.size, 1, none⟩ = some (.string z2) := by rw [Lib.cell_of_heap (heap_alloc_new wr _)]; rfl
          have e2 : (wr.alloc (.cells #[.string z1, .string z2, .string z3] 42)).cell? ⟨wr.heap.size, 2, none⟩ = some (.string z3) := by rw [Lib.cell_of_heap (heap_alloc_new wr _)]; rfl
          rw [hy]
          obtain ⟨n, D, hn, hown, hh⟩ := id MV.out.2.2
          have hput := hide' (X.has_put hh hown.isMap hzk.out)
          have Hown := hide' hown
          have hnm : Hid (n < maxLen) := by have := hzl.out; show _ < _; omega
          have Hn := hide' hn
          clear hh hown hn hbV TT HM hy hz
          go_wp2_with (at_mapUpdate; refine wpList_mapUpdate_own _ rfl _ _ _ 74 rfl 42 114 X.law Try.underlying74 unitElem qx n D rfl Hown.out hnm.out _ _ _ rfl rfl (X.hkey hzk.out) _ [] unitElem_mk ?_; intro w6 hown6 hg6; have G6 := hide' (And.intro hown6 hg6); clear hown6 hg6)
          have t6 : Turn (fun q => q = qx) (wr.alloc (.cells #[.string z1, .string z2, .string z3] 42)) w6 := ⟨G6.out.2.os, G6.out.2.tape, G6.out.2.output, G6.out.2.size, fun k hk hne => G6.out.2.block k hk (by simpa using hne)⟩
          have hm1 : Rx F ao ac al q2 q4 q5 qp qx w w6 := MV.out.1.turn t6 (map_ne MV.out.1.h2 Hown.out) (map_ne MV.out.1.h4 Hown.out) (map_ne MV.out.1.h5 Hown.out) (fun j e => by rw [e]; exact HN.out.2.2.1)
          have hm2 : Pl.Lm qp w.heap.size al f w6 := MV.out.2.1.turn t6 HN.out.1 (fun j r e => by
            obtain ⟨k, ⟨g, l, c⟩, e1, e2⟩ := r
            obtain ⟨cur, kk⟩ := Pl.kindI (MV.out.2.1.each k g l c e1).2 ⟨_, rfl, rfl⟩
            exact map_ne kk Hown.out (e2.symm.trans e))
          exact ⟨⟨j + 1, by go_num, by omega, hm1, hm2, n + 1, _, by rw [htk.out, List.length_append]; exact Nat.add_le_add Hn.out (Nat.le_refl 1), G6.out.1, by rw [htk.out]; exact hput.out⟩, by simp [intOf]; omega⟩
        · have hjn : F.x.2.2.length = j := by omega
          have hjt' : ¬ (j : Int) < (F.x.2.2.length : Int) := by omega
          subst hjn
          have HM3 : Hid (Rx F ao ac al q2 q4 q5 qp qx w wr ∧ Pl.Lm qp w.heap.size al f wr ∧ X.Tset qx F.x.2.2 wr) := by have q := HM.out; rw [List.take_length] at q; exact q
          clear HM
          have SS := hide' (sto4 HM3.out.1.h4)
          obtain ⟨a0, c0⟩ := SS.out.c0
          have g0 := SS.out.f0
          obtain ⟨a1, c1⟩ := SS.out.c1 (.slice ao al.length ac)
          have g1 := SS.out.f1 (.slice ao al.length ac)
          obtain ⟨a2, c2⟩ := SS.out.c2 (.slice ao al.length ac) (.map (some qp))
          have g2 := SS.out.f2 (.slice ao al.length ac) (.map (some qp))
          obtain ⟨a3, c3⟩ := SS.out.c3 (.slice ao al.length ac) (.map (some qp)) (.slice F.u.1 F.u.2.2.length F.u.2.1)
          have g3 := SS.out.f3 (.slice ao al.length ac) (.map (some qp)) (.slice F.u.1 F.u.2.2.length F.u.2.1)
          have tH := SS.out.fin (.slice ao al.length ac) (.map (some qp)) (.slice F.u.1 F.u.2.2.length F.u.2.1) (.map (some qx))
          have tT := SS.out.tt (.slice ao al.length ac) (.map (some qp)) (.slice F.u.1 F.u.2.2.length F.u.2.1) (.map (some qx))
          have s0 : wr.cell? ⟨q5, 0, none⟩ = some (.slice ao al.length ac) := by rw [Lib.cell_of_heap HM3.out.1.h5]; rfl
          have s1 : wr.cell? ⟨q5, 1, none⟩ = some (.map (some qp)) := by rw [Lib.cell_of_heap HM3.out.1.h5]; rfl
          have s2 : wr.cell? ⟨q5, 2, none⟩ = some (.slice F.u.1 F.u.2.2.length F.u.2.1) := by rw [Lib.cell_of_heap HM3.out.1.h5]; rfl
          have s3 : wr.cell? ⟨q5, 3, none⟩ = some (.map (some qx)) := by rw [Lib.cell_of_heap HM3.out.1.h5]; rfl
          have hfin : Hid (ReadIs F ao ac al w (.returned (.agg #[.slice ao al.length ac, .map (some qp), .slice F.u.1 F.u.2.2.length F.u.2.1, .map (some qx)])) ((((wr.setCell ⟨q4, 0, none⟩ (.slice ao al.length ac)).setCell ⟨q4, 1, none⟩ (.map (some qp))).setCell ⟨q4, 2, none⟩ (.slice F.u.1 F.u.2.2.length F.u.2.1)).setCell ⟨q4, 3, none⟩ (.map (some qx)))) := by
            obtain ⟨D, hm, _⟩ := HM3.out.2.1.map
            obtain ⟨n, D2, _, hx, _⟩ := id HM3.out.2.2
            refine ⟨qp, qx, f, rfl, HM3.out.2.1.turn tT (fun e => map_ne HM3.out.1.h4 hm e.symm) (fun j r e => ?_), HM3.out.2.2.turn tT (fun e => map_ne HM3.out.1.h4 hx e.symm), HN.out.2.2.1, HM3.out.1.b.trans (below_own tT (fun j e => by rw [e]; exact HN.out.2.1) HM3.out.1.b.size)⟩
            obtain ⟨k, ⟨g, l, c⟩, e1, e2⟩ := r
            obtain ⟨cur, kk⟩ := Pl.kindI (HM3.out.2.1.each k g l c e1).2 ⟨_, rfl, rfl⟩
            exact cells_ne kk HM3.out.1.h4 (by decide) (e2.symm.trans e)
          clear SS tT HM3
          go_wp2_with fail
          (try simp only [Exit.inBlock, Exit.then])
          refine bodyPost_ret (results_cell_row rfl _ _ q4 87 #[.slice ao al.length ac, .map (some qp), .slice F.u.1 F.u.2.2.length F.u.2.1, .map (some qx)] (0, 0) _ rfl tH Try.underlying87 rfl (by kernel_rfl)) rfl ?_
          exact hfin.out
end U
end Go.Proofs.Ytollaamlnddhcaa
