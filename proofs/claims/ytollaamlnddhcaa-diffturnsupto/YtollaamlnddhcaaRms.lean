import Derived.Test.YtollaamlnddhcaaRmd
set_option linter.unusedVariables false
set_option linter.unusedSimpArgs false
namespace Go.Proofs.Ytollaamlnddhcaa
open Go.RowKit Go.Maps
namespace U
/-- what stays, whatever is done to one block, and from B on -/
def Stab (b3 B : Nat) (K : World → Prop) : Prop := ∀ V V', K V → Turn (fun j => j = b3 ∨ B ≤ j) V V' → K V'
structure St (b3 B : Nat) (K : World → Prop) (cs : Array Value) (V : World) : Prop where
  st : Stab b3 B K
  k : K V
  hB : B ≤ V.heap.size
  hb : b3 < B
  h3 : V.heap[b3]? = some (.cells cs 28 (0, 0))
theorem Stab.mono {b3 B C : Nat} {K : World → Prop} (h : Stab b3 B K) (hC : B ≤ C) : Stab b3 C K := fun V V' k t => h V V' k (t.mono (fun j _ q => q.imp id (fun r => Nat.le_trans hC r)))
theorem St.turn {b3 B : Nat} {K : World → Prop} {cs : Array Value} {V V' : World} (h : St b3 B K cs V) (t : Turn (fun j => B ≤ j) V V') : St b3 B K cs V' where
  st := h.st
  k := h.st V V' h.k (t.mono (fun j _ q => .inr q))
  hB := Nat.le_trans h.hB t.size
  hb := h.hb
  h3 := (t.block b3 (Nat.lt_of_lt_of_le h.hb h.hB) (by have := h.hb; omega)).trans h.h3
theorem St.below {b3 B : Nat} {K : World → Prop} {cs : Array Value} {V V' : World} (h : St b3 B K cs V) (t : Below V.heap.size V V') : St b3 B K cs V' := h.turn ((turn_below (S := fun _ => False) t).mono (fun _ _ q => q.elim))
theorem heap_set {w : World} {b i : Nat} {cs : Array Value} {t : TypeId} {x : Nat × Nat} {v : Value} (h : w.heap[b]? = some (.cells cs t x)) : (w.setCell ⟨b, i, none⟩ v).heap[b]? = some (.cells (cs.setIfInBounds i v) t x) := by
  simp [World.setCell, Array.getElem?_modify, h]
theorem St.put {b3 B : Nat} {K : World → Prop} {cs : Array Value} {V : World} (h : St b3 B K cs V) (i : Nat) (v : Value) : St b3 B K (cs.setIfInBounds i v) (V.setCell ⟨b3, i, none⟩ v) where
  st := h.st
  k := h.st V _ h.k ((Turn.refl _ V).setCell (p := ⟨b3, i, none⟩) (fun _ => .inl rfl) v)
  hB := by have := ((Turn.refl (fun j => j = b3) V).setCell (p := ⟨b3, i, none⟩) (fun _ => rfl) v).size; exact Nat.le_trans h.hB this
  hb := h.hb
  h3 := heap_set h.h3
theorem St.add {b3 B : Nat} {K J : World → Prop} {cs : Array Value} {V : World} (h : St b3 B K cs V) (hJ : Stab b3 V.heap.size J) (j : J V) : St b3 V.heap.size (fun V => K V ∧ J V) cs V where
  st := fun V1 V2 k t => ⟨h.st.mono h.hB V1 V2 k.1 t, hJ V1 V2 k.2 t⟩
  k := ⟨h.k, j⟩
  hB := Nat.le_refl _
  hb := Nat.lt_of_lt_of_le h.hb h.hB
  h3 := h.h3
theorem St.cell {b3 B : Nat} {K : World → Prop} {cs : Array Value} {V : World} (h : St b3 B K cs V) (i : Nat) : V.cell? ⟨b3, i, none⟩ = cs[i]? := by rw [Lib.cell_of_heap h.h3]
theorem St.frozen {b3 B : Nat} {K : World → Prop} {cs : Array Value} {V : World} (h : St b3 B K cs V) (i : Nat) : V.frozen? ⟨b3, i, none⟩ = false := Lib.frozen_of_heap h.h3 i
theorem stab_s {b3 B g : Nat} {xs : List ByteArray} (hg : g < B) (hne : g ≠ b3) : Stab b3 B (fun V => S.Ints (some ⟨g, 0, none⟩) xs V) := by
  rintro V V' (h | ⟨b, off, e, hl, hc⟩) t
  · exact .inl h
  · cases e
    refine .inr ⟨g, 0, rfl, Nat.lt_of_lt_of_le hl t.size, fun i k q => (t.cell (p := ⟨g, 0 + i, none⟩) hl ?_).trans (hc i k q)⟩
    rintro (r | r)
    · exact hne r
    · simp only at r; omega
theorem stab_q {b3 B g : Nat} {xs : List K2} (hg : g < B) (hne : g ≠ b3) : Stab b3 B (fun V => Q.Ints (some ⟨g, 0, none⟩) xs V) := by
  rintro V V' (h | ⟨b, off, e, hl, hc⟩) t
  · exact .inl h
  · cases e
    have hn : ¬ (g = b3 ∨ B ≤ g) := by omega
    exact .inr ⟨g, 0, rfl, Nat.lt_of_lt_of_le hl t.size, fun i k q => ⟨(t.cell (p := ⟨g, 0 + i * 2, none⟩) hl hn).trans (hc i k q).1, (t.cell (p := ⟨g, 0 + i * 2 + 1, none⟩) hl hn).trans (hc i k q).2⟩⟩
theorem stab_t {b3 B g : Nat} {xs : List (ByteArray × Nat)} (hg : g < B) (hne : g ≠ b3) : Stab b3 B (fun V => Subs (some ⟨g, 0, none⟩) xs V) := by
  rintro V V' (h | ⟨b, off, e, hl, hc⟩) t
  · exact .inl h
  · cases e
    have hn : ¬ (g = b3 ∨ B ≤ g) := by omega
    exact .inr ⟨g, 0, rfl, Nat.lt_of_lt_of_le hl t.size, fun i k q => ⟨(t.cell (p := ⟨g, 0 + i * 2, none⟩) hl hn).trans (hc i k q).1, (t.cell (p := ⟨g, 0 + i * 2 + 1, none⟩) hl hn).trans (hc i k q).2⟩⟩
theorem stab_x {b3 B g : Nat} {xs : List X.K3} (hg : g < B) (hne : g ≠ b3) : Stab b3 B (fun V => X.Ints (some ⟨g, 0, none⟩) xs V) := by
  rintro V V' (h | ⟨b, off, e, hl, hc⟩) t
  · exact .inl h
  · cases e
    have hn : ¬ (g = b3 ∨ B ≤ g) := by omega
    exact .inr ⟨g, 0, rfl, Nat.lt_of_lt_of_le hl t.size, fun i k q => ⟨(t.cell (p := ⟨g, 0 + i * 3, none⟩) hl hn).trans (hc i k q).1, (t.cell (p := ⟨g, 0 + i * 3 + 1, none⟩) hl hn).trans (hc i k q).2.1, (t.cell (p := ⟨g, 0 + i * 3 + 2, none⟩) hl hn).trans (hc i k q).2.2⟩⟩
theorem stab_l {b3 B m : Nat} {ao : Option Addr} {zs : List (List Value)} (h : ∀ a, ao = some a → a.block < B ∧ a.block ≠ b3) : Stab b3 B (fun V => Lies m ao zs V) := by
  rintro V V' (q | ⟨b, off, e, hl, hc⟩) t
  · exact .inl q
  · obtain ⟨h1, h2⟩ := h _ e
    simp only at h1 h2
    have hn : ¬ (b = b3 ∨ B ≤ b) := by omega
    exact .inr ⟨b, off, e, Nat.lt_of_lt_of_le hl t.size, fun i r k u q s => (t.cell (p := ⟨b, off + i * m + r, none⟩) hl hn).trans (hc i r k u q s)⟩
theorem Turn.setRow {T : Nat → Prop} {a w : World} (h : Turn T a w) {g : Nat} (hg : g < a.heap.size → T g) (cs : Array Value) : Turn T a (w.setRow g cs) :=
  ⟨h.os, h.tape, h.output, by rw [size_setRow]; exact h.size, fun k hk hn => (setRow_other w g k cs (fun e => hn (by rw [e]; exact hg (by rw [← e]; exact hk)))).trans (h.block k hk hn)⟩
theorem kept_s {b3 B g c : Nat} {xs : List ByteArray} {w W : World} (r : S.RowI B (some ⟨g, 0, none⟩) c xs w) (t : Turn (fun j => j = b3) w W) (hne : g ≠ b3) : S.Ints (some ⟨g, 0, none⟩) xs W :=
  stab_s (B := w.heap.size) (r.lt g ⟨_, rfl, rfl⟩).2 hne w W r.ints (t.mono (fun j _ q => .inl q))
/-- eleven cells are written over -/
theorem st34 {b : Nat} {w : World} (h : w.heap[b]? = some (.cells #[.slice none 0 0, .slice none 0 0, .slice none 0 0, .slice none 0 0, .slice none 0 0, .slice none 0 0, .slice none 0 0, .slice none 0 0, .slice none 0 0, .slice none 0 0, .slice none 0 0] 28 (0, 0))) (v0 v1 v2 v3 v4 v5 v6 v7 v8 v9 v10 : Value) : w.cell? ⟨b, 0, none⟩ = some (.slice none 0 0) ∧ w.frozen? ⟨b, 0, none⟩ = false ∧ (w.setCell ⟨b, 0, none⟩ v0).cell? ⟨b, 1, none⟩ = some (.slice none 0 0) ∧ (w.setCell ⟨b, 0, none⟩ v0).frozen? ⟨b, 1, none⟩ = false ∧ ((w.setCell ⟨b, 0, none⟩ v0).setCell ⟨b, 1, none⟩ v1).cell? ⟨b, 2, none⟩ = some (.slice none 0 0) ∧ ((w.setCell ⟨b, 0, none⟩ v0).setCell ⟨b, 1, none⟩ v1).frozen? ⟨b, 2, none⟩ = false ∧ (((w.setCell ⟨b, 0, none⟩ v0).setCell ⟨b, 1, none⟩ v1).setCell ⟨b, 2, none⟩ v2).cell? ⟨b, 3, none⟩ = some (.slice none 0 0) ∧ (((w.setCell ⟨b, 0, none⟩ v0).setCell ⟨b, 1, none⟩ v1).setCell ⟨b, 2, none⟩ v2).frozen? ⟨b, 3, none⟩ = false ∧ ((((w.setCell ⟨b, 0, none⟩ v0).setCell ⟨b, 1, none⟩ v1).setCell ⟨b, 2, none⟩ v2).setCell ⟨b, 3, none⟩ v3).cell? ⟨b, 4, none⟩ = some (.slice none 0 0) ∧ ((((w.setCell ⟨b, 0, none⟩ v0).setCell ⟨b, 1, none⟩ v1).setCell ⟨b, 2, none⟩ v2).setCell ⟨b, 3, none⟩ v3).frozen? ⟨b, 4, none⟩ = false ∧ (((((w.setCell ⟨b, 0, none⟩ v0).setCell ⟨b, 1, none⟩ v1).setCell ⟨b, 2, none⟩ v2).setCell ⟨b, 3, none⟩ v3).setCell ⟨b, 4, none⟩ v4).cell? ⟨b, 5, none⟩ = some (.slice none 0 0) ∧ (((((w.setCell ⟨b, 0, none⟩ v0).setCell ⟨b, 1, none⟩ v1).setCell ⟨b, 2, none⟩ v2).setCell ⟨b, 3, none⟩ v3).setCell ⟨b, 4, none⟩ v4).frozen? ⟨b, 5, none⟩ = false ∧ ((((((w.setCell ⟨b, 0, none⟩ v0).setCell ⟨b, 1, none⟩ v1).setCell ⟨b, 2, none⟩ v2).setCell ⟨b, 3, none⟩ v3).setCell ⟨b, 4, none⟩ v4).setCell ⟨b, 5, none⟩ v5).cell? ⟨b, 6, none⟩ = some (.slice none 0 0) ∧ ((((((w.setCell ⟨b, 0, none⟩ v0).setCell ⟨b, 1, none⟩ v1).setCell ⟨b, 2, none⟩ v2).setCell ⟨b, 3, none⟩ v3).setCell ⟨b, 4, none⟩ v4).setCell ⟨b, 5, none⟩ v5).frozen? ⟨b, 6, none⟩ = false ∧ (((((((w.setCell ⟨b, 0, none⟩ v0).setCell ⟨b, 1, none⟩ v1).setCell ⟨b, 2, none⟩ v2).setCell ⟨b, 3, none⟩ v3).setCell ⟨b, 4, none⟩ v4).setCell ⟨b, 5, none⟩ v5).setCell ⟨b, 6, none⟩ v6).cell? ⟨b, 7, none⟩ = some (.slice none 0 0) ∧ (((((((w.setCell ⟨b, 0, none⟩ v0).setCell ⟨b, 1, none⟩ v1).setCell ⟨b, 2, none⟩ v2).setCell ⟨b, 3, none⟩ v3).setCell ⟨b, 4, none⟩ v4).setCell ⟨b, 5, none⟩ v5).setCell ⟨b, 6, none⟩ v6).frozen? ⟨b, 7, none⟩ = false ∧ ((((((((w.setCell ⟨b, 0, none⟩ v0).setCell ⟨b, 1, none⟩ v1).setCell ⟨b, 2, none⟩ v2).setCell ⟨b, 3, none⟩ v3).setCell ⟨b, 4, none⟩ v4).setCell ⟨b, 5, none⟩ v5).setCell ⟨b, 6, none⟩ v6).setCell ⟨b, 7, none⟩ v7).cell? ⟨b, 8, none⟩ = some (.slice none 0 0) ∧ ((((((((w.setCell ⟨b, 0, none⟩ v0).setCell ⟨b, 1, none⟩ v1).setCell ⟨b, 2, none⟩ v2).setCell ⟨b, 3, none⟩ v3).setCell ⟨b, 4, none⟩ v4).setCell ⟨b, 5, none⟩ v5).setCell ⟨b, 6, none⟩ v6).setCell ⟨b, 7, none⟩ v7).frozen? ⟨b, 8, none⟩ = false ∧ (((((((((w.setCell ⟨b, 0, none⟩ v0).setCell ⟨b, 1, none⟩ v1).setCell ⟨b, 2, none⟩ v2).setCell ⟨b, 3, none⟩ v3).setCell ⟨b, 4, none⟩ v4).setCell ⟨b, 5, none⟩ v5).setCell ⟨b, 6, none⟩ v6).setCell ⟨b, 7, none⟩ v7).setCell ⟨b, 8, none⟩ v8).cell? ⟨b, 9, none⟩ = some (.slice none 0 0) ∧ (((((((((w.setCell ⟨b, 0, none⟩ v0).setCell ⟨b, 1, none⟩ v1).setCell ⟨b, 2, none⟩ v2).setCell ⟨b, 3, none⟩ v3).setCell ⟨b, 4, none⟩ v4).setCell ⟨b, 5, none⟩ v5).setCell ⟨b, 6, none⟩ v6).setCell ⟨b, 7, none⟩ v7).setCell ⟨b, 8, none⟩ v8).frozen? ⟨b, 9, none⟩ = false ∧ ((((((((((w.setCell ⟨b, 0, none⟩ v0).setCell ⟨b, 1, none⟩ v1).setCell ⟨b, 2, none⟩ v2).setCell ⟨b, 3, none⟩ v3).setCell ⟨b, 4, none⟩ v4).setCell ⟨b, 5, none⟩ v5).setCell ⟨b, 6, none⟩ v6).setCell ⟨b, 7, none⟩ v7).setCell ⟨b, 8, none⟩ v8).setCell ⟨b, 9, none⟩ v9).cell? ⟨b, 10, none⟩ = some (.slice none 0 0) ∧ ((((((((((w.setCell ⟨b, 0, none⟩ v0).setCell ⟨b, 1, none⟩ v1).setCell ⟨b, 2, none⟩ v2).setCell ⟨b, 3, none⟩ v3).setCell ⟨b, 4, none⟩ v4).setCell ⟨b, 5, none⟩ v5).setCell ⟨b, 6, none⟩ v6).setCell ⟨b, 7, none⟩ v7).setCell ⟨b, 8, none⟩ v8).setCell ⟨b, 9, none⟩ v9).frozen? ⟨b, 10, none⟩ = false ∧ (((((((((((w.setCell ⟨b, 0, none⟩ v0).setCell ⟨b, 1, none⟩ v1).setCell ⟨b, 2, none⟩ v2).setCell ⟨b, 3, none⟩ v3).setCell ⟨b, 4, none⟩ v4).setCell ⟨b, 5, none⟩ v5).setCell ⟨b, 6, none⟩ v6).setCell ⟨b, 7, none⟩ v7).setCell ⟨b, 8, none⟩ v8).setCell ⟨b, 9, none⟩ v9).setCell ⟨b, 10, none⟩ v10).heap[b]? = some (.cells #[v0, v1, v2, v3, v4, v5, v6, v7, v8, v9, v10] 28 (0, 0)) ∧ Turn (fun j => j = b) w (((((((((((w.setCell ⟨b, 0, none⟩ v0).setCell ⟨b, 1, none⟩ v1).setCell ⟨b, 2, none⟩ v2).setCell ⟨b, 3, none⟩ v3).setCell ⟨b, 4, none⟩ v4).setCell ⟨b, 5, none⟩ v5).setCell ⟨b, 6, none⟩ v6).setCell ⟨b, 7, none⟩ v7).setCell ⟨b, 8, none⟩ v8).setCell ⟨b, 9, none⟩ v9).setCell ⟨b, 10, none⟩ v10) :=
  ⟨(by rw [Lib.cell_of_heap h]; rfl), Lib.frozen_of_heap h 0, (by rw [World.cell?_setCell_other _ _ _ _ (by simp), Lib.cell_of_heap h]; rfl), (by rw [World.frozen?_setCell]; exact Lib.frozen_of_heap h 1), (by rw [World.cell?_setCell_other _ _ _ _ (by simp), World.cell?_setCell_other _ _ _ _ (by simp), Lib.cell_of_heap h]; rfl), (by rw [World.frozen?_setCell, World.frozen?_setCell]; exact Lib.frozen_of_heap h 2), (by rw [World.cell?_setCell_other _ _ _ _ (by simp), World.cell?_setCell_other _ _ _ _ (by simp), World.cell?_setCell_other _ _ _ _ (by simp), Lib.cell_of_heap h]; rfl), (by rw [World.frozen?_setCell, World.frozen?_setCell, World.frozen?_setCell]; exact Lib.frozen_of_heap h 3), (by rw [World.cell?_setCell_other _ _ _ _ (by simp), World.cell?_setCell_other _ _ _ _ (by simp), World.cell?_setCell_other _ _ _ _ (by simp), World.cell?_setCell_other _ _ _ _ (by simp), Lib.cell_of_heap h]; rfl), (by rw [World.frozen?_setCell, World.frozen?_setCell, World.frozen?_setCell, World.frozen?_setCell]; exact Lib.frozen_of_heap h 4), (by rw [World.cell?_setCell_other _ _ _ _ (by simp), World.cell?_setCell_other _ _ _ _ (by simp), World.cell?_setCell_other _ _ _ _ (by simp), World.cell?_setCell_other _ _ _ _ (by simp), World.cell?_setCell_other _ _ _ _ (by simp), Lib.cell_of_heap h]; rfl), (by rw [World.frozen?_setCell, World.frozen?_setCell, World.frozen?_setCell, World.frozen?_setCell, World.frozen?_setCell]; exact Lib.frozen_of_heap h 5), (by rw [World.cell?_setCell_other _ _ _ _ (by simp), World.cell?_setCell_other _ _ _ _ (by simp), World.cell?_setCell_other _ _ _ _ (by simp), World.cell?_setCell_other _ _ _ _ (by simp), World.cell?_setCell_other _ _ _ _ (by simp), World.cell?_setCell_other _ _ _ _ (by simp), Lib.cell_of_heap h]; rfl), (by rw [World.frozen?_setCell, World.frozen?_setCell, World.frozen?_setCell, World.frozen?_setCell, World.frozen?_setCell, World.frozen?_setCell]; exact Lib.frozen_of_heap h 6), (by rw [World.cell?_setCell_other _ _ _ _ (by simp), World.cell?_setCell_other _ _ _ _ (by simp), World.cell?_setCell_other _ _ _ _ (by simp), World.cell?_setCell_other _ _ _ _ (by simp), World.cell?_setCell_other _ _ _ _ (by simp), World.cell?_setCell_other _ _ _ _ (by simp), World.cell?_setCell_other _ _ _ _ (by simp), Lib.cell_of_heap h]; rfl), (by rw [World.frozen?_setCell, World.frozen?_setCell, World.frozen?_setCell, World.frozen?_setCell, World.frozen?_setCell, World.frozen?_setCell, World.frozen?_setCell]; exact Lib.frozen_of_heap h 7), (by rw [World.cell?_setCell_other _ _ _ _ (by simp), World.cell?_setCell_other _ _ _ _ (by simp), World.cell?_setCell_other _ _ _ _ (by simp), World.cell?_setCell_other _ _ _ _ (by simp), World.cell?_setCell_other _ _ _ _ (by simp), World.cell?_setCell_other _ _ _ _ (by simp), World.cell?_setCell_other _ _ _ _ (by simp), World.cell?_setCell_other _ _ _ _ (by simp), Lib.cell_of_heap h]; rfl), (by rw [World.frozen?_setCell, World.frozen?_setCell, World.frozen?_setCell, World.frozen?_setCell, World.frozen?_setCell, World.frozen?_setCell, World.frozen?_setCell, World.frozen?_setCell]; exact Lib.frozen_of_heap h 8), (by rw [World.cell?_setCell_other _ _ _ _ (by simp), World.cell?_setCell_other _ _ _ _ (by simp), World.cell?_setCell_other _ _ _ _ (by simp), World.cell?_setCell_other _ _ _ _ (by simp), World.cell?_setCell_other _ _ _ _ (by simp), World.cell?_setCell_other _ _ _ _ (by simp), World.cell?_setCell_other _ _ _ _ (by simp), World.cell?_setCell_other _ _ _ _ (by simp), World.cell?_setCell_other _ _ _ _ (by simp), Lib.cell_of_heap h]; rfl), (by rw [World.frozen?_setCell, World.frozen?_setCell, World.frozen?_setCell, World.frozen?_setCell, World.frozen?_setCell, World.frozen?_setCell, World.frozen?_setCell, World.frozen?_setCell, World.frozen?_setCell]; exact Lib.frozen_of_heap h 9), (by rw [World.cell?_setCell_other _ _ _ _ (by simp), World.cell?_setCell_other _ _ _ _ (by simp), World.cell?_setCell_other _ _ _ _ (by simp), World.cell?_setCell_other _ _ _ _ (by simp), World.cell?_setCell_other _ _ _ _ (by simp), World.cell?_setCell_other _ _ _ _ (by simp), World.cell?_setCell_other _ _ _ _ (by simp), World.cell?_setCell_other _ _ _ _ (by simp), World.cell?_setCell_other _ _ _ _ (by simp), World.cell?_setCell_other _ _ _ _ (by simp), Lib.cell_of_heap h]; rfl), (by rw [World.frozen?_setCell, World.frozen?_setCell, World.frozen?_setCell, World.frozen?_setCell, World.frozen?_setCell, World.frozen?_setCell, World.frozen?_setCell, World.frozen?_setCell, World.frozen?_setCell, World.frozen?_setCell]; exact Lib.frozen_of_heap h 10), (by simp [World.setCell, Array.getElem?_modify, h]), ((((((((((((Turn.refl (fun j => j = b) w).setCell (p := ⟨b, 0, none⟩) (fun _ => rfl) _).setCell (p := ⟨b, 1, none⟩) (fun _ => rfl) _).setCell (p := ⟨b, 2, none⟩) (fun _ => rfl) _).setCell (p := ⟨b, 3, none⟩) (fun _ => rfl) _).setCell (p := ⟨b, 4, none⟩) (fun _ => rfl) _).setCell (p := ⟨b, 5, none⟩) (fun _ => rfl) _).setCell (p := ⟨b, 6, none⟩) (fun _ => rfl) _).setCell (p := ⟨b, 7, none⟩) (fun _ => rfl) _).setCell (p := ⟨b, 8, none⟩) (fun _ => rfl) _).setCell (p := ⟨b, 9, none⟩) (fun _ => rfl) _).setCell (p := ⟨b, 10, none⟩) (fun _ => rfl) _)⟩
theorem St.put' {b3 B : Nat} {K : World → Prop} {cs cs' : Array Value} {V : World} (h : St b3 B K cs V) (i : Nat) (v : Value) (e : cs.setIfInBounds i v = cs') : St b3 B K cs' (V.setCell ⟨b3, i, none⟩ v) := e ▸ h.put i v
theorem St.add' {b3 B : Nat} {K J : World → Prop} {cs : Array Value} {V : World} (h : St b3 B K cs V) (hJ : Stab b3 V.heap.size J) (j : J V) {C : World → Prop} (hC : ∀ W, K W → C W) : ∃ K' : World → Prop, (∀ W, K' W → K W ∧ J W) ∧ (∀ W, K' W → C W) ∧ St b3 V.heap.size K' cs V := ⟨fun V => K V ∧ J V, fun _ q => q, fun W q => hC W q.1, h.add hJ j⟩
theorem St.grow {b3 B : Nat} {K : World → Prop} {cs : Array Value} {V V' : World} {T : Nat → Prop} (h : St b3 B K cs V) (t : Turn T V V') (hT : ∀ j, T j → B ≤ j) : St b3 B K cs V' := h.turn (t.mono (fun j _ q => hT j q))
theorem kept_q {b3 B g c : Nat} {xs : List K2} {w W : World} (r : Q.RowI B (some ⟨g, 0, none⟩) c xs w) (t : Turn (fun j => j = b3) w W) (hne : g ≠ b3) : Q.Ints (some ⟨g, 0, none⟩) xs W :=
  stab_q (B := w.heap.size) (r.lt g ⟨_, rfl, rfl⟩).2 hne w W r.ints (t.mono (fun j _ q => .inl q))
theorem kept_t {b3 B g c : Nat} {xs : List (ByteArray × Nat)} {w W : World} (r : T.RowI B (some ⟨g, 0, none⟩) c xs w) (t : Turn (fun j => j = b3) w W) (hne : g ≠ b3) : Subs (some ⟨g, 0, none⟩) xs W :=
  stab_t (B := w.heap.size) (r.lt g ⟨_, rfl, rfl⟩).2 hne w W r.subs (t.mono (fun j _ q => .inl q))
theorem kept_x {b3 B g c : Nat} {xs : List X.K3} {w W : World} (r : X.RowI B (some ⟨g, 0, none⟩) c xs w) (t : Turn (fun j => j = b3) w W) (hne : g ≠ b3) : X.Ints (some ⟨g, 0, none⟩) xs W :=
  stab_x (B := w.heap.size) (r.lt g ⟨_, rfl, rfl⟩).2 hne w W r.ints (t.mono (fun j _ q => .inl q))
theorem set_turn (b i : Nat) (v : Value) (w : World) : Turn (fun j => j = b) w (w.setCell ⟨b, i, none⟩ v) := (Turn.refl (fun j => j = b) w).setCell (p := ⟨b, i, none⟩) (fun _ => rfl) v
theorem size_set (b i : Nat) (v : Value) (w : World) : (w.setCell ⟨b, i, none⟩ v).heap.size = w.heap.size := by simp [World.setCell]
/-- a row was laid elsewhere, and its slice was written into the block -/
theorem St.pairs {b3 B : Nat} {K C : World → Prop} {cs cs' : Array Value} {V w1 : World} {g c : Nat} {xs : List K2} {v : Value} {i : Nat} (h : St b3 B K cs V) (hC : ∀ W, K W → C W) (r : Q.RowI V.heap.size (some ⟨g, 0, none⟩) c xs w1) (t : Below V.heap.size V w1) (e : cs.setIfInBounds i v = cs') :
    ∃ K' : World → Prop, (∀ W, K' W → K W ∧ Q.Ints (some ⟨g, 0, none⟩) xs W) ∧ (∀ W, K' W → C W) ∧ St b3 (w1.setCell ⟨b3, i, none⟩ v).heap.size K' cs' (w1.setCell ⟨b3, i, none⟩ v) := by
  have hg := r.lt g ⟨_, rfl, rfl⟩
  have hb := h.hb
  have hB := h.hB
  exact ((h.below t).put' i v e).add' (stab_q (by rw [size_set]; exact hg.2) (by omega)) (kept_q r (set_turn b3 i v w1) (by omega)) hC
def Stay (p : Prop) : Prop := p
theorem stay_app {P : Program} {ops : Array Oper} {rest : List Oper} {o : Oper} {a : Act} {Q : Exit → Act → World → Prop} {w : World} (s x : Operand) (ts : Array TypeId) (ho : o.op = .call { callee := .builtin .append, args := #[s, x], argTypes := ts }) (h : Stay (wpList P ops Q (o :: rest) a w)) : wpList P ops Q (o :: rest) a w := h
end U
end Go.Proofs.Ytollaamlnddhcaa
