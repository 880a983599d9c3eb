import Derived.Test.YtmgiebbcnbbldaaTurn
import Derived.Test.YtmgiebbcnbbldaaRows
import Derived.WalkKit
import Derived.WalkLawsBesides
import Derived.WalkSpells
import Derived.Outline
import Derived.BigQuiet
import Derived.Deep.QuietTactic
import Derived.OwnWalk
import Derived.Deep.AppendLies
import Derived.Deep.RegionLaw
import Derived.Laws.StructEq
set_option linter.unusedVariables false
set_option linter.unusedSimpArgs false
namespace Go.Proofs.Ytmgiebbcnbbldaa
open Go.RowKit
theorem hide' {p : Prop} (h : p) : Hid p := h
theorem lt_of_heap {w : World} {b : Nat} {o : Obj} (h : w.heap[b]? = some o) : b < w.heap.size := (Array.getElem?_eq_some_iff.1 h).1
theorem heap_alloc_new (w : World) (o : Obj) : (w.alloc o).heap[w.heap.size]? = some o := by show (w.heap.push o)[w.heap.size]? = some o; simp
theorem turn_below {S : Nat → Prop} {w w' : World} (b : Below w.heap.size w w') : Turn S w w' := ⟨b.os, b.tape, b.output, b.size, fun k hk _ => b.block k hk⟩
theorem cells_ne {w : World} {i j : Nat} {c c' : Array Value} {t t' : Nat} {r r' : Nat × Nat} (h : w.heap[i]? = some (.cells c t r)) (h' : w.heap[j]? = some (.cells c' t' r')) (n : t ≠ t') : i ≠ j := by
  intro e
  subst e
  rw [h] at h'
  cases h'
  exact n rfl
theorem info_parts {P : Program} {e : TypeId} {z : Option Value} {m bytes : Nat} (h : (P.info? e).map (fun i => (i.zero, i.size, i.bytes)) = some (z, m, bytes)) : ∃ i, P.info? e = some i ∧ i.zero = z ∧ i.size = m ∧ i.bytes = bytes := by
  cases hi : P.info? e with
  | none => rw [hi] at h; cases h
  | some i =>
    rw [hi] at h
    simp only [Option.map_some, Option.some.injEq, Prod.mk.injEq] at h
    exact ⟨i, rfl, h.1, h.2.1, h.2.2⟩
theorem set_block {w : World} {b off : Nat} {cs : Array Value} {t : TypeId} {r : Nat × Nat} {v : Value} (h : w.heap[b]? = some (.cells cs t r)) : (w.setCell ⟨b, off, none⟩ v).heap[b]? = some (.cells (cs.setIfInBounds off v) t r) := by
  simp [World.setCell, Array.getElem?_modify, h]
theorem turn_b (b off : Nat) (v : Value) (w : World) : Turn (fun j => j = b) w (w.setCell ⟨b, off, none⟩ v) := (Turn.refl (fun k => k = b) w).setCell (p := ⟨b, off, none⟩) (fun _ => rfl) _
theorem below_drewN (w : World) (n : Nat) : Below w.heap.size w (w.drewN n) := ⟨rfl, rfl, rfl, Nat.le_refl _, fun _ _ => rfl⟩
theorem msr' {k n : Nat} (h : k < n) (i : Int) (e : i = (k : Int) + 1) : n - (intOf (.int .i64 i)).toNat < n - (intOf (.int .i64 (k : Int))).toNat := by
  rw [e]
  show n - ((k : Int) + 1).toNat < n - (k : Int).toNat
  omega
theorem wsucN (k : Nat) (h : k < 4611686018427387904) : wrap64 ((k : Int) + 1) = ((k + 1 : Nat) : Int) := by unfold wrap64; omega
namespace C
/-- a row of cells, told by its places -/
def tab (n : Nat) (g : Nat → Value) : Array Value := ((List.range n).map g).toArray
theorem tab_size (n : Nat) (g : Nat → Value) : (tab n g).size = n := by simp [tab]
theorem tab_at {n : Nat} {g : Nat → Value} {i : Nat} (h : i < n) : (tab n g)[i]? = some (g i) := by
  simp [tab, List.getElem?_range h]
theorem tab_congr {n : Nat} {g g' : Nat → Value} (h : ∀ i, i < n → g i = g' i) : tab n g = tab n g' := by
  unfold tab
  congr 1
  exact List.map_congr_left (fun i hi => h i (by simpa using hi))
theorem tab_set {n : Nat} {g : Nat → Value} {k : Nat} {v : Value} {g' : Nat → Value} (h : ∀ i, i < n → g' i = if i = k then v else g i) : (tab n g).setIfInBounds k v = tab n g' := by
  apply Array.ext_getElem?
  intro i
  rw [Array.getElem?_setIfInBounds, tab_size]
  by_cases hi : i < n
  · rw [tab_at hi, tab_at hi, h i hi]
    by_cases e : k = i
    · subst e; simp [hi]
    · rw [if_neg e, if_neg (fun q => e q.symm)]
  · have e1 : (tab n g)[i]? = none := Array.getElem?_eq_none (by rw [tab_size]; omega)
    have e2 : (tab n g')[i]? = none := Array.getElem?_eq_none (by rw [tab_size]; omega)
    rw [e1, e2]
    by_cases e : k = i
    · rw [if_pos e, if_neg (by omega)]
    · rw [if_neg e]
def fup {α : Type} (f : Nat → α) (k : Nat) (v : α) : Nat → α := fun j => if j = k then v else f j
theorem fup_self {α : Type} (f : Nat → α) (k : Nat) (v : α) : fup f k v k = v := if_pos rfl
theorem fup_ne {α : Type} (f : Nat → α) {k j : Nat} (v : α) (h : j ≠ k) : fup f k v j = f j := if_neg h
end C
end Go.Proofs.Ytmgiebbcnbbldaa
