import Derived.Test.YtfeehnfpfheojaaTurn
import Derived.Test.YtfeehnfpfheojaaRows
import Derived.WalkKit
import Derived.WalkLawsBesides
import Derived.WalkSpells
import Derived.Outline
import Derived.BigQuiet
import Derived.Deep.QuietTactic
import Derived.OwnWalk
import Derived.Deep.RegionHeld3
import Derived.Deep.AppendLies
import Derived.Deep.RegionLaw
set_option linter.unusedVariables false
set_option linter.unusedSimpArgs false
namespace Go.Proofs.Ytfeehnfpfheojaa
open Go.RowKit
theorem hide' {p : Prop} (h : p) : Hid p := h
theorem ret_bool {a b : Bool} (h : a = b) : Ending.returned (.bool a) = .returned (.bool b) := by rw [h]
theorem ret_int {k : IntKind} {a b : Int} (h : a = b) : Ending.returned (.int k a) = .returned (.int k b) := by rw [h]
theorem lt_of_heap {w : World} {b : Nat} {o : Obj} (h : w.heap[b]? = some o) : b < w.heap.size := (Array.getElem?_eq_some_iff.1 h).1
theorem heap_alloc_new (w : World) (o : Obj) : (w.alloc o).heap[w.heap.size]? = some o := by show (w.heap.push o)[w.heap.size]? = some o; simp
theorem turn_below {S : Nat → Prop} {w w' : World} (b : Below w.heap.size w w') : Turn S w w' := ⟨b.os, b.tape, b.output, b.size, fun k hk _ => b.block k hk⟩
theorem cells_ne {w : World} {i j : Nat} {c c' : Array Value} {t t' : Nat} {r r' : Nat × Nat} (h : w.heap[i]? = some (.cells c t r)) (h' : w.heap[j]? = some (.cells c' t' r')) (n : t ≠ t') : i ≠ j := by
  intro e
  subst e
  rw [h] at h'
  cases h'
  exact n rfl
theorem info_parts {P : Program} {e : TypeId} {z : Option Value} {m bytes : Nat} (h : (P.info? e).map (fun i => (i.zero, i.size, i.bytes)) = some (z, m, bytes)) : ∃ i, P.info? e = some i ∧ i.zero = z ∧ i.size = m ∧ i.bytes = bytes := by
  cases hi : P.info? e with
  | none => rw [hi] at h; cases h
  | some i =>
    rw [hi] at h
    simp only [Option.map_some, Option.some.injEq, Prod.mk.injEq] at h
    exact ⟨i, rfl, h.1, h.2.1, h.2.2⟩
namespace M
def P : Int := -4611686018427387904
/-- an entry of the trace -/
structure Ac where
  kind : Int
  addr : Int
  value : Int
  old : Int
  good : Bool
def Ac.cells (x : Ac) : List Value := [.int .i8 x.kind, .int .i64 x.addr, .int .i64 x.value, .int .i64 x.old, .bool x.good]
def words (ws : List Int) : Array Value := (ws.map fun v => Value.int .i64 v).toArray
theorem words_at (ws : List Int) (i : Nat) (h : i < ws.length) : (words ws)[i]? = some (.int .i64 (ws.getD i 0)) := by
  simp [words, List.getD, h]
theorem words_set (ws : List Int) (i : Nat) (v : Int) : (words ws).setIfInBounds i (.int .i64 v) = words (ws.set i v) := by
  apply Array.ext_getElem?
  intro k
  simp [words, Array.getElem?_setIfInBounds, List.getElem?_set]
def At (ao : Option Addr) (j : Nat) : Prop := ∃ a, ao = some a ∧ j = a.block
def Own (x g : Nat) (ao : Option Addr) (j : Nat) : Prop := j = x ∨ j = g ∨ At ao j
/-- BLOCK x IS A MEMORY: its words lie in block g, its trace in a row of its own -/
structure Me (B x g : Nat) (ws : List Int) (ao : Option Addr) (cap : Nat) (tr : List Ac) (bad : Nat) (w : World) : Prop where
  hx : w.heap[x]? = some (.cells #[.slice (some ⟨g, 0, none⟩) ws.length ws.length, .slice ao tr.length cap, .int .i64 (bad : Nat)] 137 (0, 0))
  hg : w.heap[g]? = some (.cells (words ws) 3 (0, 0))
  row : w.ownsRow B 152 5 (.slice ao tr.length cap) tr.length (tr.flatMap Ac.cells)
  lx : B ≤ x
  lg : B ≤ g
  pos : 0 < ws.length
  few : ws.length ≤ 65536
  nn : tr = [] → ao = none
variable {B x g : Nat} {ws : List Int} {ao : Option Addr} {cap : Nat} {tr : List Ac} {bad : Nat} {w w' : World}
theorem Me.ltx (h : Me B x g ws ao cap tr bad w) : x < w.heap.size := lt_of_heap h.hx
theorem Me.ltg (h : Me B x g ws ao cap tr bad w) : g < w.heap.size := lt_of_heap h.hg
theorem Me.ne (h : Me B x g ws ao cap tr bad w) : x ≠ g := cells_ne h.hx h.hg (by decide)
theorem Me.at (h : Me B x g ws ao cap tr bad w) {j : Nat} (hj : At ao j) : j ≠ x ∧ j ≠ g ∧ B ≤ j ∧ j < w.heap.size := by
  obtain ⟨a, rfl, rfl⟩ := hj
  rcases h.row.2 with ⟨hv, _⟩ | ⟨g', cap', cur, hv, hb, hg', _⟩
  · cases hv
  · simp only [Value.slice.injEq, Option.some.injEq] at hv
    obtain ⟨rfl, _, _⟩ := hv
    exact ⟨cells_ne hg' h.hx (by decide), cells_ne hg' h.hg (by decide), hb, lt_of_heap hg'⟩
theorem Me.own (h : Me B x g ws ao cap tr bad w) {j : Nat} (hj : Own x g ao j) : B ≤ j ∧ j < w.heap.size := by
  rcases hj with rfl | rfl | hj
  · exact ⟨h.lx, h.ltx⟩
  · exact ⟨h.lg, h.ltg⟩
  · exact (h.at hj).2.2
theorem Me.kept {S : Nat → Prop} (h : Me B x g ws ao cap tr bad w) (t : Turn S w w') (hn : ∀ j, Own x g ao j → ¬ S j) : Me B x g ws ao cap tr bad w' :=
  ⟨(t.block x h.ltx (hn x (.inl rfl))).trans h.hx, (t.block g h.ltg (hn g (.inr (.inl rfl)))).trans h.hg, t.row h.row (fun j hj => hn j (.inr (.inr (by cases ao with | none => cases hj | some a => exact ⟨a, rfl, by simpa [Value.ownBlock] using hj.symm⟩)))), h.lx, h.lg, h.pos, h.few, h.nn⟩
theorem Me.c0 (h : Me B x g ws ao cap tr bad w) : w.cell? ⟨x, 0, none⟩ = some (.slice (some ⟨g, 0, none⟩) ws.length ws.length) := by rw [Lib.cell_of_heap h.hx]; rfl
theorem Me.c1 (h : Me B x g ws ao cap tr bad w) : w.cell? ⟨x, 1, none⟩ = some (.slice ao tr.length cap) := by rw [Lib.cell_of_heap h.hx]; rfl
theorem Me.c2 (h : Me B x g ws ao cap tr bad w) : w.cell? ⟨x, 2, none⟩ = some (.int .i64 (bad : Nat)) := by rw [Lib.cell_of_heap h.hx]; rfl
theorem Me.fx (h : Me B x g ws ao cap tr bad w) (j : Nat) : w.frozen? ⟨x, j, none⟩ = false := Lib.frozen_of_heap h.hx j
theorem Me.cw (h : Me B x g ws ao cap tr bad w) (i : Nat) (hi : i < ws.length) : w.cell? ⟨g, i, none⟩ = some (.int .i64 (ws.getD i 0)) := by
  rw [Lib.cell_of_heap h.hg]; exact words_at ws i hi
theorem Me.fw (h : Me B x g ws ao cap tr bad w) (j : Nat) : w.frozen? ⟨g, j, none⟩ = false := Lib.frozen_of_heap h.hg j
theorem set_block {w : World} {b off : Nat} {cs : Array Value} {t : TypeId} {r : Nat × Nat} {v : Value} (h : w.heap[b]? = some (.cells cs t r)) : (w.setCell ⟨b, off, none⟩ v).heap[b]? = some (.cells (cs.setIfInBounds off v) t r) := by
  simp [World.setCell, Array.getElem?_modify, h]
theorem Me.put (h : Me B x g ws ao cap tr bad w) (i : Nat) (v : Int) : Me B x g (ws.set i v) ao cap tr bad (w.setCell ⟨g, i, none⟩ (.int .i64 v)) ∧ Turn (Own x g ao) w (w.setCell ⟨g, i, none⟩ (.int .i64 v)) := by
  have t1 : Turn (fun k => k = g) w (w.setCell ⟨g, i, none⟩ (.int .i64 v)) := (Turn.refl (fun k => k = g) w).setCell (p := ⟨g, i, none⟩) (fun _ => rfl) _
  refine ⟨⟨?_, ?_, ?_, h.lx, h.lg, by simpa using h.pos, by simpa using h.few, h.nn⟩, t1.mono (fun k _ e => .inr (.inl e))⟩
  · rw [List.length_set]; exact (t1.block x h.ltx h.ne).trans h.hx
  · rw [← words_set]; exact set_block h.hg
  · exact t1.row h.row (fun j hj e => (h.at (j := j) (by cases ao with | none => cases hj | some a => exact ⟨a, rfl, by simpa [Value.ownBlock] using hj.symm⟩)).2.1 e)
theorem Me.badly (h : Me B x g ws ao cap tr bad w) (b' : Nat) : Me B x g ws ao cap tr b' (w.setCell ⟨x, 2, none⟩ (.int .i64 (b' : Nat))) ∧ Turn (Own x g ao) w (w.setCell ⟨x, 2, none⟩ (.int .i64 (b' : Nat))) := by
  have t1 : Turn (fun k => k = x) w (w.setCell ⟨x, 2, none⟩ (.int .i64 (b' : Nat))) := (Turn.refl (fun k => k = x) w).setCell (p := ⟨x, 2, none⟩) (fun _ => rfl) _
  refine ⟨⟨?_, ?_, ?_, h.lx, h.lg, h.pos, h.few, h.nn⟩, t1.mono (fun k _ e => .inl e)⟩
  · exact set_block h.hx
  · exact (t1.block g h.ltg (fun e => h.ne e.symm)).trans h.hg
  · exact t1.row h.row (fun j hj e => (h.at (j := j) (by cases ao with | none => cases hj | some a => exact ⟨a, rfl, by simpa [Value.ownBlock] using hj.symm⟩)).1 e)
/-- what stands at an address -/
def std (ws : List Int) (a : Int) : Int := if 0 ≤ a ∧ a < (ws.length : Int) then ws.getD a.toNat 0 else 0
/-- the answer's number -/
def er (ws : List Int) (a : Int) : Int := if 0 ≤ a ∧ a < (ws.length : Int) then (if ws.getD a.toNat 0 = P then 141 else 0) else 140
/-- refused: one more -/
def bd (ws : List Int) (a : Int) : Nat := if er ws a = 0 then 0 else 1
def good (ws : List Int) (a : Int) : Bool := decide (er ws a = 0)
/-- the words behind a store -/
def put (ws : List Int) (a v : Int) : List Int := if er ws a = 0 then ws.set a.toNat v else ws
theorem bd_ok {ws : List Int} {a : Int} (h : er ws a = 0) : bd ws a = 0 := if_pos h
theorem bd_no {ws : List Int} {a : Int} (h : er ws a ≠ 0) : bd ws a = 1 := if_neg h
theorem bd_le (ws : List Int) (a : Int) : bd ws a ≤ 1 := by unfold bd; split <;> omega
theorem er_out {ws : List Int} {a : Int} (h : ¬ (0 ≤ a ∧ a < (ws.length : Int))) : er ws a = 140 ∧ std ws a = 0 := ⟨if_neg h, if_neg h⟩
theorem er_poi {ws : List Int} {k : Nat} (h : k < ws.length) (hp : ws.getD k 0 = P) : er ws k = 141 ∧ std ws k = P := by
  have q : 0 ≤ (k : Int) ∧ (k : Int) < (ws.length : Int) := by omega
  unfold er std
  rw [if_pos q, if_pos q, Int.toNat_natCast, hp, if_pos rfl]
  exact ⟨rfl, rfl⟩
theorem er_ok {ws : List Int} {k : Nat} (h : k < ws.length) (hp : ws.getD k 0 ≠ P) : er ws k = 0 ∧ std ws k = ws.getD k 0 := by
  have q : 0 ≤ (k : Int) ∧ (k : Int) < (ws.length : Int) := by omega
  unfold er std
  rw [if_pos q, if_pos q, Int.toNat_natCast, if_neg hp]
  exact ⟨rfl, rfl⟩
end M
end Go.Proofs.Ytfeehnfpfheojaa
