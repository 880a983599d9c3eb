import Derived.Test.YtihdagehenmolaaBas
import Derived.Test.YtihdagehenmolaaFrame
import Derived.Deep.Slices
import Derived.ChangeMaps
import Derived.Deep.CondSized
set_option linter.unusedVariables false
set_option linter.unusedSimpArgs false
namespace Go.Proofs.Ytihdagehenmolaa
open Go.RowKit
namespace M
/-- a row of things of m cells each -/
def Rw {α : Type} (m : Nat) (arr : α → Array Value) (w : World) (a : Option Addr) (ss : List α) : Prop := ss = [] ∨ ∃ b off, a = some ⟨b, off, none⟩ ∧ b < w.heap.size ∧ ∀ j x, ss[j]? = some x → ∀ r, r < m → w.cell? ⟨b, off + j * m + r, none⟩ = (arr x)[r]?
theorem Rw.below {α : Type} {m : Nat} {arr : α → Array Value} {w w' : World} {a : Option Addr} {ss : List α} (h : Rw m arr w a ss) (k : Below w.heap.size w w') : Rw m arr w' a ss := by
  rcases h with h | ⟨b, off, h1, h2, h3⟩
  · exact .inl h
  · exact .inr ⟨b, off, h1, Nat.lt_of_lt_of_le h2 k.size, fun j x hx r hr => (World.cell?_of_block (w := w) (k.block b h2)).trans (h3 j x hx r hr)⟩
end M
namespace Inm
open Go.ChangeShapes Go.WideShapes Go.ChangeAt Go.RowKit M
theorem add_off (b off n : Nat) : (⟨b, off, none⟩ : Addr).add n = ⟨b, off + n, none⟩ := by
  unfold Addr.add
  split <;> simp_all
theorem bulk_pos {H : Type} (d : DataW H) : 1 ≤ Rows.uptoBulk d := by
  cases d with
  | lit l => cases l <;> simp [Rows.uptoBulk]
  | _ => simp [Rows.uptoBulk]
theorem bulk_len {H : Type} : ∀ ds : List (DataW H), ds.length ≤ Rows.uptoBulkAll ds := by
  intro ds
  induction ds with
  | nil => simp
  | cons a r ih => have := bulk_pos a; simp [Rows.uptoBulkAll]; omega
theorem rows_in {α : Type} (q0 : α) {H : Type} {enc : TypeId × Value → H} {W : World} {a : Option Addr} {len cap : Nat} {d : DataW H} {ps : List MemPlace} {base : Nat} {spare : Nat → Bool} {held : Bool}
    {tS tE : TypeId} {m : Nat} (arr : α → Array Value) (P : α → Prop) (hm : 0 < m) (hu : Try.prog.underlying tS = some (.slice tE)) (hc : Try.prog.cellsOf tE = m) (ha : ∀ q, (arr q).size = m)
    (dec : ∀ (n : Nat) (cs : List Value) (x : DataW H × List MemPlace), cs.length = m → DataW.trod enc Try.prog W base spare held n tE cs = some x → ∃ q : α, cs = (arr q).toList ∧ P q)
    (h : DataW.Trod enc Try.prog W base spare held tS (.slice a len cap) d ps) : ∃ ss : List α, ss.length = len ∧ Rw m arr W a ss ∧ (∀ q ∈ ss, P q) ∧ (len = 0 ∨ ∃ el sp, d = .slice el sp ∧ el.length = len) ∧ len ≤ cap ∧ (a = none → cap = 0) := by
  obtain ⟨fuel, hf⟩ := h
  rcases DataW.trod_slice hu hf with ⟨hcs, _⟩ | ⟨y, l, c, elems, rest, n, _, hcs, hx, hb', hl, hmx, hel, hi, _, _⟩
  · simp [Value.cells] at hcs
    obtain ⟨rfl, rfl, rfl⟩ := hcs
    exact ⟨[], rfl, .inl rfl, fun q hq => by simp at hq, .inl rfl, Nat.le_refl _, fun _ => rfl⟩
  · simp [Value.cells] at hcs
    obtain ⟨rfl, rfl, rfl⟩ := hcs
    by_cases hz : len = 0
    · subst hz
      exact ⟨[], rfl, .inl rfl, fun q hq => by simp at hq, .inl rfl, Nat.zero_le _, fun q => by simp at q⟩
    have each : ∀ i, i < len → ∃ q : α, (∀ r, r < m → W.cell? ((y.add (i * m)).add r) = (arr q)[r]?) ∧ P q := by
      intro i hi'
      have hh := hi i hi'
      have hie : i < elems.length := by omega
      rw [List.getElem?_eq_getElem hie, Option.bind_eq_some_iff, hc] at hh
      obtain ⟨cs', h1, h2⟩ := hh
      obtain ⟨_, hlen, hcell⟩ := World.cells?_some h1
      obtain ⟨q, rfl, hP⟩ := dec _ cs' _ hlen h2
      refine ⟨q, fun r hr => ?_, hP⟩
      have := hcell r hr
      rw [this]
      simp
    haveI : Inhabited α := ⟨q0⟩
    obtain ⟨op, hop⟩ := Go.Deep.choose_lt each
    have hc0 := (hop 0 (by omega)).1 0 hm
    rw [Array.getElem?_eq_getElem (by rw [ha]; exact hm)] at hc0
    obtain ⟨b, off, spot⟩ := y
    have hspot : spot = none := by simpa [Addr.add] using World.cell?_spot hc0
    subst hspot
    have hbl : b < W.heap.size := World.block_lt_of_cell? W _ (by simpa [Addr.add] using hc0)
    have e1 : d = .slice (elems.map (·.1)) (rest.map (·.1)) := by simpa using congrArg Prod.fst hx
    refine ⟨(List.range len).map op, by simp, .inr ⟨b, off, rfl, hbl, fun j x hx r hr => ?_⟩, ?_, .inr ⟨_, _, e1, by simp; omega⟩, hl, fun q => by simp at q⟩
    · have hj' : j < len := by
        have := (List.getElem?_eq_some_iff.1 hx).1
        simpa using this
      rw [List.getElem?_map, List.getElem?_range hj'] at hx
      simp only [Option.map_some, Option.some.injEq] at hx
      subst hx
      have := (hop j hj').1 r hr
      rw [add_off, add_off] at this
      exact this
    · intro q hq
      obtain ⟨i, hi1, rfl⟩ := List.mem_map.1 hq
      exact (hop i (by simpa using hi1)).2
theorem bulk_slice {H : Type} {d : DataW H} {len M : Nat} (hx : len = 0 ∨ ∃ el sp, d = .slice el sp ∧ el.length = len) (hb : Rows.uptoBulk d ≤ M) : len ≤ M := by
  rcases hx with hz | ⟨el, sp, rfl, hel⟩
  · omega
  · simp only [Rows.uptoBulk] at hb
    have := bulk_len el
    omega
end Inm
end Go.Proofs.Ytihdagehenmolaa
