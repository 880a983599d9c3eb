import Derived.Test.YtjhnlmedmpcgoaaFrame
import Derived.Test.YtjhnlmedmpcgoaaIns
set_option linter.unusedVariables false
set_option linter.unusedSimpArgs false
namespace Go.Proofs.Ytjhnlmedmpcgoaa
namespace Q
/-- a slice of acts that came in -/
def As (w : World) (a : Option Addr) (ss : List (Int × Int)) : Prop := ss = [] ∨ ∃ b off, a = some ⟨b, off, none⟩ ∧ b < w.heap.size ∧ ∀ j, j < ss.length → w.cell? ⟨b, off + j * 2, none⟩ = some (.int .i64 (ss.getD j (0, 0)).1) ∧ w.cell? ⟨b, off + j * 2 + 1, none⟩ = some (.int .i64 (ss.getD j (0, 0)).2)
end Q
namespace InA
open Go.ChangeShapes Go.WideShapes Go.ChangeAt Go.RowKit
theorem fields50 : ∃ f0 f1 : Field, Try.prog.underlying 50 = some (.struct #[f0, f1]) ∧ (f0.offset = 0 ∧ f1.offset = 1) ∧ (f0.type = 3 ∧ f1.type = 3) := ⟨_, _, Try.underlying50, ⟨rfl, rfl⟩, ⟨rfl, rfl⟩⟩
theorem cells3 : Try.prog.cellsOf 3 = 1 := by kernel_rfl
theorem cells50 : Try.prog.cellsOf 50 = 2 := by kernel_rfl
theorem bytes50 : Try.prog.bytesOf 50 = 16 := by kernel_rfl
theorem add_off (b off n : Nat) : (⟨b, off, none⟩ : Addr).add n = ⟨b, off + n, none⟩ := by simp [Addr.add]
set_option maxRecDepth 100000 in
theorem dec50 {H : Type} {enc : TypeId × Value → H} {W : World} (base : Nat) (spare : Nat → Bool) (held : Bool) (n : Nat) (cs : List Value) (x : DataW H × List MemPlace) (hl : cs.length = 2) (h : DataW.trod enc Try.prog W base spare held n 50 cs = some x) : ∃ q : Int × Int, cs = [.int .i64 q.1, .int .i64 q.2] := by
  obtain ⟨f0, f1, he, ⟨o0, o1⟩, ⟨t0, t1⟩⟩ := fields50
  obtain ⟨xs, k, hk, hxy, _, hxl, hff⟩ := DataW.trod_struct he h
  match xs, hxl, cs, hl with
  | [y0, y1], _, [v0, v1], _ =>
    have g0 := hff 0 f0 rfl
    have g1 := hff 1 f1 rfl
    simp [o0, o1, t0, t1, cells3] at g0 g1
    obtain ⟨n0, hv0, _, _⟩ := DataW.trod_int Try.underlying3 g0
    obtain ⟨n1, hv1, _, _⟩ := DataW.trod_int Try.underlying3 g1
    simp at hv0 hv1
    subst hv0 hv1
    exact ⟨⟨n0, n1⟩, rfl⟩
set_option maxRecDepth 100000 in
/-- a slice of acts that came in -/
theorem acts_in {H : Type} {enc : TypeId × Value → H} {W : World} {a : Option Addr} {len cap : Nat} {d : DataW H} {ps : List MemPlace} {base : Nat} {spare : Nat → Bool} {held : Bool}
    (h : DataW.Trod enc Try.prog W base spare held 36 (.slice a len cap) d ps) : ∃ ss : List (Int × Int), ss.length = len ∧ Q.As W a ss ∧ (len = 0 ∨ ∃ el sp, d = .slice el sp ∧ len ≤ el.length) := by
  obtain ⟨fuel, hf⟩ := h
  rcases DataW.trod_slice Try.underlying36 hf with ⟨hcs, _⟩ | ⟨y, l, c, elems, rest, m, _, hcs, hx, hb', hl, hm, hel, hi, _, _⟩
  · simp [Value.cells] at hcs
    obtain ⟨rfl, rfl, rfl⟩ := hcs
    exact ⟨[], rfl, .inl rfl, .inl rfl⟩
  · simp [Value.cells] at hcs
    obtain ⟨rfl, rfl, rfl⟩ := hcs
    by_cases hz : len = 0
    · subst hz
      exact ⟨[], rfl, .inl rfl, .inl rfl⟩
    have each : ∀ i, i < len → ∃ q : Int × Int, W.cell? ((y.add (i * 2)).add 0) = some (.int .i64 q.1) ∧ W.cell? ((y.add (i * 2)).add 1) = some (.int .i64 q.2) := by
      intro i hi'
      have hh := hi i hi'
      have hie : i < elems.length := by omega
      rw [List.getElem?_eq_getElem hie, Option.bind_eq_some_iff, cells50] at hh
      obtain ⟨cs', h1, h2⟩ := hh
      obtain ⟨_, hlen, hcell⟩ := World.cells?_some h1
      obtain ⟨q, rfl⟩ := dec50 _ _ _ _ cs' _ hlen h2
      exact ⟨q, (hcell 0 (by omega)).trans rfl, (hcell 1 (by omega)).trans rfl⟩
    obtain ⟨op, hop⟩ := Go.Deep.choose_lt each
    have hc0 : W.cell? ((y.add (0 * 2)).add 0) = some (.int .i64 (op 0).1) := (hop 0 (by omega)).1
    obtain ⟨b, off, spot⟩ := y
    have hspot : spot = none := by simpa [Addr.add] using World.cell?_spot hc0
    subst hspot
    have hbl : b < W.heap.size := World.block_lt_of_cell? W _ (by simpa [Addr.add] using hc0)
    refine ⟨(List.range len).map op, by simp, .inr ⟨b, off, rfl, hbl, fun j hj => ?_⟩, .inr ⟨elems.map (·.1), rest.map (·.1), (by simpa using congrArg Prod.fst hx), by simp; omega⟩⟩
    have hj' : j < len := by simpa using hj
    have := hop j hj'
    rw [add_off, add_off, add_off] at this
    have e : ((List.range len).map op).getD j (0, 0) = op j := by simp [List.getD, hj']
    rw [e]
    exact ⟨by simpa using this.1, this.2⟩
end InA
end Go.Proofs.Ytjhnlmedmpcgoaa
