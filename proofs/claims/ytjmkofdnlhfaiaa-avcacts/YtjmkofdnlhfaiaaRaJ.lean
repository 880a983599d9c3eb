import Derived.Test.YtjmkofdnlhfaiaaRaI
import Derived.Test.YtjmkofdnlhfaiaaFrame
set_option linter.unusedVariables false
set_option linter.unusedSimpArgs false
namespace Go.Proofs.Ytjmkofdnlhfaiaa
namespace Ina
open Go.ChangeShapes Go.WideShapes Go.ChangeAt Go.RowKit
theorem fields37 : ∃ f0 f1 : Field, Try.prog.underlying 37 = some (.struct #[f0, f1]) ∧ (f0.offset = 0 ∧ f1.offset = 1) ∧ (f0.type = 3 ∧ f1.type = 3) := ⟨_, _, Try.underlying37, ⟨rfl, rfl⟩, ⟨rfl, rfl⟩⟩
theorem cells37 : Try.prog.cellsOf 37 = 2 := by kernel_rfl
set_option maxRecDepth 100000 in
theorem dec37 {H : Type} {enc : TypeId × Value → H} {W : World} (base : Nat) (spare : Nat → Bool) (held : Bool) (n : Nat) (cs : List Value) (x : DataW H × List MemPlace) (hl : cs.length = 2) (h : DataW.trod enc Try.prog W base spare held n 37 cs = some x) : ∃ p q : Int, cs = [.int .i64 p, .int .i64 q] := by
  obtain ⟨f0, f1, he, ⟨o0, o1⟩, ⟨t0, t1⟩⟩ := fields37
  obtain ⟨xs, k, hk, hxy, _, hxl, hff⟩ := DataW.trod_struct he h
  match xs, hxl, cs, hl with
  | [y0, y1], _, [v0, v1], _ =>
    have g0 := hff 0 f0 rfl
    have g1 := hff 1 f1 rfl
    simp [o0, o1, t0, t1, cells3] at g0 g1
    obtain ⟨n0, hv0, _, _⟩ := DataW.trod_int Try.underlying3 g0
    obtain ⟨n1, hv1, _, _⟩ := DataW.trod_int Try.underlying3 g1
    simp at hv0 hv1
    subst hv0 hv1
    exact ⟨n0, n1, rfl⟩
/-- a shape that came in -/
theorem shape_in {H : Type} {enc : TypeId × Value → H} {W : World} {cs : Array Value} {d : DataW H} {ps : List MemPlace} {base : Nat} {spare : Nat → Bool} {held : Bool} (hl : cs.size = Try.prog.cellsOf 37)
    (h : DataW.Trod enc Try.prog W base spare held 37 (.agg cs) d ps) : ∃ p q : Int, cs = #[.int .i64 p, .int .i64 q] := by
  obtain ⟨fuel, hf⟩ := h
  rw [cells37] at hl
  obtain ⟨p, q, h1⟩ := dec37 _ _ _ _ cs.toList _ (by simpa using hl) (by simpa [Value.cells] using hf)
  exact ⟨p, q, by rw [← Array.toList_inj, h1]⟩
end Ina
end Go.Proofs.Ytjmkofdnlhfaiaa
