import Derived.Test.YtihdagehenmolaaApW
import Derived.Lib.SmallJoins
set_option linter.unusedVariables false
set_option linter.unusedSimpArgs false
namespace Go.Proofs.Ytihdagehenmolaa
open Go.RowKit
namespace J
open M K
def I64 (z : Int) : Prop := -9223372036854775808 ≤ z ∧ z ≤ 9223372036854775807
theorem cells3 : Try.prog.cellsOf 3 = 1 := by kernel_rfl
theorem cells9 : Try.prog.cellsOf 9 = 1 := by kernel_rfl
theorem cells24 : Try.prog.cellsOf 24 = 2 := by kernel_rfl
theorem bytes24 : Try.prog.bytesOf 24 = 24 := by kernel_rfl
theorem fields24 : ∃ f0 f1 : Field, Try.prog.underlying 24 = some (.struct #[f0, f1]) ∧ (f0.offset = 0 ∧ f1.offset = 1) ∧ (f0.type = 3 ∧ f1.type = 9) := ⟨_, _, Try.underlying24, ⟨rfl, rfl⟩, ⟨rfl, rfl⟩⟩
set_option maxRecDepth 100000 in
theorem dec24 {H : Type} {enc : TypeId × Value → H} {W : World} {base : Nat} {spare : Nat → Bool} {held : Bool} (n : Nat) (cs : List Value) (x : DataW H × List MemPlace) (hl : cs.length = 2) (h : DataW.trod enc Try.prog W base spare held n 24 cs = some x) : ∃ q : En, cs = q.arr.toList ∧ I64 q.v := by
  obtain ⟨f0, f1, he, ⟨o0, o1⟩, ⟨t0, t1⟩⟩ := fields24
  obtain ⟨xs, k, hk, hxy, _, hxl, hff⟩ := DataW.trod_struct he h
  match xs, hxl, cs, hl with
  | [y0, y1], _, [v0, v1], _ =>
    have g0 := hff 0 f0 rfl
    have g1 := hff 1 f1 rfl
    simp [o0, o1, t0, t1, cells3, cells9] at g0 g1
    obtain ⟨n0, hv0, _, w0⟩ := DataW.trod_int Try.underlying3 g0
    obtain ⟨n1, hv1, _, w1⟩ := DataW.trod_string Try.underlying9 g1
    simp only [Lit.wf, Bool.and_eq_true, decide_eq_true_eq] at w0
    simp at hv0 hv1
    subst hv0 hv1
    exact ⟨⟨n0, n1.data.toList⟩, by unfold En.arr; rw [sb_self], w0⟩
theorem entry_in {H : Type} {enc : TypeId × Value → H} {W : World} {base base' : Nat} {spare : Nat → Bool} {held : Bool} {v : Value} {d : DataW H} {p : List MemPlace} (hv : Value.okWide Try.prog W .any base' 24 v) (h : DataW.Trod enc Try.prog W base spare held 24 v d p) : ∃ e : En, v = .agg #[.int .i64 e.v, .string (sb e.t)] ∧ I64 e.v := by
  obtain ⟨f0, f1, he, ⟨o0, o1⟩, ⟨t0, t1⟩⟩ := fields24
  obtain ⟨cs, rfl, hsz⟩ := Go.WideShapes.okWide_struct he hv
  obtain ⟨fuel, hf⟩ := h
  obtain ⟨q, hq, hI⟩ := dec24 _ cs.toList _ (by rw [Array.length_toList, hsz, cells24]) (by simpa [Value.cells] using hf)
  refine ⟨q, ?_, hI⟩
  have : cs = q.arr := by rw [← Array.toArray_toList (xs := cs), hq]
  rw [this]; rfl
end J
end Go.Proofs.Ytihdagehenmolaa
