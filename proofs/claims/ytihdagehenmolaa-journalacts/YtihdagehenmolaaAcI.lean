import Derived.Test.YtihdagehenmolaaTwK
import Derived.Test.YtihdagehenmolaaEnI
set_option linter.unusedVariables false
set_option linter.unusedSimpArgs false
namespace Go.Proofs.Ytihdagehenmolaa
open Go.RowKit
namespace J
open M K
theorem cells47 : Try.prog.cellsOf 47 = 3 := by kernel_rfl
theorem bytes47 : Try.prog.bytesOf 47 = 32 := by kernel_rfl
theorem cells37 : Try.prog.cellsOf 37 = 2 := by kernel_rfl
theorem fields47 : ∃ f0 f1 : Field, Try.prog.underlying 47 = some (.struct #[f0, f1]) ∧ (f0.offset = 0 ∧ f1.offset = 1) ∧ (f0.type = 3 ∧ f1.type = 24) := ⟨_, _, Try.underlying47, ⟨rfl, rfl⟩, ⟨rfl, rfl⟩⟩
theorem fields37 : ∃ f0 f1 : Field, Try.prog.underlying 37 = some (.struct #[f0, f1]) ∧ (f0.offset = 0 ∧ f1.offset = 1) ∧ (f0.type = 9 ∧ f1.type = 3) := ⟨_, _, Try.underlying37, ⟨rfl, rfl⟩, ⟨rfl, rfl⟩⟩
set_option maxRecDepth 100000 in
theorem dec47 {H : Type} {enc : TypeId × Value → H} {W : World} {base : Nat} {spare : Nat → Bool} {held : Bool} (n : Nat) (cs : List Value) (x : DataW H × List MemPlace) (hl : cs.length = 3) (h : DataW.trod enc Try.prog W base spare held n 47 cs = some x) : ∃ q : Ac, cs = q.arr.toList ∧ I64 q.k := by
  obtain ⟨f0, f1, he, ⟨o0, o1⟩, ⟨t0, t1⟩⟩ := fields47
  obtain ⟨xs, k, hk, hxy, _, hxl, hff⟩ := DataW.trod_struct he h
  match xs, hxl, cs, hl with
  | [y0, y1], _, [v0, v1, v2], _ =>
    have g0 := hff 0 f0 rfl
    have g1 := hff 1 f1 rfl
    simp [o0, o1, t0, t1, cells3, cells24] at g0 g1
    obtain ⟨n0, hv0, _, w0⟩ := DataW.trod_int Try.underlying3 g0
    obtain ⟨q, hq, _⟩ := dec24 _ [v1, v2] _ rfl g1
    simp only [Lit.wf, Bool.and_eq_true, decide_eq_true_eq] at w0
    simp at hv0
    subst hv0
    refine ⟨⟨n0, q⟩, ?_, w0⟩
    unfold En.arr at hq
    simp at hq
    unfold Ac.arr
    simp [hq]
set_option maxRecDepth 100000 in
theorem start_in {H : Type} {enc : TypeId × Value → H} {W : World} {base base' : Nat} {spare : Nat → Bool} {held : Bool} {v : Value} {d : DataW H} {p : List MemPlace} (hv : Value.okWide Try.prog W .any base' 37 v) (h : DataW.Trod enc Try.prog W base spare held 37 v d p) : ∃ (t : List UInt8) (r : Int), v = .agg #[.string (sb t), .int .i64 r] := by
  obtain ⟨f0, f1, he, ⟨o0, o1⟩, ⟨t0, t1⟩⟩ := fields37
  obtain ⟨cs, rfl, hsz⟩ := Go.WideShapes.okWide_struct he hv
  obtain ⟨fuel, hf⟩ := h
  have hl : cs.toList.length = 2 := by rw [Array.length_toList, hsz, cells37]
  have hf' : DataW.trod enc Try.prog W base spare held fuel 37 cs.toList = some (d, p) := by simpa [Value.cells] using hf
  obtain ⟨xs, k, hk, hxy, _, hxl, hff⟩ := DataW.trod_struct he hf'
  obtain ⟨ls, hls⟩ : ∃ ls, ls = cs.toList := ⟨_, rfl⟩
  rw [← hls] at hl hff
  match xs, hxl, ls, hl with
  | [y0, y1], _, [v0, v1], _ =>
    have g0 := hff 0 f0 rfl
    have g1 := hff 1 f1 rfl
    simp [o0, o1, t0, t1, cells3, cells9] at g0 g1
    obtain ⟨n0, hv0, _, w0⟩ := DataW.trod_string Try.underlying9 g0
    obtain ⟨n1, hv1, _, w1⟩ := DataW.trod_int Try.underlying3 g1
    simp at hv0 hv1
    subst hv0 hv1
    refine ⟨n0.data.toList, n1, ?_⟩
    have : cs = #[.string n0, .int .i64 n1] := by rw [← Array.toArray_toList (xs := cs), ← hls]
    rw [this, sb_self]
end J
end Go.Proofs.Ytihdagehenmolaa
