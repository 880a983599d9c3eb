import Derived.Test.YtdhdcpppilacmaaIn
set_option linter.unusedVariables false
set_option linter.unusedSimpArgs false
namespace Go.Proofs.Ytdhdcpppilacmaa
open Go.RowKit
namespace K
open M
theorem start_in {H : Type} {enc : TypeId × Value → H} {W : World} {base base' : Nat} {spare : Nat → Bool} {held : Bool} {v : Value} {d : DataW H} {p : List MemPlace} (hv : Value.okWide Try.prog W .any base' 33 v) (h : DataW.Trod enc Try.prog W base spare held 33 v d p) : ∃ (r : Int) (f : Bool) (t : List UInt8), v = .agg #[.int .i64 r, .bool f, .string (sb t)] := by
  obtain ⟨f0, f1, f2, he, ⟨o0, o1, o2⟩, ⟨t0, t1, t2⟩⟩ := fields33
  obtain ⟨cs, rfl, hsz⟩ := Go.WideShapes.okWide_struct he hv
  obtain ⟨fuel, hf⟩ := h
  obtain ⟨q, hq, _⟩ := dec33 _ cs.toList _ (by rw [Array.length_toList, hsz, cells33]) (by simpa [Value.cells] using hf)
  refine ⟨q.r, q.f, q.t, ?_⟩
  have : cs = q.arr := by rw [← Array.toArray_toList (xs := cs), hq]
  rw [this]; rfl
end K
end Go.Proofs.Ytdhdcpppilacmaa
