import Derived.Test.YtfeehnfpfheojaaFrame
import Derived.Test.YtfeehnfpfheojaaJD
import Derived.Deep.Slices
import Derived.ChangeMaps
set_option linter.unusedVariables false
set_option linter.unusedSimpArgs false
namespace Go.Proofs.Ytfeehnfpfheojaa
namespace Ins
open Go.ChangeShapes Go.WideShapes Go.ChangeAt Go.RowKit
theorem wf_le {n : Int} (h : (Lit.int .i64 n).wf = true) : -9223372036854775808 ≤ n ∧ n ≤ 9223372036854775807 := by
  simp [Lit.wf, IntKind.min, IntKind.max, IntKind.bits, IntKind.signed] at h
  omega
theorem add_off (b off n : Nat) : (⟨b, off, none⟩ : Addr).add n = ⟨b, off + n, none⟩ := by
  unfold Addr.add
  split <;> simp_all
theorem fields80 : ∃ f0 f1 f2 f3 : Field, Try.prog.underlying 80 = some (.struct #[f0, f1, f2, f3]) ∧ (f0.offset = 0 ∧ f1.offset = 1 ∧ f2.offset = 2 ∧ f3.offset = 3) ∧ (f0.type = 3 ∧ f1.type = 3 ∧ f2.type = 3 ∧ f3.type = 3) := ⟨_, _, _, _, Try.underlying80, ⟨rfl, rfl, rfl, rfl⟩, ⟨rfl, rfl, rfl, rfl⟩⟩
theorem cells3 : Try.prog.cellsOf 3 = 1 := by kernel_rfl
theorem cells80 : Try.prog.cellsOf 80 = 4 := by kernel_rfl
theorem bytes80 : Try.prog.bytesOf 80 = 32 := by kernel_rfl
set_option maxRecDepth 100000 in
theorem dec80 {H : Type} {enc : TypeId × Value → H} {W : World} (base : Nat) (spare : Nat → Bool) (held : Bool) (n : Nat) (cs : List Value) (x : DataW H × List MemPlace) (hl : cs.length = 4) (h : DataW.trod enc Try.prog W base spare held n 80 cs = some x) : ∃ q : Ar.Op4, cs = q.arr.toList ∧ q.ok := by
  obtain ⟨f0, f1, f2, f3, he, ⟨o0, o1, o2, o3⟩, ⟨t0, t1, t2, t3⟩⟩ := fields80
  obtain ⟨xs, k, hk, hxy, _, hxl, hff⟩ := DataW.trod_struct he h
  match xs, hxl, cs, hl with
  | [y0, y1, y2, y3], _, [v0, v1, v2, v3], _ =>
    have g0 := hff 0 f0 rfl
    have g1 := hff 1 f1 rfl
    have g2 := hff 2 f2 rfl
    have g3 := hff 3 f3 rfl
    simp [o0, o1, o2, o3, t0, t1, t2, t3, cells3] at g0 g1 g2 g3
    obtain ⟨n0, hv0, _, _⟩ := DataW.trod_int Try.underlying3 g0
    obtain ⟨n1, hv1, _, _⟩ := DataW.trod_int Try.underlying3 g1
    obtain ⟨n2, hv2, _, w2⟩ := DataW.trod_int Try.underlying3 g2
    obtain ⟨n3, hv3, _, _⟩ := DataW.trod_int Try.underlying3 g3
    simp at hv0 hv1 hv2 hv3
    subst hv0 hv1 hv2 hv3
    exact ⟨⟨n0, n1, n2, n3⟩, rfl, wf_le w2⟩
set_option maxRecDepth 100000 in
/-- a slice of calls that came in -/
theorem ops_in {H : Type} {enc : TypeId × Value → H} {W : World} {a : Option Addr} {len cap : Nat} {d : DataW H} {ps : List MemPlace} {base : Nat} {spare : Nat → Bool} {held : Bool}
    (h : DataW.Trod enc Try.prog W base spare held 62 (.slice a len cap) d ps) : ∃ ss : List Ar.Op4, ss.length = len ∧ Ar.Ops W a ss ∧ (∀ s ∈ ss, s.ok) ∧ (len = 0 ∨ ∃ el sp, d = .slice el sp ∧ len ≤ el.length) := by
  obtain ⟨fuel, hf⟩ := h
  rcases DataW.trod_slice Try.underlying62 hf with ⟨hcs, _⟩ | ⟨y, l, c, elems, rest, m, _, hcs, hx, hb, hl, hm, hel, hi, _, _⟩
  · simp [Value.cells] at hcs
    obtain ⟨rfl, rfl, rfl⟩ := hcs
    exact ⟨[], rfl, .inl rfl, (fun s hs => by cases hs), .inl rfl⟩
  · simp [Value.cells] at hcs
    obtain ⟨rfl, rfl, rfl⟩ := hcs
    by_cases hz : len = 0
    · subst hz
      exact ⟨[], rfl, .inl rfl, (fun s hs => by cases hs), .inl rfl⟩
    have each : ∀ i, i < len → ∃ q : Ar.Op4, (∀ r, r < 4 → W.cell? ((y.add (i * 4)).add r) = q.arr[r]?) ∧ q.ok := by
      intro i hi'
      have hh := hi i hi'
      have hie : i < elems.length := by omega
      rw [List.getElem?_eq_getElem hie, Option.bind_eq_some_iff, cells80] at hh
      obtain ⟨cs', h1, h2⟩ := hh
      obtain ⟨_, hlen, hcell⟩ := World.cells?_some h1
      obtain ⟨q, rfl, h4⟩ := dec80 _ _ _ _ cs' _ hlen h2
      refine ⟨q, fun r hr => ?_, h4⟩
      have := hcell r hr
      rw [this]
      simp
    haveI : Inhabited Ar.Op4 := ⟨⟨0, 0, 0, 0⟩⟩
    obtain ⟨op, hop⟩ := Go.Deep.choose_lt each
    have hc0 : W.cell? ((y.add (0 * 4)).add 0) = some (.int .i64 (op 0).kind) := ((hop 0 (by omega)).1 0 (by omega)).trans rfl
    obtain ⟨b, off, spot⟩ := y
    have hspot : spot = none := by simpa [Addr.add] using World.cell?_spot hc0
    subst hspot
    have hbl : b < W.heap.size := World.block_lt_of_cell? W _ (by simpa [Addr.add] using hc0)
    refine ⟨(List.range len).map op, by simp, .inr ⟨b, off, rfl, hbl, fun j o ho r hr => ?_⟩, fun s hs => ?_, .inr ⟨elems.map (·.1), rest.map (·.1), (by simpa using congrArg Prod.fst hx), by simp; omega⟩⟩
    · have hj' : j < len := by have := (List.getElem?_eq_some_iff.1 ho).1; simpa using this
      have ho' : o = op j := by simp [hj'] at ho; exact ho.symm
      have := (hop j hj').1 r hr
      rw [add_off, add_off] at this
      rw [this, ho']
    · obtain ⟨j, hj, rfl⟩ := List.mem_map.1 hs
      exact (hop j (List.mem_range.1 hj)).2
end Ins
end Go.Proofs.Ytfeehnfpfheojaa
