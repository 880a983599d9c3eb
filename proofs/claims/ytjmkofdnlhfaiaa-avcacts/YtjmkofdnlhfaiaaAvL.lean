import Derived.Test.YtjmkofdnlhfaiaaAvA
import Derived.Test.YtjmkofdnlhfaiaaFrame
import Derived.Deep.Slices
import Derived.ChangeMaps
set_option linter.unusedVariables false
set_option linter.unusedSimpArgs false
namespace Go.Proofs.Ytjmkofdnlhfaiaa
open Go.RowKit
namespace C
/-- a call, as it lies -/
structure Act where
  d : Int
  tag : Int
  t : Tr
  al : Bool
def Act.arr (x : Act) : Array Value := #[.int .i64 x.d, .int .i64 x.tag, .int .i64 x.t.s, .int .i64 x.t.o, .int .i64 x.t.a, .bool x.al]
theorem Act.len (x : Act) : x.arr.toList.length = 6 := rfl
/-- a slice of calls -/
def Acs (w : World) (a : Option Addr) (xs : List Act) : Prop := xs = [] ∨ ∃ b off, a = some ⟨b, off, none⟩ ∧ b < w.heap.size ∧ ∀ j x, xs[j]? = some x → w.rangeAt b (off + j * 6) x.arr.toList
theorem Acs.below {w w' : World} {a : Option Addr} {xs : List Act} (h : Acs w a xs) (k : Below w.heap.size w w') : Acs w' a xs := by
  rcases h with h | ⟨b, off, h1, h2, h3⟩
  · exact .inl h
  · exact .inr ⟨b, off, h1, Nat.lt_of_lt_of_le h2 k.size, fun j x hx r u hu => (World.cell?_of_block (w := w) (k.block b h2)).trans (h3 j x hx r u hu)⟩
theorem Acs.drewN {w : World} {a : Option Addr} {xs : List Act} (h : Acs w a xs) (k : Nat) : Acs (w.drewN k) a xs := h.below (below_drewN w k)
theorem Acs.take {w : World} {a : Option Addr} {xs : List Act} (h : Acs w a xs) (k : Nat) : Acs w a (xs.take k) := by
  rcases h with h | ⟨b, off, h1, h2, h3⟩
  · exact .inl (by rw [h, List.take_nil])
  · refine .inr ⟨b, off, h1, h2, fun j x hx => h3 j x ?_⟩
    rw [List.getElem?_take] at hx
    split at hx
    · exact hx
    · cases hx
end C
namespace Ina
open Go.ChangeShapes Go.WideShapes Go.ChangeAt Go.RowKit
theorem add_off (b off n : Nat) : (⟨b, off, none⟩ : Addr).add n = ⟨b, off + n, none⟩ := by
  unfold Addr.add
  split <;> simp_all
theorem fields45 : ∃ f0 f1 f2 f3 f4 f5 : Field, Try.prog.underlying 45 = some (.struct #[f0, f1, f2, f3, f4, f5]) ∧ (f0.offset = 0 ∧ f1.offset = 1 ∧ f2.offset = 2 ∧ f3.offset = 3 ∧ f4.offset = 4 ∧ f5.offset = 5) ∧ (f0.type = 3 ∧ f1.type = 3 ∧ f2.type = 3 ∧ f3.type = 3 ∧ f4.type = 3 ∧ f5.type = 4) := ⟨_, _, _, _, _, _, Try.underlying45, ⟨rfl, rfl, rfl, rfl, rfl, rfl⟩, ⟨rfl, rfl, rfl, rfl, rfl, rfl⟩⟩
theorem cells3 : Try.prog.cellsOf 3 = 1 := by kernel_rfl
theorem cells4 : Try.prog.cellsOf 4 = 1 := by kernel_rfl
theorem cells45 : Try.prog.cellsOf 45 = 6 := by kernel_rfl
theorem bytes45 : Try.prog.bytesOf 45 = 48 := by kernel_rfl
set_option maxRecDepth 100000 in
theorem dec45 {H : Type} {enc : TypeId × Value → H} {W : World} (base : Nat) (spare : Nat → Bool) (held : Bool) (n : Nat) (cs : List Value) (x : DataW H × List MemPlace) (hl : cs.length = 6) (h : DataW.trod enc Try.prog W base spare held n 45 cs = some x) : ∃ q : C.Act, cs = q.arr.toList := by
  obtain ⟨f0, f1, f2, f3, f4, f5, he, ⟨o0, o1, o2, o3, o4, o5⟩, ⟨t0, t1, t2, t3, t4, t5⟩⟩ := fields45
  obtain ⟨xs, k, hk, hxy, _, hxl, hff⟩ := DataW.trod_struct he h
  match xs, hxl, cs, hl with
  | [y0, y1, y2, y3, y4, y5], _, [v0, v1, v2, v3, v4, v5], _ =>
    have g0 := hff 0 f0 rfl
    have g1 := hff 1 f1 rfl
    have g2 := hff 2 f2 rfl
    have g3 := hff 3 f3 rfl
    have g4 := hff 4 f4 rfl
    have g5 := hff 5 f5 rfl
    simp [o0, o1, o2, o3, o4, o5, t0, t1, t2, t3, t4, t5, cells3, cells4] at g0 g1 g2 g3 g4 g5
    obtain ⟨n0, hv0, _, _⟩ := DataW.trod_int Try.underlying3 g0
    obtain ⟨n1, hv1, _, _⟩ := DataW.trod_int Try.underlying3 g1
    obtain ⟨n2, hv2, _, _⟩ := DataW.trod_int Try.underlying3 g2
    obtain ⟨n3, hv3, _, _⟩ := DataW.trod_int Try.underlying3 g3
    obtain ⟨n4, hv4, _, _⟩ := DataW.trod_int Try.underlying3 g4
    obtain ⟨n5, hv5, _⟩ := DataW.trod_bool Try.underlying4 g5
    simp at hv0 hv1 hv2 hv3 hv4 hv5
    subst hv0 hv1 hv2 hv3 hv4 hv5
    exact ⟨⟨n0, n1, ⟨n2, n3, n4⟩, n5⟩, rfl⟩
set_option maxRecDepth 100000 in
/-- a slice of calls that came in -/
theorem acts_in {H : Type} {enc : TypeId × Value → H} {W : World} {a : Option Addr} {len cap : Nat} {d : DataW H} {ps : List MemPlace} {base : Nat} {spare : Nat → Bool} {held : Bool}
    (h : DataW.Trod enc Try.prog W base spare held 38 (.slice a len cap) d ps) : ∃ ss : List C.Act, ss.length = len ∧ C.Acs W a ss ∧ (len = 0 ∨ ∃ el sp, d = .slice el sp ∧ len ≤ el.length) ∧ len ≤ cap := by
  obtain ⟨fuel, hf⟩ := h
  rcases DataW.trod_slice Try.underlying38 hf with ⟨hcs, _⟩ | ⟨y, l, c, elems, rest, m, _, hcs, hx, hb', hl, hm, hel, hi, _, _⟩
  · simp [Value.cells] at hcs
    obtain ⟨rfl, rfl, rfl⟩ := hcs
    exact ⟨[], rfl, .inl rfl, .inl rfl, Nat.le_refl _⟩
  · simp [Value.cells] at hcs
    obtain ⟨rfl, rfl, rfl⟩ := hcs
    by_cases hz : len = 0
    · subst hz
      exact ⟨[], rfl, .inl rfl, .inl rfl, Nat.zero_le _⟩
    have each : ∀ i, i < len → ∃ q : C.Act, (∀ r, r < 6 → W.cell? ((y.add (i * 6)).add r) = q.arr[r]?) := by
      intro i hi'
      have hh := hi i hi'
      have hie : i < elems.length := by omega
      rw [List.getElem?_eq_getElem hie, Option.bind_eq_some_iff, cells45] at hh
      obtain ⟨cs', h1, h2⟩ := hh
      obtain ⟨_, hlen, hcell⟩ := World.cells?_some h1
      obtain ⟨q, rfl⟩ := dec45 _ _ _ _ cs' _ hlen h2
      refine ⟨q, fun r hr => ?_⟩
      have := hcell r hr
      rw [this]
      simp
    haveI : Inhabited C.Act := ⟨⟨0, 0, ⟨0, 0, 0⟩, false⟩⟩
    obtain ⟨op, hop⟩ := Go.Deep.choose_lt each
    have hc0 : W.cell? ((y.add (0 * 6)).add 0) = some (.int .i64 (op 0).d) := ((hop 0 (by omega)) 0 (by omega)).trans rfl
    obtain ⟨b, off, spot⟩ := y
    have hspot : spot = none := by simpa [Addr.add] using World.cell?_spot hc0
    subst hspot
    have hbl : b < W.heap.size := World.block_lt_of_cell? W _ (by simpa [Addr.add] using hc0)
    have e1 : d = .slice (elems.map (·.1)) (rest.map (·.1)) := by simpa using congrArg Prod.fst hx
    refine ⟨(List.range len).map op, by simp, .inr ⟨b, off, rfl, hbl, fun j x hx r u hu => ?_⟩, .inr ⟨_, _, e1, by simp; omega⟩, hl⟩
    have hj' : j < len := by
      have := (List.getElem?_eq_some_iff.1 hx).1
      simpa using this
    rw [List.getElem?_map, List.getElem?_range hj'] at hx
    simp only [Option.map_some, Option.some.injEq] at hx
    subst hx
    have hr : r < 6 := (List.getElem?_eq_some_iff.1 hu).1
    have := (hop j hj') r hr
    rw [add_off, add_off] at this
    rw [this]
    rw [← hu]
    simp
end Ina
end Go.Proofs.Ytjmkofdnlhfaiaa
