import Derived.Test.YtnpdmeeolcjmlaaFrame
import Derived.Test.YtnpdmeeolcjmlaaIns
import Derived.Deep.Slices
import Derived.ChangeMaps
set_option linter.unusedVariables false
set_option linter.unusedSimpArgs false
namespace Go.Proofs.Ytnpdmeeolcjmlaa
namespace C
/-- a step, as it lies -/
structure S4 where
  d : Int
  n : Int
  a : Int
  b : Int
def S4.arr (s : S4) : Array Value := #[.int .i64 s.d, .int .i64 s.n, .int .i64 s.a, .int .i64 s.b]
/-- a slice of steps that came in -/
def Ss4 (w : World) (a : Option Addr) (ss : List S4) : Prop := ss = [] ∨ ∃ b off, a = some ⟨b, off, none⟩ ∧ b < w.heap.size ∧ ∀ j (h : j < ss.length), ∀ r (hr : r < 4), w.cell? ⟨b, off + j * 4 + r, none⟩ = ss[j].arr[r]?
end C
namespace In4
open Go.ChangeShapes Go.WideShapes Go.ChangeAt Go.RowKit
theorem fields52 : ∃ f0 f1 f2 f3 : Field, Try.prog.underlying 52 = some (.struct #[f0, f1, f2, f3]) ∧ (f0.offset = 0 ∧ f1.offset = 1 ∧ f2.offset = 2 ∧ f3.offset = 3) ∧ (f0.type = 3 ∧ f1.type = 3 ∧ f2.type = 3 ∧ f3.type = 3) := ⟨_, _, _, _, Try.underlying52, ⟨rfl, rfl, rfl, rfl⟩, ⟨rfl, rfl, rfl, rfl⟩⟩
theorem cells3 : Try.prog.cellsOf 3 = 1 := by kernel_rfl
theorem cells52 : Try.prog.cellsOf 52 = 4 := by kernel_rfl
set_option maxRecDepth 100000 in
theorem dec52 {H : Type} {enc : TypeId × Value → H} {W : World} (base : Nat) (spare : Nat → Bool) (held : Bool) (n : Nat) (cs : List Value) (x : DataW H × List MemPlace) (hl : cs.length = 4) (h : DataW.trod enc Try.prog W base spare held n 52 cs = some x) : ∃ q : C.S4, cs = q.arr.toList := by
  obtain ⟨f0, f1, f2, f3, he, ⟨o0, o1, o2, o3⟩, ⟨t0, t1, t2, t3⟩⟩ := fields52
  obtain ⟨xs, k, hk, hxy, _, hxl, hff⟩ := DataW.trod_struct he h
  match xs, hxl, cs, hl with
  | [y0, y1, y2, y3], _, [v0, v1, v2, v3], _ =>
    have g0 := hff 0 f0 rfl
    have g1 := hff 1 f1 rfl
    have g2 := hff 2 f2 rfl
    have g3 := hff 3 f3 rfl
    simp [o0, o1, o2, o3, t0, t1, t2, t3, cells3] at g0 g1 g2 g3
    obtain ⟨n0, hv0, _, _⟩ := DataW.trod_int Try.underlying3 g0
    obtain ⟨n1, hv1, _, _⟩ := DataW.trod_int Try.underlying3 g1
    obtain ⟨n2, hv2, _, _⟩ := DataW.trod_int Try.underlying3 g2
    obtain ⟨n3, hv3, _, _⟩ := DataW.trod_int Try.underlying3 g3
    simp at hv0 hv1 hv2 hv3
    subst hv0 hv1 hv2 hv3
    exact ⟨⟨n0, n1, n2, n3⟩, rfl⟩
theorem bulk_pos {H : Type} (d : DataW H) : 1 ≤ Rows.uptoBulk d := by
  cases d with
  | lit l => cases l <;> simp [Rows.uptoBulk]
  | _ => simp [Rows.uptoBulk]
theorem bulk_len {H : Type} : ∀ ds : List (DataW H), ds.length ≤ Rows.uptoBulkAll ds := by
  intro ds
  induction ds with
  | nil => simp
  | cons a r ih => have := bulk_pos a; simp [Rows.uptoBulkAll]; omega
set_option maxRecDepth 100000 in
/-- a slice of steps that came in -/
theorem steps_in {H : Type} {enc : TypeId × Value → H} {W : World} {a : Option Addr} {len cap : Nat} {d : DataW H} {ps : List MemPlace} {base : Nat} {spare : Nat → Bool} {held : Bool}
    (h : DataW.Trod enc Try.prog W base spare held 43 (.slice a len cap) d ps) (hb : Rows.uptoBulk d ≤ 1048576) : ∃ ss : List C.S4, ss.length = len ∧ C.Ss4 W a ss ∧ ss.length ≤ 1048576 := by
  obtain ⟨fuel, hf⟩ := h
  rcases DataW.trod_slice Try.underlying43 hf with ⟨hcs, _⟩ | ⟨y, l, c, elems, rest, m, _, hcs, hx, hb', hl, hm, hel, hi, _, _⟩
  · simp [Value.cells] at hcs
    obtain ⟨rfl, rfl, rfl⟩ := hcs
    exact ⟨[], rfl, .inl rfl, by simp⟩
  · simp [Value.cells] at hcs
    obtain ⟨rfl, rfl, rfl⟩ := hcs
    by_cases hz : len = 0
    · subst hz
      exact ⟨[], rfl, .inl rfl, by simp⟩
    have each : ∀ i, i < len → ∃ q : C.S4, (∀ r, r < 4 → W.cell? ((y.add (i * 4)).add r) = q.arr[r]?) := by
      intro i hi'
      have hh := hi i hi'
      have hie : i < elems.length := by omega
      rw [List.getElem?_eq_getElem hie, Option.bind_eq_some_iff, cells52] at hh
      obtain ⟨cs', h1, h2⟩ := hh
      obtain ⟨_, hlen, hcell⟩ := World.cells?_some h1
      obtain ⟨q, rfl⟩ := dec52 _ _ _ _ cs' _ hlen h2
      refine ⟨q, fun r hr => ?_⟩
      have := hcell r hr
      rw [this]
      simp
    haveI : Inhabited C.S4 := ⟨⟨0, 0, 0, 0⟩⟩
    obtain ⟨op, hop⟩ := Go.Deep.choose_lt each
    have hc0 : W.cell? ((y.add (0 * 4)).add 0) = some (.int .i64 (op 0).d) := ((hop 0 (by omega)) 0 (by omega)).trans rfl
    obtain ⟨b, off, spot⟩ := y
    have hspot : spot = none := by simpa [Addr.add] using World.cell?_spot hc0
    subst hspot
    have hbl : b < W.heap.size := World.block_lt_of_cell? W _ (by simpa [Addr.add] using hc0)
    have hlen : len ≤ 1048576 := by
      have e1 : d = .slice (elems.map (·.1)) (rest.map (·.1)) := by simpa using congrArg Prod.fst hx
      rw [e1] at hb
      simp only [Rows.uptoBulk] at hb
      have := bulk_len (elems.map (·.1))
      rw [List.length_map] at this
      omega
    refine ⟨(List.range len).map op, by simp, .inr ⟨b, off, rfl, hbl, fun j hj r hr => ?_⟩, by simpa using hlen⟩
    · have hj' : j < len := by simpa using hj
      have := (hop j hj') r hr
      rw [Ins.add_off, Ins.add_off] at this
      rw [this]
      simp
end In4
end Go.Proofs.Ytnpdmeeolcjmlaa
