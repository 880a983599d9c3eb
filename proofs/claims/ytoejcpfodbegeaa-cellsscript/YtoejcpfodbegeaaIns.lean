import Derived.Test.YtoejcpfodbegeaaFrame
import Derived.Test.YtoejcpfodbegeaaSumP
import Derived.Test.YtoejcpfodbegeaaStp
import Derived.Deep.Slices
import Derived.ChangeMaps
set_option linter.unusedVariables false
set_option linter.unusedSimpArgs false
namespace Go.Proofs.Ytoejcpfodbegeaa
namespace Ins
open Go.ChangeShapes Go.WideShapes Go.ChangeAt Go.RowKit
theorem add_off (b off n : Nat) : (⟨b, off, none⟩ : Addr).add n = ⟨b, off + n, none⟩ := by
  unfold Addr.add
  split <;> simp_all
/-- a slice of numbers that came in -/
theorem ints_in {H : Type} {enc : TypeId × Value → H} {W : World} {a : Option Addr} {len cap : Nat} {d : DataW H} {ps : List MemPlace} {base : Nat} {spare : Nat → Bool} {held : Bool}
    (h : DataW.Trod enc Try.prog W base spare held 42 (.slice a len cap) d ps) : ∃ ns, ns.length = len ∧ M.Ints W a ns := by
  obtain ⟨fuel, hf⟩ := h
  rcases open_ints Try.underlying42 Try.underlying3 (by kernel_rfl) hf with ⟨hcs, _⟩ | ⟨x, l, c, zs, hcs, _, hl, hm, hz, _, hcell, hwz⟩
  · simp [Value.cells] at hcs
    obtain ⟨rfl, rfl, rfl⟩ := hcs
    exact ⟨[], rfl, .inl rfl⟩
  · simp [Value.cells] at hcs
    obtain ⟨rfl, rfl, rfl⟩ := hcs
    have hlz : len ≤ zs.length := by rw [hz]; split <;> omega
    refine ⟨zs.take len, by rw [List.length_take]; omega, ?_⟩
    by_cases h0 : len = 0
    · exact .inl (by rw [h0]; rfl)
    · have hc0 := hcell 0 (by omega)
      obtain ⟨b, off, spot⟩ := x
      have hspot : spot = none := by simpa [Addr.add] using World.cell?_spot hc0
      subst hspot
      have hbl : b < W.heap.size := World.block_lt_of_cell? W _ (by simpa [Addr.add] using hc0)
      refine .inr ⟨b, off, rfl, hbl, fun j hj => ?_⟩
      rw [List.length_take] at hj
      have := hcell j (by omega)
      rw [show (⟨b, off, none⟩ : Addr).add j = ⟨b, off + j, none⟩ from by simp [Addr.add]] at this
      rw [this]
      simp [List.getD, List.getElem?_take_of_lt (show j < len by omega)]
theorem bulk_lits {H : Type} (k : IntKind) : ∀ zs : List Int, Rows.uptoBulkAll (lits (H := H) k zs) = zs.length := by
  intro zs
  induction zs with
  | nil => rfl
  | cons a r ih => simp [lits, Rows.uptoBulkAll, Rows.uptoBulk] at ih ⊢; omega
/-- what the bound gives: so many numbers -/
theorem short {H : Type} {enc : TypeId × Value → H} {W : World} {a : Option Addr} {len cap : Nat} {d : DataW H} {ps : List MemPlace} {base : Nat} {spare : Nat → Bool} {held : Bool}
    (h : DataW.Trod enc Try.prog W base spare held 42 (.slice a len cap) d ps) (hb : Rows.uptoBulk d ≤ 1048576) : len ≤ 1048576 := by
  obtain ⟨fuel, hf⟩ := h
  rcases open_ints Try.underlying42 Try.underlying3 (by kernel_rfl) hf with ⟨hcs, _⟩ | ⟨x, l, c, zs, hcs, _, hl, hm, hz, hx, hcell, hwz⟩
  · simp [Value.cells] at hcs
    obtain ⟨rfl, rfl, rfl⟩ := hcs
    omega
  · simp [Value.cells] at hcs
    obtain ⟨rfl, rfl, rfl⟩ := hcs
    simp only [Prod.mk.injEq] at hx
    rw [hx.1] at hb
    simp only [Rows.uptoBulkAll, Rows.uptoBulk, bulk_lits] at hb
    have hlz : len ≤ zs.length := by rw [hz]; split <;> omega
    rw [List.length_take] at hb
    omega
theorem fields37 : ∃ f0 f1 f2 f3 f4 : Field, Try.prog.underlying 37 = some (.struct #[f0, f1, f2, f3, f4]) ∧ (f0.offset = 0 ∧ f1.offset = 1 ∧ f2.offset = 2 ∧ f3.offset = 3 ∧ f4.offset = 4) ∧ (f0.type = 35 ∧ f1.type = 3 ∧ f2.type = 3 ∧ f3.type = 3 ∧ f4.type = 4) := ⟨_, _, _, _, _, Try.underlying37, ⟨rfl, rfl, rfl, rfl, rfl⟩, ⟨rfl, rfl, rfl, rfl, rfl⟩⟩
theorem fields39 : ∃ f0 f1 f2 f3 f4 : Field, Try.prog.underlying 39 = some (.struct #[f0, f1, f2, f3, f4]) ∧ (f0.offset = 0 ∧ f1.offset = 1 ∧ f2.offset = 2 ∧ f3.offset = 3 ∧ f4.offset = 4) ∧ (f0.type = 3 ∧ f1.type = 3 ∧ f2.type = 3 ∧ f3.type = 3 ∧ f4.type = 37) := ⟨_, _, _, _, _, Try.underlying39, ⟨rfl, rfl, rfl, rfl, rfl⟩, ⟨rfl, rfl, rfl, rfl, rfl⟩⟩
theorem cells3 : Try.prog.cellsOf 3 = 1 := by kernel_rfl
theorem cells4 : Try.prog.cellsOf 4 = 1 := by kernel_rfl
theorem cells35 : Try.prog.cellsOf 35 = 1 := by kernel_rfl
theorem cells37 : Try.prog.cellsOf 37 = 5 := by kernel_rfl
theorem cells39 : Try.prog.cellsOf 39 = 9 := by kernel_rfl
set_option maxRecDepth 100000 in
theorem dec37 {H : Type} {enc : TypeId × Value → H} {W : World} (base : Nat) (spare : Nat → Bool) (held : Bool) (n : Nat) (cs : List Value) (x : DataW H × List MemPlace) (hl : cs.length = 5) (h : DataW.trod enc Try.prog W base spare held n 37 cs = some x) : ∃ q : M.Ac, cs = q.cells := by
  obtain ⟨f0, f1, f2, f3, f4, he, ⟨o0, o1, o2, o3, o4⟩, ⟨t0, t1, t2, t3, t4⟩⟩ := fields37
  obtain ⟨xs, k, hk, hxy, _, hxl, hff⟩ := DataW.trod_struct he h
  match xs, hxl, cs, hl with
  | [y0, y1, y2, y3, y4], _, [v0, v1, v2, v3, v4], _ =>
    have g0 := hff 0 f0 rfl
    have g1 := hff 1 f1 rfl
    have g2 := hff 2 f2 rfl
    have g3 := hff 3 f3 rfl
    have g4 := hff 4 f4 rfl
    simp [o0, o1, o2, o3, o4, t0, t1, t2, t3, t4, cells3, cells4, cells35] at g0 g1 g2 g3 g4
    obtain ⟨n0, hv0, _, _⟩ := DataW.trod_int Try.underlying35 g0
    obtain ⟨n1, hv1, _, _⟩ := DataW.trod_int Try.underlying3 g1
    obtain ⟨n2, hv2, _, _⟩ := DataW.trod_int Try.underlying3 g2
    obtain ⟨n3, hv3, _, _⟩ := DataW.trod_int Try.underlying3 g3
    obtain ⟨n4, hv4, _⟩ := DataW.trod_bool Try.underlying4 g4
    simp at hv0 hv1 hv2 hv3 hv4
    subst hv0 hv1 hv2 hv3 hv4
    exact ⟨⟨n0, n1, n2, n3, n4⟩, rfl⟩
set_option maxRecDepth 100000 in
theorem dec39 {H : Type} {enc : TypeId × Value → H} {W : World} (base : Nat) (spare : Nat → Bool) (held : Bool) (n : Nat) (cs : List Value) (x : DataW H × List MemPlace) (hl : cs.length = 9) (h : DataW.trod enc Try.prog W base spare held n 39 cs = some x) : ∃ q : M.St, cs = q.arr.toList ∧ q.ok := by
  obtain ⟨f0, f1, f2, f3, f4, he, ⟨o0, o1, o2, o3, o4⟩, ⟨t0, t1, t2, t3, t4⟩⟩ := fields39
  obtain ⟨xs, k, hk, hxy, _, hxl, hff⟩ := DataW.trod_struct he h
  match xs, hxl, cs, hl with
  | [y0, y1, y2, y3, y4], _, [v0, v1, v2, v3, v4, v5, v6, v7, v8], _ =>
    have g0 := hff 0 f0 rfl
    have g1 := hff 1 f1 rfl
    have g2 := hff 2 f2 rfl
    have g3 := hff 3 f3 rfl
    have g4 := hff 4 f4 rfl
    simp [o0, o1, o2, o3, o4, t0, t1, t2, t3, t4, cells3, cells37] at g0 g1 g2 g3 g4
    obtain ⟨n0, hv0, _, _⟩ := DataW.trod_int Try.underlying3 g0
    obtain ⟨n1, hv1, _, w1⟩ := DataW.trod_int Try.underlying3 g1
    obtain ⟨n2, hv2, _, w2⟩ := DataW.trod_int Try.underlying3 g2
    obtain ⟨n3, hv3, _, _⟩ := DataW.trod_int Try.underlying3 g3
    obtain ⟨q, hq⟩ := dec37 _ _ _ _ _ _ rfl g4
    simp at hv0 hv1 hv2 hv3
    subst hv0 hv1 hv2 hv3
    simp only [M.Ac.cells, List.cons.injEq, and_true] at hq
    obtain ⟨rfl, rfl, rfl, rfl, rfl⟩ := hq
    exact ⟨⟨n0, n1, n2, n3, q⟩, rfl, M.wf_le w1, M.wf_le w2⟩
/-- a step that came in -/
theorem step_in {H : Type} {enc : TypeId × Value → H} {W : World} {cs : Array Value} {d : DataW H} {ps : List MemPlace} {base : Nat} {spare : Nat → Bool} {held : Bool} (hl : cs.size = Try.prog.cellsOf 39)
    (h : DataW.Trod enc Try.prog W base spare held 39 (.agg cs) d ps) : ∃ s : M.St, cs = s.arr ∧ s.ok := by
  obtain ⟨fuel, hf⟩ := h
  rw [cells39] at hl
  obtain ⟨q, h1, h2⟩ := dec39 _ _ _ _ cs.toList _ (by simpa using hl) (by simpa [Value.cells] using hf)
  exact ⟨q, by rw [← Array.toList_inj, h1], h2⟩
set_option maxRecDepth 100000 in
/-- a slice of steps that came in -/
theorem steps_in {H : Type} {enc : TypeId × Value → H} {W : World} {a : Option Addr} {len cap : Nat} {d : DataW H} {ps : List MemPlace} {base : Nat} {spare : Nat → Bool} {held : Bool}
    (h : DataW.Trod enc Try.prog W base spare held 30 (.slice a len cap) d ps) : ∃ ss : List M.St, ss.length = len ∧ M.Sts W a ss ∧ (∀ s ∈ ss, s.ok) ∧ (len = 0 ∨ ∃ el sp, d = .slice el sp ∧ len ≤ el.length) := by
  obtain ⟨fuel, hf⟩ := h
  rcases DataW.trod_slice Try.underlying30 hf with ⟨hcs, _⟩ | ⟨y, l, c, elems, rest, m, _, hcs, hx, hb, hl, hm, hel, hi, _, _⟩
  · simp [Value.cells] at hcs
    obtain ⟨rfl, rfl, rfl⟩ := hcs
    exact ⟨[], rfl, .inl rfl, (fun s hs => by cases hs), .inl rfl⟩
  · simp [Value.cells] at hcs
    obtain ⟨rfl, rfl, rfl⟩ := hcs
    by_cases hz : len = 0
    · subst hz
      exact ⟨[], rfl, .inl rfl, (fun s hs => by cases hs), .inl rfl⟩
    have each : ∀ i, i < len → ∃ q : M.St, (∀ r, r < 9 → W.cell? ((y.add (i * 9)).add r) = q.arr[r]?) ∧ q.ok := by
      intro i hi'
      have hh := hi i hi'
      have hie : i < elems.length := by omega
      rw [List.getElem?_eq_getElem hie, Option.bind_eq_some_iff, cells39] at hh
      obtain ⟨cs', h1, h2⟩ := hh
      obtain ⟨_, hlen, hcell⟩ := World.cells?_some h1
      obtain ⟨q, rfl, h4⟩ := dec39 _ _ _ _ cs' _ hlen h2
      refine ⟨q, fun r hr => ?_, h4⟩
      have := hcell r hr
      rw [this]
      simp
    haveI : Inhabited M.St := ⟨⟨0, 0, 0, 0, ⟨0, 0, 0, 0, false⟩⟩⟩
    obtain ⟨op, hop⟩ := Go.Deep.choose_lt each
    have hc0 : W.cell? ((y.add (0 * 9)).add 0) = some (.int .i64 (op 0).do_) := ((hop 0 (by omega)).1 0 (by omega)).trans rfl
    obtain ⟨b, off, spot⟩ := y
    have hspot : spot = none := by simpa [Addr.add] using World.cell?_spot hc0
    subst hspot
    have hbl : b < W.heap.size := World.block_lt_of_cell? W _ (by simpa [Addr.add] using hc0)
    refine ⟨(List.range len).map op, by simp, .inr ⟨b, off, rfl, hbl, fun j hj r hr => ?_⟩, fun s hs => ?_, .inr ⟨elems.map (·.1), rest.map (·.1), (by simpa using congrArg Prod.fst hx), by simp; omega⟩⟩
    · have hj' : j < len := by simpa using hj
      have := (hop j hj').1 r hr
      rw [add_off, add_off] at this
      rw [this]
      simp
    · obtain ⟨j, hj, rfl⟩ := List.mem_map.1 hs
      exact (hop j (List.mem_range.1 hj)).2
theorem bytes39 : Try.prog.bytesOf 39 = 72 := by kernel_rfl
end Ins
end Go.Proofs.Ytoejcpfodbegeaa
