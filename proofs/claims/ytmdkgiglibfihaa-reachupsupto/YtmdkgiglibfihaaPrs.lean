import Derived.Test.YtmdkgiglibfihaaFrame
import Derived.Test.YtmdkgiglibfihaaQLnP
import Derived.Deep.Slices
import Derived.ChangeMaps
set_option linter.unusedVariables false
set_option linter.unusedSimpArgs false
namespace Go.Proofs.Ytmdkgiglibfihaa
namespace Prs
open Go.ChangeShapes Go.WideShapes Go.ChangeAt Go.RowKit
open Go.ChangeMaps (open_string shut_string)
theorem fields31 : ∃ f0 f1 : Field, Try.prog.underlying 31 = some (.struct #[f0, f1]) ∧ (f0.offset = 0 ∧ f1.offset = 1) ∧ (f0.type = 9 ∧ f1.type = 9) := ⟨_, _, Try.underlying31, ⟨rfl, rfl⟩, ⟨rfl, rfl⟩⟩
theorem add_off (b off n : Nat) : (⟨b, off, none⟩ : Addr).add n = ⟨b, off + n, none⟩ := by
  unfold Addr.add
  split <;> simp_all
theorem cells31 : Try.prog.cellsOf 31 = 2 := by kernel_rfl
theorem cells9 : Try.prog.cellsOf 9 = 1 := by kernel_rfl
theorem bulk_pos {H : Type} (d : DataW H) : 1 ≤ Rows.uptoBulk d := by
  cases d with
  | lit l => cases l <;> simp [Rows.uptoBulk]
  | _ => simp [Rows.uptoBulk]
theorem bulk_len {H : Type} : ∀ ds : List (DataW H), ds.length ≤ Rows.uptoBulkAll ds := by
  intro ds
  induction ds with
  | nil => simp [Rows.uptoBulkAll]
  | cons d r ih => simp only [List.length_cons, Rows.uptoBulkAll]; have := bulk_pos d; omega
theorem bulk_mem {H : Type} : ∀ (ds : List (DataW H)) (d : DataW H), d ∈ ds → Rows.uptoBulk d ≤ Rows.uptoBulkAll ds := by
  intro ds
  induction ds with
  | nil => intro d h; cases h
  | cons a r ih =>
    intro d h
    simp only [Rows.uptoBulkAll]
    rcases List.mem_cons.1 h with rfl | h
    · omega
    · have := ih d h; omega
set_option maxRecDepth 100000 in
theorem pairs_in {H : Type} {enc : TypeId × Value → H} {W : World} {a : Option Addr} {len cap : Nat} {d : DataW H} {ps : List MemPlace} {base : Nat} {spare : Nat → Bool} {held : Bool}
    (h : DataW.Trod enc Try.prog W base spare held 22 (.slice a len cap) d ps) :
    ∃ l : List Q.K2, Q.Ints a l W ∧ l.length = len ∧ l.length ≤ cap ∧ (l.length ≤ Rows.uptoBulk d ∧ ∀ p ∈ l, p.1.size + p.2.size ≤ Rows.uptoBulk d) := by
  obtain ⟨f0, f1, he, ⟨o0, o1⟩, ⟨t0, t1⟩⟩ := fields31
  obtain ⟨fuel, hf⟩ := h
  rcases DataW.trod_slice Try.underlying22 hf with ⟨hcs, _⟩ | ⟨x, l, c, elems, rest, n, _, hcs, hx, hb, hl, hm, hel, hi, _, _⟩
  · simp [Value.cells] at hcs
    obtain ⟨rfl, rfl, rfl⟩ := hcs
    exact ⟨[], .inl rfl, rfl, Nat.le_refl _, Nat.zero_le _, fun p hp => by cases hp⟩
  · simp [Value.cells] at hcs
    obtain ⟨rfl, rfl, rfl⟩ := hcs
    simp only [Prod.mk.injEq] at hx
    have hd := hx.1
    subst hd
    by_cases h0 : len = 0
    · subst h0
      exact ⟨[], .inl rfl, rfl, hl, Nat.zero_le _, fun p hp => by cases hp⟩
    have each : ∀ i, i < len → ∃ q : Q.K2, (W.cell? (x.add (i * 2)) = some (.string q.1) ∧ W.cell? ((x.add (i * 2)).add 1) = some (.string q.2)) ∧ q.1.size + q.2.size ≤ Rows.uptoBulkAll (elems.map (·.1)) := by
      intro i hi'
      have hh := hi i hi'
      have hie : i < elems.length := by omega
      rw [List.getElem?_eq_getElem hie, Option.bind_eq_some_iff, cells31] at hh
      obtain ⟨cs', h1, h2⟩ := hh
      obtain ⟨_, hlen, hcell⟩ := World.cells?_some h1
      obtain ⟨xs, k, hk, hxy, _, hxl, hff⟩ := DataW.trod_struct he h2
      match xs, hxl, cs', hlen with
      | [y0, y1], _, [v0, v1], _ =>
        have g0 := hff 0 f0 rfl
        have g1 := hff 1 f1 rfl
        simp [o0, o1, t0, t1, cells9] at g0 g1
        obtain ⟨s0, hv0, hy0, _⟩ := DataW.trod_string Try.underlying9 g0
        obtain ⟨s1, hv1, hy1, _⟩ := DataW.trod_string Try.underlying9 g1
        simp at hv0 hv1
        subst hv0 hv1
        have e0 := hcell 0 (by omega)
        have e1 := hcell 1 (by omega)
        have hm := bulk_mem (elems.map (·.1)) elems[i].1 (List.mem_map_of_mem (List.getElem_mem hie))
        have hb1 : s0.size + s1.size ≤ Rows.uptoBulk elems[i].1 := by
          rw [hxy, hy0, hy1]
          simp only [List.map_cons, List.map_nil, Rows.uptoBulk, Rows.uptoBulkAll]
          have e : s0.data.toList.length = s0.size := by rw [Array.length_toList]; rfl
          have e' : s1.data.toList.length = s1.size := by rw [Array.length_toList]; rfl
          omega
        refine ⟨(s0, s1), ⟨by simpa [Addr.add] using e0, by simpa using e1⟩, Nat.le_trans hb1 hm⟩
    obtain ⟨op, hop⟩ := Go.Deep.choose_lt each
    have hc0 := (hop 0 (by omega)).1.1
    obtain ⟨b, off, spot⟩ := x
    have hspot : spot = none := by simpa [Addr.add] using World.cell?_spot hc0
    subst hspot
    have hbl : b < W.heap.size := World.block_lt_of_cell? W _ (by simpa [Addr.add] using hc0)
    have hlen := bulk_len (elems.map (·.1))
    rw [List.length_map, hel] at hlen
    have hb : Rows.uptoBulk (DataW.slice (elems.map (·.1)) (rest.map (·.1))) = Rows.uptoBulkAll (elems.map (·.1)) + Rows.uptoBulkAll (rest.map (·.1)) + 1 := by simp only [Rows.uptoBulk]
    refine ⟨(List.range len).map op, .inr ⟨b, off, rfl, hbl, fun j t hj => ?_⟩, by simp, by simpa using hl, by rw [hb]; simp; omega, fun t ht => ?_⟩
    · have hj' : j < len ∧ op j = t := by
        rw [List.getElem?_map] at hj
        by_cases q : j < len
        · rw [List.getElem?_range q] at hj; exact ⟨q, Option.some.inj hj⟩
        · rw [List.getElem?_eq_none (by simp; omega)] at hj; cases hj
      obtain ⟨q, rfl⟩ := hj'
      obtain ⟨⟨c0, c1⟩, _⟩ := hop j q
      rw [add_off] at c0 c1
      rw [add_off] at c1
      exact ⟨c0, c1⟩
    · obtain ⟨j, hj, rfl⟩ := List.mem_map.1 ht
      have := (hop j (List.mem_range.1 hj)).2
      rw [hb]; omega
set_option maxRecDepth 100000 in
theorem text_in {H : Type} {enc : TypeId × Value → H} {W : World} {v : Value} {d : DataW H} {ps : List MemPlace} {base : Nat} {sp : Nat → Bool} {held : Bool} {b : Nat} (hv : Value.okWide Try.prog W .any b 9 v) (h : DataW.Trod enc Try.prog W base sp held 9 v d ps) : ∃ s, v = .string s ∧ s.size < Rows.uptoBulk d := by
  obtain ⟨s, rfl, rfl, rfl, hs⟩ := open_string Try.underlying9 hv h
  refine ⟨s, rfl, ?_⟩
  simp only [Rows.uptoBulk]
  have e : s.data.toList.length = s.size := by rw [Array.length_toList]; rfl
  omega
theorem small2 {H : Type} {d d2 : DataW H} (hk : Rows.uptoSmall H [d, d2] = true) : Rows.uptoBulk d + Rows.uptoBulk d2 ≤ 1048576 := by
  have hb : Rows.uptoBulkAll [d, d2] ≤ 1048576 := of_decide_eq_true hk
  simp only [Rows.uptoBulkAll] at hb
  omega
theorem small3 {H : Type} {d d2 d3 : DataW H} (hk : Rows.uptoSmall H [d, d2, d3] = true) : Rows.uptoBulk d + Rows.uptoBulk d2 + Rows.uptoBulk d3 ≤ 1048576 := by
  have hb : Rows.uptoBulkAll [d, d2, d3] ≤ 1048576 := of_decide_eq_true hk
  simp only [Rows.uptoBulkAll] at hb
  omega
end Prs
end Go.Proofs.Ytmdkgiglibfihaa
