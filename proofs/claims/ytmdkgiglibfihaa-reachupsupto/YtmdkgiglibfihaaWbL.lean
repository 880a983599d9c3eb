import Derived.Test.YtmdkgiglibfihaaWbA
set_option linter.unusedVariables false
set_option linter.unusedSimpArgs false
namespace Go.Proofs.Ytmdkgiglibfihaa
open Go.RowKit Go.Maps
namespace W
theorem row43_put {B xg cap n : Nat} {vs : List Value} {w : World} (h : w.ownsRow B 43 1 (.slice (some ⟨xg, 0, none⟩) n cap) n vs) (i : Nat) (v : Value) (hi : i < n) : (w.setCell ⟨xg, i, none⟩ v).ownsRow B 43 1 (.slice (some ⟨xg, 0, none⟩) n cap) n (vs.set i v) := by
  rcases h.2 with ⟨hv, h0⟩ | ⟨g', cap', cur, hv, hb, hg, h1, h2, h3, h4⟩
  · cases hv
  simp only [Value.slice.injEq, Option.some.injEq] at hv
  obtain ⟨he, _, rfl⟩ := hv
  cases he
  refine ⟨by rw [List.length_set]; exact h.1, .inr ⟨xg, cap, cur.setIfInBounds i v, rfl, hb, ?_, h1, h2, by simpa using h3, ?_⟩⟩
  · simp [World.setCell, Array.getElem?_modify, hg]
  · rw [← h4, Array.toList_setIfInBounds, List.take_set]
theorem row43_at {B n cap : Nat} {xo : Option Addr} {vs : List Value} {w : World} (h : w.ownsRow B 43 1 (.slice xo n cap) n vs) {i : Nat} {v : Value} (hv : vs[i]? = some v) (hl : vs.length = n) : ∃ g, xo = some ⟨g, 0, none⟩ ∧ w.cell? ⟨g, i, none⟩ = some v ∧ n ≤ cap ∧ B ≤ g ∧ g < w.heap.size ∧ w.frozen? ⟨g, i, none⟩ = false := by
  have hil := (List.getElem?_eq_some_iff.1 hv).1
  rcases h.2 with ⟨_, h0⟩ | ⟨g, cap', cur, e, hb, hg, h1, h2, h3, h4⟩
  · omega
  · simp only [Value.slice.injEq] at e
    obtain ⟨rfl, _, rfl⟩ := e
    refine ⟨g, rfl, ?_, h1, hb, lt_of_heap hg, Lib.frozen_of_heap hg i⟩
    rw [Lib.cell_of_heap hg]
    rw [← h4, List.getElem?_take_of_lt (by omega), Array.getElem?_toList] at hv
    exact hv
/-- a line more in a name's row -/
theorem Wb.link {B x bm : Nat} {no : Option Addr} {ncap : Nat} {xg xcap : Nat} {zs : List ByteArray} {rs : List R3} {i0 : Nat} {r : R3} {n1 : Int} {w w1 : World} {g cap' : Nat} (h : Wb B x bm no ncap (some ⟨xg, 0, none⟩) xcap zs rs w) (hr : rs[i0]? = some r) (r1 : I.RowI B (some ⟨g, 0, none⟩) cap' (r.2.2 ++ [n1]) w1) (t : Turn (I.At r.1) w w1) (hg : r.1 = some ⟨g, 0, none⟩ ∨ w.heap.size ≤ g) :
    Wb B x bm no ncap (some ⟨xg, 0, none⟩) xcap zs (rs.set i0 (some ⟨g, 0, none⟩, cap', r.2.2 ++ [n1])) (w1.setCell ⟨xg, i0, none⟩ (.slice (some ⟨g, 0, none⟩) (r.2.2.length + 1) cap')) ∧ Turn (Own x bm no (some ⟨xg, 0, none⟩) rs) w (w1.setCell ⟨xg, i0, none⟩ (.slice (some ⟨g, 0, none⟩) (r.2.2.length + 1) cap')) := by
  have nN := h.nN
  have nX := h.nX
  have nR := h.nR hr
  have hil := (List.getElem?_eq_some_iff.1 hr).1
  obtain ⟨⟨cx, ex⟩, hBx⟩ := kindX h.row (j := xg) ⟨_, rfl, rfl⟩
  have hlx := lt_of_heap ex
  have ts : Turn (fun j => j = xg) w1 (w1.setCell ⟨xg, i0, none⟩ (.slice (some ⟨g, 0, none⟩) (r.2.2.length + 1) cap')) := (Turn.refl (fun j => j = xg) w1).setCell (p := ⟨xg, i0, none⟩) (fun _ => rfl) _
  have tB : Turn (fun j => j = xg ∨ At r.1 j) w (w1.setCell ⟨xg, i0, none⟩ (.slice (some ⟨g, 0, none⟩) (r.2.2.length + 1) cap')) := (t.mono (fun j _ q => .inr q)).then ts (fun j _ q => .inl q)
  obtain ⟨m, D, hm, hown, hh⟩ := h.map
  have hgx : g ≠ xg := by
    rcases hg with e | e
    · exact fun q => nR.2.2.2 g ⟨_, e, rfl⟩ ⟨_, rfl, q⟩
    · omega
  refine ⟨⟨h.hx, h.hm, (tB.block x (lt_of_heap h.hb) (fun q => ?_)).trans h.hb, by simp [h.len], h.names.turn tB (fun j q s => ?_), ?_, ⟨m, D, hm, tB.map hown (fun q => ?_), hh⟩, fun i s hs => ?_, fun i j a b ha hb hij k q1 q2 => ?_, h.oks⟩, tB.mono (fun j _ q => ?_)⟩
  · rcases q with q | q
    · exact nX.1 ⟨_, rfl, q⟩
    · exact nR.1 q
  · rcases s with s | s
    · exact nN.2.2 j q ⟨_, rfl, s⟩
    · exact nR.2.2.1 j s q
  · have hrow1 : w1.ownsRow B 43 1 (.slice (some ⟨xg, 0, none⟩) zs.length xcap) zs.length (rs.map val) := t.row h.row (fun j hj q => by cases hj; exact nR.2.2.2 _ q ⟨_, rfl, rfl⟩)
    have := row43_put hrow1 i0 (.slice (some ⟨g, 0, none⟩) (r.2.2.length + 1) cap') (by have := h.len; omega)
    rw [List.map_set]
    simpa [val] using this
  · rcases q with q | q
    · exact nX.2 ⟨_, rfl, q⟩
    · exact nR.2.1 q
  · by_cases e : i = i0
    · subst e
      rw [List.getElem?_set_self hil] at hs
      cases hs
      exact r1.turn ts (fun j q => by obtain ⟨a, e', rfl⟩ := q; cases e'; exact hgx)
    · rw [List.getElem?_set_ne (fun q => e q.symm)] at hs
      have nS := h.nR hs
      exact (h.each i s hs).turn tB (fun j q ho => by
        have q' : At s.1 j := q
        rcases ho with ho | ho
        · exact nS.2.2.2 j q' ⟨_, rfl, ho⟩
        · exact h.rr i i0 s r hs hr e j q' ho)
  · by_cases ei : i = i0
    · subst ei
      rw [List.getElem?_set_self hil] at ha
      cases ha
      rw [List.getElem?_set_ne hij] at hb
      obtain ⟨a', e', rfl⟩ := q1; cases e'
      rcases hg with e | e
      · exact h.rr i j r b hr hb hij g ⟨_, e, rfl⟩ q2
      · obtain ⟨a'', e'', q⟩ := q2
        have := ((h.each j b hb).lt _ ⟨a'', e'', q⟩).2
        simp at this; omega
    · rw [List.getElem?_set_ne (fun q => ei q.symm)] at ha
      by_cases ej : j = i0
      · subst ej
        rw [List.getElem?_set_self hil] at hb
        cases hb
        obtain ⟨a', e', q⟩ := q2; cases e'
        simp at q; subst q
        rcases hg with e | e
        · exact h.rr i j a r ha hr hij k q1 ⟨_, e, rfl⟩
        · obtain ⟨a'', e'', q⟩ := q1
          have := ((h.each i a ha).lt _ ⟨a'', e'', q⟩).2
          omega
      · rw [List.getElem?_set_ne (fun q => ej q.symm)] at hb
        exact h.rr i j a b ha hb hij k q1 q2
  · rcases q with q | q
    · exact .inr (.inr (.inr (.inl ⟨_, rfl, q⟩)))
    · exact .inr (.inr (.inr (.inr ⟨i0, r, hr, q⟩)))
end W
end Go.Proofs.Ytmdkgiglibfihaa
