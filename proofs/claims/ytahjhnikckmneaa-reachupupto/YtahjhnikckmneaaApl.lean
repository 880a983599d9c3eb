import Derived.Test.YtahjhnikckmneaaApt
set_option linter.unusedVariables false
set_option linter.unusedSimpArgs false
namespace Go.Proofs.Ytahjhnikckmneaa
open Go.RowKit Go.Maps
namespace L
theorem Lg.start {gg : Nat} {us : List A2} {C : Nat → List ByteArray} {w : World} (h : Gt gg us (CM C) w) : Lg gg us C 0 w.heap.size none 0 (fun _ => (none, 0)) w :=
  ⟨Nat.le_refl _, h.lt, fun j a q b r => ((h.each j a q).lt b r).2, h.cell, fun j a q _ => h.each j a q, fun j a q => (h.each j a q).ints, World.ownsRow_nil _ _ _ _, fun j hj => by omega⟩
theorem longLt {W0 n : Nat} {lo : Option Addr} {lcap : Nat} {vs : List Value} {w : World} (h : w.ownsRow W0 23 1 (.slice lo n lcap) n vs) : ∀ b, S.At lo b → W0 ≤ b ∧ b < w.heap.size := by
  rintro b ⟨a, e, rfl⟩
  rcases h.2 with ⟨hv, _⟩ | ⟨g, c, cur, hv, hb, hg, _⟩
  · rw [e] at hv; cases hv
  · simp only [Value.slice.injEq] at hv; rw [hv.1] at e; cases e; exact ⟨hb, lt_of_heap hg⟩
/-- a list stays while what was made of it goes on -/
theorem keepS {la a1 : Option Addr} {L Z : List ByteArray} {x y : World} {N W0 : Nat} (hr : la = a1 ∨ ∃ g, la = some ⟨g, 0, none⟩ ∧ N ≤ g) (hI : S.Ints a1 L x) (h0 : a1 = none ∨ ∃ g, a1 = some ⟨g, 0, none⟩) (t : Turn (S.At la) x y) (hk : S.Ints la (L ++ Z) y) (hul : ∀ b, S.At a1 b → b < W0) (hW : W0 ≤ N) : S.Ints a1 L y := by
  rcases hr with e | ⟨g, e, hg⟩
  · subst e
    rcases h0 with e | ⟨g, e⟩
    · subst e
      rcases hI with h | ⟨b, off, h, _⟩
      · exact .inl h
      · cases h
    · subst e; exact hk.left
  · refine hI.turn t (fun _ b off q r => ?_)
    obtain ⟨x', ex, rb⟩ := r
    rw [e] at ex; cases ex
    have := hul b ⟨_, q, rfl⟩
    simp at rb; omega
section
variable {gg : Nat} {us : List A2} {C : Nat → List ByteArray} {i W0 : Nat} {lo : Option Addr} {lcap : Nat} {lf : Nat → A2} {w1 w2 w3 : World} {a : A2}
theorem Lg.longAt (h : Lg gg us C i W0 lo lcap lf w1) (ha : us[i]? = some a) (t : Turn (fun j => S.At a.1 j ∨ w1.heap.size ≤ j) w1 w2) : w2.ownsRow W0 23 1 (.slice lo i lcap) i ((List.range i).map (fun j => Value.slice (lf j).1 (DM C j).length (lf j).2)) := by
  refine t.row h.long (fun g hg q => ?_)
  have hg' : S.At lo g := by
    cases lo with
    | none => cases hg
    | some x => exact ⟨x, rfl, by simpa [Value.ownBlock] using hg.symm⟩
  have hb := longLt h.long g hg'
  rcases q with q | q
  · have := h.ul i a ha g q; omega
  · omega
theorem Lg.next {la : Option Addr} {lc g cap' : Nat} (h : Lg gg us C i W0 lo lcap lf w1) (hrr : ∀ (i j : Nat) (a b : A2), us[i]? = some a → us[j]? = some b → i ≠ j → ∀ k, S.At a.1 k → ¬ S.At b.1 k) (hout : ∀ (i : Nat) (a : A2), us[i]? = some a → ¬ S.At a.1 gg) (ha : us[i]? = some a)
    (t : Turn (fun j => S.At a.1 j ∨ w1.heap.size ≤ j) w1 w2) (hI : S.Ints a.1 (CM C i) w2) (hl : S.Ints la (DM C i) w2) (hlc : (DM C i).length ≤ lc) (hla : ∀ b, S.At la b → (S.At a.1 b ∨ w1.heap.size ≤ b) ∧ b < w2.heap.size)
    (r3 : w3.ownsRow W0 23 1 (.slice (some ⟨g, 0, none⟩) (i + 1) cap') (i + 1) ((List.range i).map (fun j => Value.slice (lf j).1 (DM C j).length (lf j).2) ++ [.slice la (DM C i).length lc])) (t3 : Turn (S.At lo) w2 w3) (hg : lo = some ⟨g, 0, none⟩ ∨ w2.heap.size ≤ g) :
    Lg gg us C (i + 1) W0 (some ⟨g, 0, none⟩) cap' (fun j => if j = i then (la, lc) else lf j) w3 := by
  have s1 := h.sz
  have s2 := t.size
  have s3 := t3.size
  have hlo := longLt h.long
  have nT : ∀ (j : Nat) (b : A2), us[j]? = some b → j ≠ i → ∀ k, S.At b.1 k → ¬ (S.At a.1 k ∨ w1.heap.size ≤ k) := fun j b hb hj k q r => by
    rcases r with r | r
    · exact hrr j i b a hb ha hj k q r
    · have := h.ul j b hb k q; omega
  have n3 : ∀ (j : Nat) (b : A2), us[j]? = some b → ∀ k, S.At b.1 k → ¬ S.At lo k := fun j b hb k q r => by
    have := h.ul j b hb k q; have := (hlo k r).1; omega
  refine ⟨by omega, h.gl, h.ul, fun j b hb => ?_, fun j b hb hj => ?_, fun j b hb => ?_, ?_, fun j hj => ?_⟩
  · refine (t3.cell (p := ⟨gg, j, none⟩) (by have := h.gl; show gg < _; omega) (fun q => ?_)).trans ((t.cell (p := ⟨gg, j, none⟩) (by have := h.gl; show gg < _; omega) (fun q => ?_)).trans (h.gcell j b hb))
    · have := (hlo gg q).1; have := h.gl; omega
    · rcases q with q | q
      · exact hout i a ha q
      · have := h.gl; simp at q; omega
  · exact ((h.rows j b hb (by omega)).turn t (fun k q => nT j b hb (by omega) k q)).turn t3 (fun k q => n3 j b hb k q)
  · by_cases e : j = i
    · subst e
      rw [ha] at hb; cases hb
      exact hI.turn t3 (fun _ b' off e q => n3 j a ha b' ⟨_, e, rfl⟩ q)
    · exact ((h.ints j b hb).turn t (fun _ b' off e' q => nT j b hb e b' ⟨_, e', rfl⟩ q)).turn t3 (fun _ b' off e' q => n3 j b hb b' ⟨_, e', rfl⟩ q)
  · rw [List.range_succ, List.map_append]
    have e : (List.range i).map (fun j => Value.slice (if j = i then (la, lc) else lf j).1 (DM C j).length (if j = i then (la, lc) else lf j).2) = (List.range i).map (fun j => Value.slice (lf j).1 (DM C j).length (lf j).2) := List.map_congr_left (fun j hj => by
      have : j ≠ i := by have := List.mem_range.1 hj; omega
      simp only [this, if_false])
    rw [e]
    simpa using r3
  · by_cases e : j = i
    · subst e
      simp only [if_true]
      refine ⟨hl.turn t3 (fun _ b' off e q => ?_), hlc, fun b q => ⟨?_, fun r => ?_, by have := (hla b q).2; omega⟩⟩
      · have hb := hla b' ⟨_, e, rfl⟩
        have := hlo b' q
        rcases hb.1 with r | r
        · have := h.ul j a ha b' r; omega
        · omega
      · rcases (hla b q).1 with r | r
        · exact .inl ⟨a, ha, r⟩
        · exact .inr (by omega)
      · obtain ⟨x, ex, rfl⟩ := r; cases ex
        have hb := hla _ q
        rcases hg with e | e
        · have := hlo g ⟨_, e, rfl⟩
          rcases hb.1 with r | r
          · have := h.ul j a ha _ r; simp at this; omega
          · simp at r; omega
        · have := hb.2; simp at this; omega
    · simp only [e, if_false]
      obtain ⟨l1, l2, l3⟩ := h.lints j (by omega)
      refine ⟨(l1.turn t (fun _ b' off e' q => ?_)).turn t3 (fun _ b' off e' q => (l3 b' ⟨_, e', rfl⟩).2.1 q), l2, fun b q => ⟨(l3 b q).1, fun r => ?_, by have := (l3 b q).2.2; omega⟩⟩
      · obtain ⟨x1, x2, x3⟩ := l3 b' ⟨_, e', rfl⟩
        rcases q with q | q
        · rcases x1 with ⟨c, hc, r⟩ | r
          · exact hrr j i c a hc ha e b' r q
          · have := h.ul i a ha b' q; omega
        · omega
      · obtain ⟨x, ex, rfl⟩ := r; cases ex
        rcases hg with e' | e'
        · exact (l3 _ q).2.1 ⟨_, e', rfl⟩
        · have := (l3 _ q).2.2; simp at this; omega
end
end L
end Go.Proofs.Ytahjhnikckmneaa
