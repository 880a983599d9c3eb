import Derived.Test.YtjmkofdnlhfaiaaRaA
set_option linter.unusedVariables false
set_option linter.unusedSimpArgs false
namespace Go.Proofs.Ytjmkofdnlhfaiaa
open Go.RowKit
namespace C
variable {n v : Nat} {s : St} {L : List Dc} {B c g r hb : Nat} {b : Nat → Nat} {lo : Option Addr} {lc : Nat} {w w' : World}
theorem Rf.kind (h : Rf B r hb n v s L lo lc w) {j : Nat} (hj : RO r hb lo j) : ∃ cs t, w.heap[j]? = some (.cells cs t (0, 0)) ∧ (t = 60 ∨ t = 3 ∨ t = 82) := by
  rcases hj with rfl | rfl | hj
  · exact ⟨_, _, h.hr, .inl rfl⟩
  · exact ⟨_, _, h.hh, .inr (.inl rfl)⟩
  · obtain ⟨_, _, cs, hk⟩ := row_atk h.row hj
    exact ⟨cs, _, hk, .inr (.inr rfl)⟩
theorem Rf.not (h : Rf B r hb n v s L lo lc w) {j : Nat} {cs : Array Value} {t : TypeId} {q : Nat × Nat} (ho : w.heap[j]? = some (.cells cs t q)) (hk : t ≠ 60 ∧ t ≠ 3 ∧ t ≠ 82) : ¬ RO r hb lo j := by
  intro hj
  obtain ⟨cs', t', h', z⟩ := h.kind hj
  have : t ≠ t' := by rcases z with rfl | rfl | rfl; exact hk.1; exact hk.2.1; exact hk.2.2
  exact cells_ne ho h' this rfl
/-- the program's cache and the document's stand for the same -/
structure Pr (B c g n v : Nat) (b : Nat → Nat) (r hb : Nat) (s : St) (lo : Option Addr) (w : World) : Prop where
  ca : Ca B c g n v b s w
  rf : ∃ L lc, Rf B r hb n v s L lo lc w
/-- the blocks of both -/
def PB (c g n : Nat) (b : Nat → Nat) (r hb : Nat) (lo : Option Addr) (j : Nat) : Prop := Own c g n b j ∨ RO r hb lo j
theorem Pr.kept {S : Nat → Prop} (h : Pr B c g n v b r hb s lo w) (t : Turn S w w') (hn : ∀ j, PB c g n b r hb lo j → ¬ S j) : Pr B c g n v b r hb s lo w' := by
  obtain ⟨L, lc, hr⟩ := h.rf
  exact ⟨h.ca.kept t (fun j hj => hn j (.inl hj)), L, lc, hr.kept t (fun j hj => hn j (.inr hj))⟩
theorem Pr.below (h : Pr B c g n v b r hb s lo w) (q : Below w.heap.size w w') : Pr B c g n v b r hb s lo w' := h.kept (turn_below (S := fun _ => False) q) (fun _ _ z => z)
theorem Ca.own_lt (h : Ca B c g n v b s w) {j : Nat} (hj : Own c g n b j) : j < w.heap.size := by
  obtain ⟨_, _, hk, _⟩ := h.kind hj
  exact lt_of_heap hk
theorem Pr.lt (h : Pr B c g n v b r hb s lo w) {j : Nat} (hj : PB c g n b r hb lo j) : j < w.heap.size := by
  rcases hj with hj | hj
  · exact h.ca.own_lt hj
  · obtain ⟨L, lc, hr⟩ := h.rf
    exact (hr.low hj).2
theorem Pr.not (h : Pr B c g n v b r hb s lo w) {j : Nat} {cs : Array Value} {t : TypeId} {q : Nat × Nat} (ho : w.heap[j]? = some (.cells cs t q)) (hk : t ≠ 63 ∧ t ≠ 66 ∧ t ≠ 76) (hk' : t ≠ 60 ∧ t ≠ 3 ∧ t ≠ 82) : ¬ PB c g n b r hb lo j := fun hj => by
  rcases hj with hj | hj
  · exact h.ca.not ho hk hj
  · obtain ⟨L, lc, hr⟩ := h.rf
    exact hr.not ho hk' hj
/-- the two of a pair lie apart -/
theorem Pr.apart (h : Pr B c g n v b r hb s lo w) {j : Nat} (hj : Own c g n b j) : ¬ RO r hb lo j := fun hr => by
  obtain ⟨L, lc, hf⟩ := h.rf
  obtain ⟨cs, t, hk, hz⟩ := hf.kind hr
  exact h.ca.not hk (by rcases hz with rfl | rfl | rfl <;> decide) hj
/-- what a call leaves of a pair -/
def PT (B c g n v : Nat) (b : Nat → Nat) (r hb : Nat) (s' : St) (lo : Option Addr) (w w' : World) : Prop := ∃ lo', Pr B c g n v b r hb s' lo' w' ∧ Turn (PB c g n b r hb lo) w w' ∧ ∀ j, PB c g n b r hb lo' j → PB c g n b r hb lo j ∨ w.heap.size ≤ j
/-- first the program, then the document -/
theorem Pr.both {s' : St} {w1 w2 : World} {L : List Dc} (h : Pr B c g n v b r hb s lo w) (h1 : Ca B c g n v b s' w1) (t1 : Turn (Own c g n b) w w1) (h2 : RT B r hb n v s' lo w1 w2) : PT B c g n v b r hb s' lo w w2 := by
  obtain ⟨L', lo', lc', hf, t2, hat⟩ := h2
  refine ⟨lo', ⟨h1.kept t2 (fun j hj => h.apart hj), L', lc', hf⟩, (t1.mono (fun j _ q => .inl q)).trans (t2.mono (fun j _ q => .inr q)), fun j hj => ?_⟩
  rcases hj with hj | hj | hj | hj
  · exact .inl (.inl hj)
  · exact .inl (.inr (.inl hj))
  · exact .inl (.inr (.inr (.inl hj)))
  · rcases hat j hj with q | q
    · exact .inl (.inr (.inr (.inr q)))
    · exact .inr (Nat.le_trans t1.size q)
end C
end Go.Proofs.Ytjmkofdnlhfaiaa
