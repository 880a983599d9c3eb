import Derived.Test.YtbbopkhgmgdlfaaOwnT
set_option linter.unusedVariables false
set_option linter.unusedSimpArgs false
namespace Go.Proofs.Ytbbopkhgmgdlfaa
open Go.RowKit
namespace F
open M
variable {U D R : Nat → Prop} {B x y n m : Nat} {ws ws' : List Int} {tr tr' : List Ac} {bad bad' : Nat} {w w' w1 w2 : World}
/-- the program's memory and the document's, of the same words, trace and refusals -/
def Pr (U : Nat → Prop) (B x y : Nat) (ws : List Int) (m : Nat) (tr : List Ac) (bad : Nat) (w : World) : Prop :=
  ∃ D R, Mem D B x ws tr bad w ∧ Rem R B y ws m tr bad w ∧ (∀ j, D j → ¬ R j) ∧ ∀ j, U j ↔ D j ∨ R j
def PTo (U : Nat → Prop) (B x y : Nat) (ws : List Int) (m : Nat) (tr : List Ac) (bad : Nat) (w w' : World) : Prop :=
  ∃ U', Pr U' B x y ws m tr bad w' ∧ Turn U w w' ∧ ∀ j, U' j → U j ∨ w.heap.size ≤ j
theorem Pr.low (h : Pr U B x y ws m tr bad w) {j : Nat} (hj : U j) : B ≤ j ∧ j < w.heap.size := by
  obtain ⟨D, R, h1, h2, h3, h4⟩ := h
  rcases (h4 j).1 hj with q | q
  · exact h1.lo q
  · exact h2.low q
theorem Pr.base (h : Pr U B x y ws m tr bad w) : B ≤ w.heap.size := by
  obtain ⟨D, R, h1, h2, h3, h4⟩ := h
  exact h1.base
theorem Pr.kept {S : Nat → Prop} (h : Pr U B x y ws m tr bad w) (t : Turn S w w') (hn : ∀ j, U j → ¬ S j) : Pr U B x y ws m tr bad w' := by
  obtain ⟨D, R, h1, h2, h3, h4⟩ := h
  exact ⟨D, R, h1.kept t (fun j hj => hn j ((h4 j).2 (.inl hj))), h2.kept t (fun j hj => hn j ((h4 j).2 (.inr hj))), h3, h4⟩
theorem Pr.below (h : Pr U B x y ws m tr bad w) (t : Below w.heap.size w w') : Pr U B x y ws m tr bad w' := h.kept (turn_below (S := fun _ => False) t) (fun _ _ q => q)
/-- first the one, then the other -/
theorem pair_to {m' : Nat} (hM : Mem D B x ws tr bad w) (hR : Rem R B y ws m tr bad w) (hdis : ∀ j, D j → ¬ R j) (hU : ∀ j, U j ↔ D j ∨ R j) (t1 : To D B x ws' tr' bad' w w1) (t2 : RTo R B y ws' m' tr' bad' w1 w2) : PTo U B x y ws' m' tr' bad' w w2 := by
  obtain ⟨D', hM', u1, s1⟩ := t1
  obtain ⟨R', hR', u2, s2⟩ := t2
  have d1 : ∀ j, D' j → ¬ R j := fun j hj q => by
    rcases s1 j hj with p | p
    · exact hdis j p q
    · have := (hR.low q).2; omega
  refine ⟨fun j => D' j ∨ R' j, ⟨D', R', hM'.kept u2 d1, hR', fun j hj q => ?_, fun j => Iff.rfl⟩, ?_, fun j hj => ?_⟩
  · rcases s2 j q with p | p
    · exact d1 j hj p
    · have := (hM'.lo hj).2; omega
  · exact (u1.mono (fun j _ q => (hU j).2 (.inl q))).trans (u2.mono (fun j _ q => (hU j).2 (.inr q)))
  · rcases hj with q | q
    · rcases s1 j q with p | p
      · exact .inl ((hU j).2 (.inl p))
      · exact .inr p
    · rcases s2 j q with p | p
      · exact .inl ((hU j).2 (.inr p))
      · exact .inr (Nat.le_trans u1.size p)
theorem rem_behind (hR : Rem R B y ws m tr bad w) (hdis : ∀ j, D j → ¬ R j) (t1 : To D B x ws' tr' bad' w w1) : Rem R B y ws m tr bad w1 := by
  obtain ⟨D', hM', u1, s1⟩ := t1
  exact hR.kept u1 (fun j hj q => hdis j q hj)
theorem PTo.alloc {o : Obj} (t : PTo U B x y ws m tr bad (w.alloc o) w') : PTo U B x y ws m tr bad w w' := by
  obtain ⟨D', h, t, s⟩ := t
  refine ⟨D', h, ((Turn.refl U w).alloc o).trans t, fun j hj => ?_⟩
  rcases s j hj with q | q
  · exact .inl q
  · simp at q; exact .inr (by omega)
theorem PTo.drew (t : PTo U B x y ws m tr bad w.drew w') : PTo U B x y ws m tr bad w w' := by
  obtain ⟨D', h, t, s⟩ := t
  exact ⟨D', h, ((Turn.refl U w).drew).trans t, s⟩
/-- some state behind a step -/
def PSome (U : Nat → Prop) (B x y n l m : Nat) (w w' : World) : Prop := ∃ ws tr bad, ws.length = n ∧ tr.length ≤ l ∧ PTo U B x y ws m tr bad w w'
theorem Mem.drew' (h : Mem D B x ws tr bad w) : Mem D B x ws tr bad w.drew := h.kept ((Turn.refl (fun _ => False) w).drew) (fun _ _ q => q)
theorem Rem.drew (h : Rem D B x ws m tr bad w) : Rem D B x ws m tr bad w.drew := h.kept ((Turn.refl (fun _ => False) w).drew) (fun _ _ q => q)
theorem Rem.alloc (h : Rem D B x ws m tr bad w) (o : Obj) : Rem D B x ws m tr bad (w.alloc o) := h.below ((Below.refl _ _).alloc (Nat.le_refl _) o)
/-- a block beside the memory is as it was -/
theorem beside {o : Obj} {s : Nat} (t1 : To D B x ws' tr' bad' w w1) (hs : w.heap[s]? = some o) (hn : ¬ D s) : w1.heap[s]? = some o := by
  obtain ⟨D', hM', u1, s1⟩ := t1
  exact (u1.block s (lt_of_heap hs) hn).trans hs
theorem rbeside {o : Obj} {s : Nat} (t1 : RTo D B x ws' m tr' bad' w w1) (hs : w.heap[s]? = some o) (hn : ¬ D s) : w1.heap[s]? = some o := by
  obtain ⟨D', hM', u1, s1⟩ := t1
  exact (u1.block s (lt_of_heap hs) hn).trans hs
theorem pr_more (h : Pr U B x y ws m tr bad w) : Pr U B x y ws (m + 1) tr bad w := by
  obtain ⟨D, R, h1, h2, h3, h4⟩ := h
  exact ⟨D, R, h1, h2.more (Nat.le_succ m), h3, h4⟩
theorem rto_more (h : RTo D B x ws m tr bad w w') : RTo D B x ws (m + 1) tr bad w w' := by
  obtain ⟨D', h1, h2, h3⟩ := h
  exact ⟨D', h1.more (Nat.le_succ m), h2, h3⟩
theorem fill_to (h : Mem D B x ws' tr bad w') (t : Turn D w w') : To D B x ws' tr bad w w' := ⟨D, h, t, fun j hj => .inl hj⟩
theorem piece_le (ws : List Int) (a n : Int) : (piece ws a n).length ≤ ws.length := by
  unfold piece
  split
  · rw [List.length_take, List.length_drop]; omega
  · simp
/-- an entry of another kind -/
theorem mnote (z : Ac) (h : Mem D B x ws tr bad w) (hl : tr.length < 1999999999999) : Calls Try.prog 46 #[.pointer (some ⟨x, 0, none⟩), .agg #[.int .i8 z.kind, .int .i64 z.addr, .int .i64 z.value, .int .i64 z.old, .bool z.good]] w fun e w' => e = .returned (.tuple #[]) ∧ To D B x ws (tr ++ [z]) bad w w' := by
  have hB := h.base
  obtain ⟨hb, g, ao, cap, hm, hd⟩ := h
  exact (M.note_any z hm (by omega) hB).mono fun e w' ⟨he, gg, cap', h2, t2, hg⟩ => ⟨he, to_note hd (by omega) h2 (Turn.refl _ _) t2 hg⟩
end F
end Go.Proofs.Ytbbopkhgmgdlfaa
