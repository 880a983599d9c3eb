import Derived.Test.YtaoglenfbbaliaaMxW
import Derived.ArgAppend
set_option linter.unusedVariables false
set_option linter.unusedSimpArgs false
namespace Go.Proofs.Ytaoglenfbbaliaa
open Go.RowKit
namespace X
open C F A
/-- append of a slice to a row of slices: in place, or the old block stays -/
theorem wpList_slp (w : World) {ops : Array Oper} {rest : List Oper} {o : Oper} {a : Act} {Q : Exit → Act → World → Prop} (hgd : o.guard = none) (s y : Operand)
    (ho : o.op = .call { callee := .builtin .append, args := #[s, y], argTypes := #[31, 31] }) {B : Nat} {ro : Option Addr} {rc : Nat} {xs : List Value} {n : Nat} (hn : xs.length = n) (hrow : w.ownsRow B 23 1 (.slice ro n rc) n xs) (hl : Hid (n < 1000)) (hB : B ≤ w.heap.size) (v : Value) (hv1 : v.oneCell' = true) (c : Nat) (hs : a.eval s = .slice ro n rc) (hx : a.eval y = .slice (some ⟨w.heap.size, 0, none⟩) 1 c)
    (hk : ∀ gg cap' w1, w1.ownsRow B 23 1 (.slice (some ⟨gg, 0, none⟩) (n + 1) cap') (n + 1) (xs ++ [v]) → Turn (At ro) w w1 → (ro = some ⟨gg, 0, none⟩ ∧ cap' = rc ∨ w.heap.size ≤ gg ∧ Turn (fun _ => False) w w1) → wpList Try.prog ops Q rest (a.put o.dst (.slice (some ⟨gg, 0, none⟩) (n + 1) cap')) w1) :
    wpList Try.prog ops Q (o :: rest) a (w.alloc (.cells #[v] 23)) := by
  subst hn
  obtain ⟨i0, hi0, hz0, hz1, hz2⟩ := info_parts info23
  have hrow' := World.ownsRow.alloc hrow (.cells #[v] 23)
  have hnews : ∀ j u, [v][j]? = some u → (w.alloc (.cells #[v] 23)).cell? ((⟨w.heap.size, 0, none⟩ : Addr).add j) = some u := fun j u hj => World.news_of_block (heap_alloc_new w (.cells #[v] 23)) j u (by simpa using hj)
  have hone : ∀ u ∈ [v], u.oneCell' = true := fun u hu => by rw [List.mem_singleton.1 hu]; exact hv1
  by_cases hr : xs.length + 1 ≤ rc
  · rcases hrow.2 with ⟨hv, h0⟩ | ⟨g, cap', cur, hv, hb, hg, hrest⟩
    · simp only [Value.slice.injEq] at hv
      obtain ⟨_, _, rfl⟩ := hv
      omega
    · simp only [Value.slice.injEq] at hv
      obtain ⟨rfl, _, rfl⟩ := hv
      refine wpList_append_fits _ hgd s y 31 ho B 23 i0 1 Try.underlying31 hi0 hz1 g xs.length rc xs hs hrow' ⟨w.heap.size, 0, none⟩ 1 c [v] hx (by simp) hnews hone hr ?_
      intro w1 r1 g1
      exact hk g rc w1 r1 (((Turn.refl _ w).alloc _).grown g1 (fun k hk _ => ⟨_, rfl, by cases hk; rfl⟩)) (.inl ⟨rfl, rfl⟩)
  · refine wpList_append_grows _ hgd s y 31 ho 23 i0 (.slice none 0 0) 1 24 Try.underlying31 hi0 hz0 hz1 hz2 rfl (by omega) ro xs.length rc xs hs ?_ (by omega) ?_ ⟨w.heap.size, 0, none⟩ 1 c [v] hx (by simp) hnews hone (by omega) (by have := hl.out; unfold maxLen; omega) (by have := hl.out; omega) ?_
    · intro h
      subst h
      rcases hrow.2 with ⟨hv, h0⟩ | ⟨g, cap', cur, hv, _⟩
      · simp only [Value.slice.injEq] at hv
        exact ⟨h0, hv.2.2⟩
      · cases hv
    · intro b hb j u hj
      subst hb
      obtain ⟨_, hq, _⟩ := row_kind hrow' (j := b.block) ⟨b, rfl, rfl⟩
      have hq' := Option.some.inj hq
      rw [hq'] at hrow' ⊢
      exact row_cell hrow' j u hj
    · intro v' w1 r1 g1
      rcases r1.2 with ⟨_, h0⟩ | ⟨gg, cap', cur, rfl, hb, _⟩
      · omega
      · have e : (w.alloc (.cells #[v] 23)).heap.size = w.heap.size + 1 := by simp
        have hb' : w.heap.size ≤ gg := by omega
        have t : Turn (fun _ => False) w w1 := ((Turn.refl _ w).alloc _).grown g1 (fun k hk => by cases hk)
        have r2 : w1.ownsRow B 23 1 (.slice (some ⟨gg, 0, none⟩) (xs.length + 1) cap') (xs.length + 1) (xs ++ [v]) := by
          refine ⟨r1.1, ?_⟩
          rcases r1.2 with h | ⟨g2, c2, cur2, hv, hb2, rest2⟩
          · exact .inl h
          · exact .inr ⟨g2, c2, cur2, hv, by omega, rest2⟩
        exact hk gg cap' w1 r2 (t.mono (fun _ _ q => q.elim)) (.inr ⟨hb', t⟩)
/-- cells of a slice of slices that stand -/
def Cs (w : World) (ao : Option Addr) (vs : List Rw) : Prop := vs = [] ∨ ∃ b, ao = some ⟨b, 0, none⟩ ∧ b < w.heap.size ∧ (∃ cs q, w.heap[b]? = some (.cells cs 23 q)) ∧ ∀ (j : Nat) (r : Rw), vs[j]? = some r → w.cell? ⟨b, j, none⟩ = some r.v
theorem Cs.of {B : Nat} {w : World} {ao : Option Addr} {cap n : Nat} {vs us : List Rw} (hn : n = (vs ++ us).length) (h : w.ownsRow B 23 1 (.slice ao n cap) n ((vs ++ us).map Rw.v)) : Cs w ao vs := by
  by_cases h0 : vs = []
  · exact .inl h0
  · right
    rcases h.2 with ⟨_, hz⟩ | ⟨g, cap', cur, hv, hb, hg, _⟩
    · rw [hn, List.length_append] at hz
      exact absurd (List.length_eq_zero_iff.1 (by omega)) h0
    · simp only [Value.slice.injEq] at hv
      obtain ⟨rfl, _, _⟩ := hv
      refine ⟨g, rfl, lt_of_heap hg, ⟨cur, _, hg⟩, fun j r hr => ?_⟩
      have hj := (List.getElem?_eq_some_iff.1 hr).1
      rw [h.cellAt j (by rw [hn, List.length_append]; omega), List.getElem?_map, List.getElem?_append_left hj, hr]
      rfl
theorem Cs.turn {S : Nat → Prop} {w w' : World} {ao : Option Addr} {vs : List Rw} (h : Cs w ao vs) (t : Turn S w w') (hn : ∀ j, At ao j → ¬ S j) : Cs w' ao vs := by
  rcases h with h | ⟨b, ha, hb, ⟨cs, q, hh⟩, hc⟩
  · exact .inl h
  · have hs := hn b ⟨_, ha, rfl⟩
    exact .inr ⟨b, ha, Nat.lt_of_lt_of_le hb t.size, ⟨cs, q, (t.block b hb hs).trans hh⟩, fun j r hr => (t.cell (p := ⟨b, j, none⟩) hb hs).trans (hc j r hr)⟩
end X
end Go.Proofs.Ytaoglenfbbaliaa
