import Derived.Test.YtbgjggblaeadlaaWhT
set_option linter.unusedVariables false
set_option linter.unusedSimpArgs false
namespace Go.Proofs.Ytbgjggblaeadlaa
open Go.RowKit
namespace X
open C F A
/-- a copy of numbers into a slice of one's own, within a round -/
theorem copyIn {F : Fence} {n : Nat} (w : World) {ops : Array Oper} {rest : List Oper} {o : Oper} {a : Act} {Q : Exit → Act → World → Prop}
    (hg : o.guard = none) (s x : Operand) (hop : o.op = Op.call { callee := Callee.builtin Builtin.append, args := #[s, x], argTypes := #[23, 23] })
    (hs : a.eval s = .slice none 0 0) {ro : Option Addr} {rc : Nat} {l : List Int} {B : Nat} (hx : a.eval x = .slice ro l.length rc) (hr : w.ownsRow B 3 1 (.slice ro l.length rc) l.length (ivs l)) (hl : l.length ≤ 1048576)
    (hK : ∀ ro' rc' w', Gr w.heap.size l ro' rc' w' → Turn (fun _ => False) w w' → wpListIn F n Try.prog ops Q rest (a.put o.dst (.slice ro' l.length rc')) w') :
    wpListIn F n Try.prog ops Q (o :: rest) a w := by
  obtain ⟨i0, hi0, hz0, hz1, hz2⟩ := info_parts info3
  have hI : Ints w ro l := Ints.of_row hr
  have hK2 : ∀ v' w', w'.ownsRow w.heap.size 3 1 v' (0 + l.length) ([] ++ ivs l) → w.grownBy w' (Value.slice none 0 0).ownBlock → wpListIn F n Try.prog ops Q rest (a.put o.dst v') w' := fun v' w' hown hgrow => by
    have hform : ∃ ro' rc', v' = .slice ro' l.length rc' := by
      rcases hown.2 with ⟨hv, h0⟩ | ⟨g, cap, cur, hv, _⟩
      · exact ⟨none, 0, by rw [hv, show l.length = 0 by omega]⟩
      · exact ⟨_, _, by rw [hv, Nat.zero_add]⟩
    obtain ⟨ro', rc', rfl⟩ := hform
    refine hK ro' rc' w' ⟨?_⟩ ((Turn.refl _ w).grown hgrow (fun k hk _ => by cases hk))
    rw [Nat.zero_add, List.nil_append] at hown
    exact hown
  cases ro with
  | none =>
    have h0 : l.length = 0 ∧ rc = 0 := by
      rcases hr.2 with ⟨hv, h0⟩ | ⟨g, cap, cur, hv, _⟩
      · simp only [Value.slice.injEq] at hv
        exact ⟨hv.2.1, hv.2.2⟩
      · cases hv
    obtain ⟨h1, rfl⟩ := h0
    have hln : l = [] := List.length_eq_zero_iff.1 h1
    subst hln
    have hrun := run_append_owned_none (P := Try.prog) (w := w) w.heap.size 23 o.type 3 i0 1 Try.underlying23 hi0 (.slice none 0 0) 0 [] (World.ownsRow_nil w _ 3 1)
    refine wpListIn_plain hg fun K hK' => ⟨?_, ?_⟩
    · simp [Oper.about, hop, resolve, Target.leads, Sem.run_pure]
    · rw [Oper.semAt_plain F _ _ (by rw [hop]; intro c hc'; cases hc')]
      simp only [List.length_nil] at hx
      simp [execOp, hop, resolve, invoke, builtin, hs, hx, hrun, Result.andThen]
      exact hK' _ _ (hK2 _ _ (World.ownsRow_nil w _ 3 1) ⟨rfl, rfl, rfl, Nat.le_refl _, fun _ _ _ => rfl⟩)
  | some ad =>
    have hnews : ∀ j u, (ivs l)[j]? = some u → w.cell? (ad.add j) = some u := fun j u hj => by
      have hlt := (List.getElem?_eq_some_iff.1 hj).1
      rw [ivs_len] at hlt
      rcases hI with h | ⟨b, off, hya, hb, hc⟩
      · rw [h] at hlt; simp at hlt
      cases hya
      have e : (⟨b, off, none⟩ : Addr).add j = ⟨b, off + j, none⟩ := by simp [Addr.add]
      rw [e, hc j hlt, ← hj]
      simp [ivs, List.getD, hlt]
    obtain ⟨v', w', hrun, h2, h3, _, _⟩ := run_append_own_at (P := Try.prog) w w.heap.size 23 o.type 3 i0 _ 1 8 Try.underlying23 hi0 hz0 hz1 hz2 rfl (by omega) (.slice none 0 0) 0 [] (World.ownsRow_nil w _ 3 1) ad l.length rc (ivs l) (by rw [ivs_len]; omega) hnews (ivs_one l) (by unfold maxLen; omega) (by omega) (Nat.le_refl _)
    refine wpListIn_plain hg fun K hK' => ⟨?_, ?_⟩
    · simp [Oper.about, hop, resolve, Target.leads, Sem.run_pure]
    · rw [Oper.semAt_plain F _ _ (by rw [hop]; intro c hc'; cases hc')]
      simp [execOp, hop, resolve, invoke, builtin, hs, hx, hrun, Result.andThen]
      exact hK' _ _ (hK2 _ _ h2 h3)
/-- behind the range: the lists, and the boxes -/
structure Gz (w : World) (x3 x4 x7 x9 df : Nat) (pv : Value) (M : Nat) (zs : List Int) (gs : List Rw) (go : Option Addr) (gc : Nat) (X : World) : Prop where
  sm : Sm w x3 x4 x7 pv M X
  hb : X.heap[x9]? = some (.cells #[.slice go gs.length gc] 31 (0, 0))
  hd : X.heap[df]? = some (.deferred (some []))
  row : ∃ B, X.ownsRow B 23 1 (.slice go gs.length gc) gs.length (gs.map Rw.v)
  ls : ∀ (i : Nat) (r : Rw), gs[i]? = some r → ∃ l, Chn zs i l ∧ r.len = l.length ∧ Ints X r.ao l
variable {w X X' : World} {x3 x4 x7 x9 df : Nat} {pv : Value} {M : Nat} {zs : List Int} {gs : List Rw} {go : Option Addr} {gc : Nat}
theorem Gz.below (h : Gz w x3 x4 x7 x9 df pv M zs gs go gc X) (b : Below X.heap.size X X') : Gz w x3 x4 x7 x9 df pv M zs gs go gc X' := by
  obtain ⟨B, hr⟩ := h.row
  exact ⟨h.sm.below b, (b.block x9 (lt_of_heap h.hb)).trans h.hb, (b.block df (Array.getElem?_eq_some_iff.1 h.hd).1).trans h.hd, ⟨B, (turn_below (S := fun _ => False) b).row hr (fun _ _ q => q)⟩, fun i r hi => by
    obtain ⟨l, h1, h2, h3⟩ := h.ls i r hi
    exact ⟨l, h1, h2, h3.below b⟩⟩
theorem Gz.of {V : World} {xf : Nat} {ps : List Int} {k : Nat} {fd : Bool} {Mm : Nat → Prop} {c9 cf : Array Value} (h : Gw V x9 xf zs ps k gs go gc fd Mm X) (hs : Sm w x3 x4 x7 pv M V) (hV9 : V.heap[x9]? = some (.cells c9 31 (0, 0))) (hVf : V.heap[xf]? = some (.cells cf 4 (0, 0))) (hd : X.heap[V.heap.size]? = some (.deferred (some []))) (h9 : w.heap.size ≤ x9 ∧ w.heap.size ≤ xf) (hne : xf ≠ x4) : Gz w x3 x4 x7 x9 V.heap.size pv M zs gs go gc X := by
  have m3 : ¬ (x3 = x9 ∨ x3 = xf) := fun e => e.elim (fun e => cells_ne hs.sq.h3 hV9 (by decide) e) (fun e => cells_ne hs.sq.h3 hVf (by decide) e)
  have m4 : ¬ (x4 = x9 ∨ x4 = xf) := fun e => e.elim (fun e => cells_ne hs.sq.h4 hV9 (by decide) e) (fun e => hne e.symm)
  have m7 : ¬ (x7 = x9 ∨ x7 = xf) := fun e => e.elim (fun e => cells_ne hs.h7 hV9 (by decide) e) (fun e => cells_ne hs.h7 hVf (by decide) e)
  exact ⟨⟨hs.sq.kept h.t m3 m4 (fun j e => e.elim (fun e => by rw [e]; exact h9.1) (fun e => by rw [e]; exact h9.2)), (h.t.block x7 (lt_of_heap hs.h7) m7).trans hs.h7, hs.l7⟩, h.hb, hd, ⟨_, h.row⟩, fun i r hi => by
    obtain ⟨l, h1, h2, h3⟩ := h.ls i r hi
    exact ⟨l, h1, h2, Ints.of_row h3.row⟩⟩
/-- a list of them -/
theorem Gz.at (h : Gz w x3 x4 x7 x9 df pv M zs gs go gc X) {i : Nat} (hi : i < gs.length) : ∃ g r l, go = some ⟨g, 0, none⟩ ∧ X.cell? ⟨g, i, none⟩ = some (.slice r.ao r.len r.cap) ∧ gs[i]? = some r ∧ Chn zs i l ∧ r.len = l.length ∧ Ints X r.ao l := by
  obtain ⟨B, hr⟩ := h.row
  have hg := List.getElem?_eq_getElem hi
  obtain ⟨l, h1, h2, h3⟩ := h.ls i _ hg
  rcases hr.2 with ⟨hv, h0⟩ | ⟨g, cap', cur, hv, hb, hgh, _⟩
  · omega
  · simp only [Value.slice.injEq] at hv
    refine ⟨g, _, l, hv.1, ?_, hg, h1, h2, h3⟩
    have hr' := hr
    rw [hv.1] at hr'
    have := row_cell hr' i (Rw.v gs[i]) (by simp [hi])
    have e : (⟨g, 0, none⟩ : Addr).add i = ⟨g, i, none⟩ := by unfold Addr.add; split <;> simp_all
    rw [e] at this
    exact this
/-- the next one is greater -/
theorem nx_lt {l l' : List Int} (h : Nx l l') : ∃ p, p < l.length ∧ p < l'.length ∧ (∀ j, j < p → l.getD j 0 = l'.getD j 0) ∧ l.getD p 0 < l'.getD p 0 := by
  obtain ⟨A, x, y, B, C, rfl, rfl, hxy, _⟩ := nx_split h
  refine ⟨A.length, by simp, by simp, fun j hj => ?_, ?_⟩
  · simp [List.getD_eq_getElem?_getD, List.getElem?_append_left hj]
  · simp [List.getD_eq_getElem?_getD]
    exact hxy
theorem chn_lt {i : Nat} {l l' : List Int} (h : Chn zs i l) (h' : Chn zs (i + 1) l') : ∃ p, p < l.length ∧ p < l'.length ∧ (∀ j, j < p → l.getD j 0 = l'.getD j 0) ∧ l.getD p 0 < l'.getD p 0 := by
  cases h' with
  | @succ _ a _ h1 hn =>
    have := h1.uniq h
    subst this
    exact nx_lt hn
end X
end Go.Proofs.Ytbgjggblaeadlaa
