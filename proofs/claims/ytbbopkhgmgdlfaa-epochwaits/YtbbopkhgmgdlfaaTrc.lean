import Derived.Test.YtbbopkhgmgdlfaaMade
import Derived.Lib.SliceRun
set_option linter.unusedVariables false
set_option linter.unusedSimpArgs false
namespace Go.Proofs.Ytbbopkhgmgdlfaa
open Go.RowKit
namespace M
variable {D : Nat → Prop} {B x : Nat} {ws : List Int} {tr : List Ac} {bad : Nat} {w w' : World}
theorem eq_no (w : World) (a : Addr) (n c : Nat) : (binOp .eql 54 (.slice (some a) n c) (.slice none 0 0)).run Try.prog w = .ok (.bool false) w := Lib.run_eql_slice_nil w 54 75 (some a) n c 0 0 Try.underlying54
theorem eq_yes (w : World) : (binOp .eql 54 (.slice none 0 0) (.slice none 0 0)).run Try.prog w = .ok (.bool true) w := Lib.run_eql_slice_nil w 54 75 none 0 0 0 0 Try.underlying54
set_option maxHeartbeats 400000 in
theorem clone_nil (w : World) : Calls Try.prog 42 #[.slice none 0 0] w fun e w' => e = .returned (.slice none 0 0) ∧ w' = w := by
  have h := eq_yes
  go_enter Try.func42, Try.ntmps42
  go_wp2
  go_ret
  exact ⟨rfl, rfl⟩
def acs (tr : List Ac) : List Value := tr.flatMap Ac.cells
theorem acs_len (tr : List Ac) : (acs tr).length = tr.length * 5 := by
  induction tr with
  | nil => rfl
  | cons a r ih => simp only [acs, List.flatMap_cons, List.length_append, List.length_cons] at ih ⊢; rw [ih]; simp [Ac.cells]; omega
theorem acs_one (tr : List Ac) : ∀ u ∈ acs tr, u.oneCell' = true := by
  intro u hu
  obtain ⟨z, _, hz⟩ := List.mem_flatMap.1 hu
  simp only [Ac.cells, List.mem_cons, List.not_mem_nil, or_false] at hz
  rcases hz with rfl | rfl | rfl | rfl | rfl <;> rfl
theorem row_cell {B e size n cap g : Nat} {xs : List Value} (h : w.ownsRow B e size (.slice (some ⟨g, 0, none⟩) n cap) n xs) : ∀ j u, xs[j]? = some u → w.cell? ((⟨g, 0, none⟩ : Addr).add j) = some u := by
  intro j u hj
  rcases h.2 with ⟨hv, _⟩ | ⟨g', cap', cur, hv, hb, hg', h1, h2, h3, h4⟩
  · cases hv
  · simp only [Value.slice.injEq, Option.some.injEq] at hv
    obtain ⟨hv1, _, _⟩ := hv
    cases hv1
    have : (⟨g, 0, none⟩ : Addr).add j = ⟨g, j, none⟩ := by unfold Addr.add; split <;> simp_all
    rw [this, Lib.cell_of_heap hg']
    rw [← h4] at hj
    have hlt := (List.getElem?_eq_some_iff.1 hj).1
    rw [List.length_take] at hlt
    rw [List.getElem?_take_of_lt (by omega), Array.getElem?_toList] at hj
    exact hj
theorem wpList_clone (w0 : World) {ops : Array Oper} {rest : List Oper} {o : Oper} {a : Act} {Q : Exit → Act → World → Prop} (hgd : o.guard = none) (s y : Operand)
    (ho : o.op = .call { callee := .builtin .append, args := #[s, y], argTypes := #[54, 54] }) (hs : a.eval s = .slice (some ⟨w0.heap.size, 0, none⟩) 0 0) (gt cap B : Nat) (tr : List Ac) (hx : a.eval y = .slice (some ⟨gt, 0, none⟩) tr.length cap)
    (hrow : w0.ownsRow B 75 5 (.slice (some ⟨gt, 0, none⟩) tr.length cap) tr.length (acs tr)) (hne : 0 < tr.length) (hl : tr.length < 2000000000000)
    (h : ∀ g cap' w', w'.ownsRow w0.heap.size 75 5 (.slice (some ⟨g, 0, none⟩) tr.length cap') tr.length (acs tr) → Below w0.heap.size w0 w' → wpList Try.prog ops Q rest (a.put o.dst (.slice (some ⟨g, 0, none⟩) tr.length cap')) w') :
    wpList Try.prog ops Q (o :: rest) a (w0.alloc (.cells #[] 75)) := by
  obtain ⟨i0, hi0, hz0, hz1, hz2⟩ := info_parts info37
  refine wpList_append_lies _ hgd s y 54 ho w0.heap.size 75 i0 _ 5 40 Try.underlying54 hi0 hz0 hz1 hz2 rfl (by omega) _ 0 [] hs (World.ownsRow_made w0 #[] 0 (Nat.le_refl _) (by decide) rfl) ⟨gt, 0, none⟩ tr.length cap (acs tr) hx (acs_len tr) (row_cell (World.ownsRow.alloc hrow _)) (acs_one tr) hne (by unfold maxLen; omega) (by omega) (by simp) _ rfl ?_
  intro g cap' w1 hown hgrow hat hlt
  rw [Nat.zero_add, List.nil_append] at hown
  rw [Nat.zero_add]
  have t : Turn (fun j => j = w0.heap.size) w0 w1 := ((Turn.refl _ w0).alloc _).grown hgrow (fun k hk _ => by simpa [Value.ownBlock] using hk.symm)
  exact h g cap' w1 hown (t.below (fun k hk => by rw [hk]; exact Nat.le_refl _) (Nat.le_refl _))
set_option maxRecDepth 100000 in
set_option maxHeartbeats 400000 in
theorem clone_some (gt cap : Nat) (w : World) (hrow : w.ownsRow B 75 5 (.slice (some ⟨gt, 0, none⟩) tr.length cap) tr.length (acs tr)) (hne : 0 < tr.length) (hl : tr.length < 2000000000000) : Calls Try.prog 42 #[.slice (some ⟨gt, 0, none⟩) tr.length cap] w fun e w' => ∃ g rc, e = .returned (.slice (some ⟨g, 0, none⟩) tr.length rc) ∧ w'.ownsRow w.heap.size 75 5 (.slice (some ⟨g, 0, none⟩) tr.length rc) tr.length (acs tr) ∧ Below w.heap.size w w' := by
  have h := eq_no
  have HL := hide' hl
  have HN := hide' hne
  clear hl hne
  go_enter Try.func42, Try.ntmps42
  go_wp2_with (at_builtin; refine wpList_clone w rfl _ _ rfl rfl gt cap B tr rfl hrow HN.out HL.out ?_; intro g cap' w1 h1 b1)
  go_ret
  exact ⟨g, cap', rfl, h1, b1⟩
theorem clone_any (ao : Option Addr) (cap : Nat) (w : World) (hrow : w.ownsRow B 75 5 (.slice ao tr.length cap) tr.length (acs tr)) (hn : tr = [] → ao = none) (hl : tr.length < 2000000000000) : Calls Try.prog 42 #[.slice ao tr.length cap] w fun e w' => ∃ ro rc, e = .returned (.slice ro tr.length rc) ∧ w'.ownsRow w.heap.size 75 5 (.slice ro tr.length rc) tr.length (acs tr) ∧ Below w.heap.size w w' := by
  by_cases h0 : tr = []
  · have := hn h0
    subst this
    subst h0
    rcases hrow.2 with ⟨hv, _⟩ | ⟨g', cap', cur, hv, _⟩
    · simp only [Value.slice.injEq] at hv
      obtain ⟨_, _, rfl⟩ := hv
      exact (clone_nil w).mono fun e w' ⟨he, hw⟩ => by subst hw; exact ⟨none, 0, he, World.ownsRow_nil _ _ _ _, Below.refl _ _⟩
    · cases hv
  · have h1 : 0 < tr.length := List.length_pos_iff.2 h0
    obtain ⟨g, cap', hv, _, _⟩ := hrow.form h1
    simp only [Value.slice.injEq] at hv
    obtain ⟨rfl, _, rfl⟩ := hv
    exact (clone_some g cap w hrow h1 hl).mono fun e w' ⟨g', rc, he, h2, h3⟩ => ⟨_, rc, he, h2, h3⟩
set_option maxRecDepth 100000 in
set_option maxHeartbeats 400000 in
theorem trace_any (h : Mem D B x ws tr bad w) (hl : tr.length < 2000000000000) : Calls Try.prog 14 #[.pointer (some ⟨x, 0, none⟩)] w fun e w' => ∃ ro rc, e = .returned (.slice ro tr.length rc) ∧ w'.ownsRow w.heap.size 75 5 (.slice ro tr.length rc) tr.length (acs tr) ∧ Below w.heap.size w w' := by
  obtain ⟨hb, g, ao, cap, hm, hd⟩ := h
  have c1 := hm.c1
  have H := hide' (clone_any ao cap w hm.row hm.nn hl)
  clear hm hd hb hl
  go_enter Try.func14, Try.ntmps14
  go_wp2_with fail
  refine H.out.mono ?_
  rintro e w2 ⟨ro, rc, rfl, h2, b2⟩
  go_wp2
  go_ret
  exact ⟨ro, rc, rfl, h2, b2⟩
end M
end Go.Proofs.Ytbbopkhgmgdlfaa
