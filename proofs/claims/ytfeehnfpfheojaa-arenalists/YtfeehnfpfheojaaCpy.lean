import Derived.Test.YtfeehnfpfheojaaMore
import Derived.Lib.SliceRun
import Derived.Deep.RegionHeld3
set_option linter.unusedVariables false
set_option linter.unusedSimpArgs false
namespace Go.Proofs.Ytfeehnfpfheojaa
open Go.RowKit Go.Sort
namespace HB
open Hp
variable {B : Nat} {w w' : World}
theorem eq_no (w : World) (a : Addr) (n c : Nat) : (binOp .eql 156 (.slice (some a) n c) (.slice none 0 0)).run Try.prog w = .ok (.bool false) w := Lib.run_eql_slice_nil w 156 165 (some a) n c 0 0 Try.underlying156
theorem eq_yes (w : World) : (binOp .eql 156 (.slice none 0 0) (.slice none 0 0)).run Try.prog w = .ok (.bool true) w := Lib.run_eql_slice_nil w 156 165 none 0 0 0 0 Try.underlying156
theorem ic_one (zs : List (Bk × Nat)) : ∀ u ∈ zs.flatMap ic, u.oneCell' = true := by
  intro u hu
  obtain ⟨z, _, hz⟩ := List.mem_flatMap.1 hu
  simp only [ic, List.mem_cons, List.not_mem_nil, or_false] at hz
  rcases hz with rfl | rfl | rfl | rfl <;> rfl
theorem row_cell {B e size n cap g : Nat} {xs : List Value} (h : w.ownsRow B e size (.slice (some ⟨g, 0, none⟩) n cap) n xs) : ∀ j u, xs[j]? = some u → w.cell? ((⟨g, 0, none⟩ : Addr).add j) = some u := by
  intro j u hj
  have hlt := (List.getElem?_eq_some_iff.1 hj).1
  rw [h.1] at hlt
  have : (⟨g, 0, none⟩ : Addr).add j = ⟨g, j, none⟩ := by unfold Addr.add; split <;> simp_all
  rw [this, h.cellAt j hlt]
  exact hj
set_option maxHeartbeats 400000 in
theorem clone_nil (w : World) : Calls Try.prog 97 #[.slice none 0 0] w fun e w' => e = .returned (.slice none 0 0) ∧ w' = w := by
  have h := eq_yes
  go_enter Try.func97, Try.ntmps97
  go_wp2
  go_ret
  exact ⟨rfl, rfl⟩
theorem wpList_clone (w0 : World) {ops : Array Oper} {rest : List Oper} {o : Oper} {a : Act} {Q : Exit → Act → World → Prop} (hgd : o.guard = none) (s y : Operand)
    (ho : o.op = .call { callee := .builtin .append, args := #[s, y], argTypes := #[156, 156] }) (hs : a.eval s = .slice (some ⟨w0.heap.size, 0, none⟩) 0 0) (gt cap B : Nat) (zs : List (Bk × Nat)) (hx : a.eval y = .slice (some ⟨gt, 0, none⟩) zs.length cap)
    (hrow : w0.ownsRow B 165 4 (.slice (some ⟨gt, 0, none⟩) zs.length cap) zs.length (zs.flatMap ic)) (hne : 0 < zs.length) (hl : zs.length < 2000000000000)
    (h : ∀ g cap' w', w'.ownsRow w0.heap.size 165 4 (.slice (some ⟨g, 0, none⟩) zs.length cap') zs.length (zs.flatMap ic) → Below w0.heap.size w0 w' → wpList Try.prog ops Q rest (a.put o.dst (.slice (some ⟨g, 0, none⟩) zs.length cap')) w') :
    wpList Try.prog ops Q (o :: rest) a (w0.alloc (.cells #[] 165)) := by
  obtain ⟨i0, hi0, hz0, hz1, hz2⟩ := info_parts info
  refine wpList_append_lies _ hgd s y 156 ho w0.heap.size 165 i0 _ 4 32 Try.underlying156 hi0 hz0 hz1 hz2 rfl (by omega) _ 0 [] hs (World.ownsRow_made w0 #[] 0 (Nat.le_refl _) (by decide) rfl) ⟨gt, 0, none⟩ zs.length cap (zs.flatMap ic) hx (flat_len ic_len zs) (row_cell (World.ownsRow.alloc hrow _)) (ic_one zs) hne (by unfold maxLen; omega) (by omega) (by simp) _ rfl ?_
  intro g cap' w1 hown hgrow hat hlt
  rw [Nat.zero_add, List.nil_append] at hown
  rw [Nat.zero_add]
  have t : Turn (fun j => j = w0.heap.size) w0 w1 := ((Turn.refl _ w0).alloc _).grown hgrow (fun k hk _ => by simpa [Value.ownBlock] using hk.symm)
  exact h g cap' w1 hown (t.below (fun k hk => by rw [hk]; exact Nat.le_refl _) (Nat.le_refl _))
set_option maxRecDepth 100000 in
set_option maxHeartbeats 400000 in
theorem clone_some (gt cap : Nat) (zs : List (Bk × Nat)) (w : World) (hrow : w.ownsRow B 165 4 (.slice (some ⟨gt, 0, none⟩) zs.length cap) zs.length (zs.flatMap ic)) (hne : 0 < zs.length) (hl : zs.length < 2000000000000) : Calls Try.prog 97 #[.slice (some ⟨gt, 0, none⟩) zs.length cap] w fun e w' => ∃ g rc, e = .returned (.slice (some ⟨g, 0, none⟩) zs.length rc) ∧ w'.ownsRow w.heap.size 165 4 (.slice (some ⟨g, 0, none⟩) zs.length rc) zs.length (zs.flatMap ic) ∧ Below w.heap.size w w' := by
  have h := eq_no
  have HL := hide' hl
  have HN := hide' hne
  clear hl hne
  go_enter Try.func97, Try.ntmps97
  go_wp2_with (at_builtin; refine wpList_clone w rfl _ _ rfl rfl gt cap B zs rfl hrow HN.out HL.out ?_; intro g cap' w1 h1 b1)
  go_ret
  exact ⟨g, cap', rfl, h1, b1⟩
set_option maxRecDepth 100000 in
set_option maxHeartbeats 400000 in
theorem clone_zero (a : Addr) (cap : Nat) (w : World) : Calls Try.prog 97 #[.slice (some a) 0 cap] w fun e w' => ∃ g rc, e = .returned (.slice (some ⟨g, 0, none⟩) 0 rc) ∧ w'.ownsRow w.heap.size 165 4 (.slice (some ⟨g, 0, none⟩) 0 rc) 0 [] ∧ Below w.heap.size w w' := by
  have h := eq_no
  have hr := hide' (World.ownsRow_made (base := w.heap.size) (e := 165) (size := 4) w #[] 0 (Nat.le_refl _) (by decide) rfl)
  have hb := (Below.refl w.heap.size w).alloc (Nat.le_refl _) (.cells #[] 165)
  go_enter Try.func97, Try.ntmps97
  go_wp2
  go_ret
  exact ⟨_, _, rfl, hr.out, hb⟩
theorem clone_any {ao : Option Addr} {cap : Nat} {zs : List (Bk × Nat)} (hrow : w.ownsRow B 165 4 (.slice ao zs.length cap) zs.length (zs.flatMap ic)) (hl : zs.length < 2000000000000) : Calls Try.prog 97 #[.slice ao zs.length cap] w fun e w' => ∃ ro rc, e = .returned (.slice ro zs.length rc) ∧ w'.ownsRow w.heap.size 165 4 (.slice ro zs.length rc) zs.length (zs.flatMap ic) ∧ Below w.heap.size w w' := by
  rcases hrow.2 with ⟨hv, h0⟩ | ⟨g, cap', cur, hv, rest⟩
  · have hz : zs = [] := List.length_eq_zero_iff.1 h0
    subst hz
    simp only [Value.slice.injEq] at hv
    obtain ⟨rfl, _, rfl⟩ := hv
    exact (clone_nil w).mono fun e w' ⟨he, hw⟩ => by subst hw; exact ⟨none, 0, he, World.ownsRow_nil _ _ _ _, Below.refl _ _⟩
  · simp only [Value.slice.injEq] at hv
    obtain ⟨rfl, _, _⟩ := hv
    by_cases h0 : zs.length = 0
    · have hz : zs = [] := List.length_eq_zero_iff.1 h0
      subst hz
      exact (clone_zero _ cap w).mono fun e w' ⟨g', rc, he, h2, h3⟩ => ⟨_, rc, he, h2, h3⟩
    · exact (clone_some g cap zs w hrow (by omega) hl).mono fun e w' ⟨g', rc, he, h2, h3⟩ => ⟨_, rc, he, h2, h3⟩
variable {h : Nat} {fv : Value} {zs : List (Bk × Nat)} {cnt : Nat} {D : Nat → Prop}
set_option maxRecDepth 100000 in
set_option maxHeartbeats 4000000 in
theorem copied_any {nf : Nat} {cb : Array Value} (H : Ho D B h (.func (.func nf) #[] cb) zs cnt w) (hl : zs.length < 2000000000000) : Calls Try.prog 78 #[.pointer (some ⟨h, 0, none⟩)] w fun e w' => ∃ h', e = .returned (.pointer (some ⟨h', 0, none⟩)) ∧ ∃ D', Ho D' w.heap.size h' (.func (.func nf) #[] cb) zs cnt w' ∧ Below w.heap.size w w' := by
  obtain ⟨ao, cap, hm, hd⟩ := H
  have c0 := hm.c0
  have c1 := hm.c1
  have c2 := hm.c2
  have hlt := hm.lt
  have HC := hide' (show Calls Try.prog 97 #[.slice ao zs.length cap] w.drew fun e w' => ∃ ro rc, e = .returned (.slice ro zs.length rc) ∧ w'.ownsRow w.heap.size 165 4 (.slice ro zs.length rc) zs.length (zs.flatMap ic) ∧ Below w.heap.size w.drew w' from clone_any (w := w.drew) hm.row hl)
  clear hm hd hl
  go_enter Try.func78, Try.ntmps78
  go_wp2_with fail
  go_region_held3 (fun w' => w'.cell? ⟨h, 0, none⟩ = some (.func (.func nf) #[] cb) ∧ w'.cell? ⟨h, 1, none⟩ = some (.slice ao zs.length cap) ∧ w'.cell? ⟨h, 2, none⟩ = some (.int .i64 (cnt : Nat))) (first | go_keep | exact ⟨k0, k1, k2⟩) ((refine HC.out.mono ?_; rintro e w2 ⟨ro, rc, rfl, r2, b2⟩; have k0 := (b2.cell (p := ⟨h, 0, none⟩) hlt).trans c0; have k1 := (b2.cell (p := ⟨h, 1, none⟩) hlt).trans c1; have k2 := (b2.cell (p := ⟨h, 2, none⟩) hlt).trans c2))
  rename_i hHeld
  clear hHeld
  have KK : Hid (Hm w.heap.size w2.heap.size (.func (.func nf) #[] cb) ro rc zs cnt (w2.alloc (.cells #[.func (.func nf) #[] cb, .slice ro zs.length rc, .int .i64 (cnt : Nat)] 158)) ∧ Below w.heap.size w (w2.alloc (.cells #[.func (.func nf) #[] cb, .slice ro zs.length rc, .int .i64 (cnt : Nat)] 158))) := hide' ⟨⟨heap_alloc_new _ _, World.ownsRow.alloc r2 _, b2.size⟩, ((Below.refl w.heap.size w).drew.trans b2).alloc b2.size _⟩
  clear r2 b2 k0 k1 k2 HC
  go_wp2
  go_ret
  exact ⟨_, rfl, _, ⟨ro, rc, KK.out.1, fun _ => Iff.rfl⟩, KK.out.2⟩
end HB
namespace Fr
theorem copied_any {D : Nat → Prop} {B h : Nat} {F : List Bk} {cnt : Nat} {w : World} (H : Fr D B h F cnt w) (hl : F.length < 2000000000000) : Calls Try.prog 78 #[.pointer (some ⟨h, 0, none⟩)] w fun e w' => ∃ h', e = .returned (.pointer (some ⟨h', 0, none⟩)) ∧ ∃ D', Fr D' w.heap.size h' F cnt w' ∧ Below w.heap.size w w' := by
  obtain ⟨zs, h1, h2, h3⟩ := H
  have hlen : zs.length = F.length := by have := h2.length_eq; simpa using this
  refine (HB.copied_any h1 (by omega)).mono ?_
  rintro e w' ⟨h', he, D', ho, hb⟩
  exact ⟨h', he, D', ⟨zs, ho, h2, h3⟩, hb⟩
end Fr
end Go.Proofs.Ytfeehnfpfheojaa
