import Derived.Test.YtkipcdjadmocaaaRef2
import Derived.Test.YtkipcdjadmocaaaAlgP
set_option linter.unusedVariables false
set_option linter.unusedSimpArgs false
namespace Go.Proofs.Ytkipcdjadmocaaa
open Go.RowKit
theorem lp_mem (p : Nat → Bool) (k i : Nat) : i ∈ lp p k ↔ i < k ∧ p i = true := by simp [lp]
/-- a list of numbers that lies in memory of its own -/
structure Nums (C : Nat) (ro : Option Addr) (rc : Nat) (L : List Nat) (w : World) : Prop where
  row : w.ownsRow C 3 1 (.slice ro L.length rc) L.length (i64s L)
theorem Nums.at' {C : Nat} {ro : Option Addr} {rc : Nat} {L : List Nat} {w : World} (h : Nums C ro rc L w) (hL : 0 < L.length) : ∃ g, ro = some ⟨g, 0, none⟩ ∧ C ≤ g ∧ g < w.heap.size ∧ ∀ j, j < L.length → w.cell? ⟨g, j, none⟩ = some (.int .i64 (L.getD j 0 : Nat)) := by
  obtain ⟨g, cap, hv, hb, hl⟩ := h.row.form hL
  simp only [Value.slice.injEq] at hv
  obtain ⟨rfl, _, rfl⟩ := hv
  exact ⟨g, rfl, hb, hl, fun j hj => row_at h.row j _ (by simp [i64s, List.getD, List.getElem?_eq_getElem hj])⟩
/-- held -/
theorem held_nil (w : World) : Calls Try.prog 63 #[.pointer none] w fun e w' => ∃ ro rc, e = .returned (.slice ro ([] : List Nat).length rc) ∧ Nums w.heap.size ro rc [] w' ∧ Below w.heap.size w w' := by
  go_enter Try.func63, Try.ntmps63
  go_wp2
  go_ret
  exact ⟨none, 0, rfl, ⟨World.ownsRow_nil _ _ _ _⟩, Below.refl _ _⟩
set_option maxHeartbeats 1000000 in
theorem held_some {B0 x : Nat} {ao : Option Addr} {cap R : Nat} {p : Nat → Bool} {w : World} (h : Rs B0 x ao cap R p w) : Calls Try.prog 63 #[.pointer (some ⟨x, 0, none⟩)] w fun e w' => ∃ ro rc, e = .returned (.slice ro (lp p R).length rc) ∧ Nums w.heap.size ro rc (lp p R) w' ∧ Below w.heap.size w w' := by
  have Ha := hide' (rall_any h)
  clear h
  generalize lp p R = L at *
  go_enter Try.func63, Try.ntmps63
  go_wp2_with fail
  refine Ha.out.mono ?_
  rintro e w1 ⟨ro, rc, rfl, hrow, b1⟩
  go_wp2
  go_ret
  exact ⟨ro, rc, rfl, ⟨hrow⟩, b1⟩
def addL (R : Nat) (p : Nat → Bool) (L : List Nat) : Nat → Bool := L.foldl (fun p (n : Nat) => addP R p (n : Int)) p
theorem addL_take (R : Nat) (p : Nat → Bool) (L : List Nat) (k : Nat) (h : k < L.length) : addL R p (L.take (k + 1)) = addP R (addL R p (L.take k)) (L.getD k 0 : Nat) := by
  have e : L.getD k 0 = L[k] := by simp [List.getD, List.getElem?_eq_getElem h]
  rw [List.take_succ_eq_append_getElem h, e]
  simp only [addL, List.foldl_append, List.foldl_cons, List.foldl_nil]
def dropL (p : Nat → Bool) (L : List Nat) : Nat → Bool := L.foldl (fun p (n : Nat) => dropP p (n : Int)) p
theorem dropL_take (p : Nat → Bool) (L : List Nat) (k : Nat) (h : k < L.length) : dropL p (L.take (k + 1)) = dropP (dropL p (L.take k)) (L.getD k 0 : Nat) := by
  have e : L.getD k 0 = L[k] := by simp [List.getD, List.getElem?_eq_getElem h]
  rw [List.take_succ_eq_append_getElem h, e]
  simp only [dropL, List.foldl_append, List.foldl_cons, List.foldl_nil]
/-- what 'changed' says: up -/
def Up (c : Bool) (p q : Nat → Bool) : Prop := (∀ i, p i = true → q i = true) ∧ ((c = true ∧ ∃ i, q i = true ∧ p i = false) ∨ (c = false ∧ q = p))
def Dn (c : Bool) (p q : Nat → Bool) : Prop := (∀ i, q i = true → p i = true) ∧ ((c = true ∧ ∃ i, q i = false ∧ p i = true) ∨ (c = false ∧ q = p))
theorem Up.step {R : Nat} {c : Bool} {p q : Nat → Bool} (h : Up c p q) (hq : ∀ k, R ≤ k → q k = false) (n : Nat) : Up (c || (fitB R (n : Int) && !hasB q (n : Int))) p (addP R q (n : Int)) := by
  have hh : hasB q (n : Int) = q n := by simp [hasB]
  have hf : fitB R (n : Int) = decide (n < R) := by simp only [fitB]; congr 1; rw [eq_iff_iff]; omega
  have hm : ∀ i, q i = true → addP R q (n : Int) i = true := fun i hi => by simp [addP, hi]
  rw [hh, hf]
  refine ⟨fun i hi => hm i (h.1 i hi), ?_⟩
  rcases h.2 with ⟨rfl, i, h1, h2⟩ | ⟨rfl, rfl⟩
  · left; exact ⟨by simp, i, hm i h1, h2⟩
  · by_cases hn : n < R
    · cases hqn : q n
      · left; exact ⟨by simp [hn], n, by simp [addP, hn], hqn⟩
      · right
        refine ⟨by simp, ?_⟩
        funext j; unfold addP
        by_cases e : j = n
        · subst e; simp [hqn]
        · rw [decide_eq_false (show ¬ (j : Int) = (n : Int) by omega)]; simp
    · right
      refine ⟨by simp [hn], ?_⟩
      funext j; unfold addP
      by_cases e : j < R
      · rw [decide_eq_false (show ¬ (j : Int) = (n : Int) by omega)]; simp
      · simp [e]
theorem Dn.step {c : Bool} {p q : Nat → Bool} (h : Dn c p q) (n : Nat) : Dn (c || hasB q (n : Int)) p (dropP q (n : Int)) := by
  have hh : hasB q (n : Int) = q n := by simp [hasB]
  have hm : ∀ i, q i = false → dropP q (n : Int) i = false := fun i hi => by simp [dropP, hi]
  rw [hh]
  refine ⟨fun i hi => h.1 i (by
    cases hqi : q i
    · rw [hm i hqi] at hi; cases hi
    · rfl), ?_⟩
  rcases h.2 with ⟨rfl, i, h1, h2⟩ | ⟨rfl, rfl⟩
  · left; exact ⟨by simp, i, hm i h1, h2⟩
  · cases hqn : q n
    · right
      refine ⟨by simp, ?_⟩
      funext j; unfold dropP
      by_cases e : j = n
      · subst e; simp [hqn]
      · rw [decide_eq_false (show ¬ (j : Int) = (n : Int) by omega)]; simp
    · left; exact ⟨by simp, n, by simp [dropP], hqn⟩
theorem Up.chg {R : Nat} {c : Bool} {p q : Nat → Bool} (h : Up c p q) (hp : Out R p) (hq : Out R q) : c = B.chg p q (nw R) := by
  rcases h.2 with ⟨rfl, i, h1, h2⟩ | ⟨rfl, rfl⟩
  · cases hc : B.chg p q (nw R)
    · have := (chg_iff hp hq).1 hc i
      rw [h1, h2] at this; cases this
    · rfl
  · exact ((chg_iff hp hq).2 (fun _ => rfl)).symm
theorem Dn.chg {R : Nat} {c : Bool} {p q : Nat → Bool} (h : Dn c p q) (hp : Out R p) (hq : Out R q) : c = B.chg p q (nw R) := by
  rcases h.2 with ⟨rfl, i, h1, h2⟩ | ⟨rfl, rfl⟩
  · cases hc : B.chg p q (nw R)
    · have := (chg_iff hp hq).1 hc i
      rw [h1, h2] at this; cases this
    · rfl
  · exact ((chg_iff hp hq).2 (fun _ => rfl)).symm
set_option maxHeartbeats 2000000 in
set_option maxRecDepth 100000 in
theorem rjoin_of {B0 x : Nat} {ao : Option Addr} {cap R : Nat} {p : Nat → Bool} {w : World} (L : List Nat) (ov : Option Addr) (hH : Calls Try.prog 63 #[.pointer ov] w fun e w' => ∃ ro rc, e = .returned (.slice ro L.length rc) ∧ Nums w.heap.size ro rc L w' ∧ Below w.heap.size w w') (hL : L.length ≤ 65536) (h : Rs B0 x ao cap R p w) :
    Calls Try.prog 43 #[.pointer (some ⟨x, 0, none⟩), .pointer ov] w fun e w' => e = .returned (.bool (B.chg p (addL R p L) (nw R))) ∧ Rs B0 x ao cap R (addL R p L) w' ∧ Turn (Rrow ao) w w' := by
  have HH := hide' hH
  have H := hide' h
  have Ho := hide' (fun q wx (i : Int) (hr : Rs B0 x ao cap R q wx) => radd_any i hr)
  have Ht := hide' (fun k hk => addL_take R p L k hk)
  have Hall : Hid (L.take L.length = L) := List.take_length
  have hap := h.apart
  have Hap := hide' hap
  clear hH h hap
  obtain ⟨n, hn⟩ : ∃ n, L.length = n := ⟨_, rfl⟩
  have Hn := hide' hn
  rw [hn] at HH Ht Hall hL
  clear hn
  go_enter Try.func43, Try.ntmps43
  go_wp2_with fail
  refine HH.out.mono ?_
  rintro e w1 ⟨ro, rc, rfl, hnums, b1⟩
  have hs1 := H.out.below b1
  have Hcell : Hid (∀ k, k < n → ∃ g, ro = some ⟨g, 0, none⟩ ∧ ∀ wx, Turn (Rrow ao) w1 wx → wx.cell? ⟨g, k, none⟩ = some (.int .i64 (L.getD k 0 : Nat))) := fun k hk => by
    have hn2 := hnums
    obtain ⟨g, hg, hb, hl, hc⟩ := hn2.at' (by rw [Hn.out]; omega)
    refine ⟨g, hg, fun wx t => (t.cell (p := ⟨g, k, none⟩) hl (fun hr => ?_)).trans (hc k (by rw [Hn.out]; exact hk))⟩
    have := (Hap.out g hr).2.2
    omega
  have t1 : Turn (Rrow ao) w w1 := turn_below' b1
  clear hnums b1
  go_wp2_with fail
  go_loopw [6, 7] (fun v i wx => ∃ (k : Nat) (c : Bool), k ≤ n ∧ i = .int .i64 (k : Int) ∧ v = .bool c ∧ Up c p (addL R p (L.take k)) ∧ Rs B0 x ao cap R (addL R p (L.take k)) wx ∧ Turn (Rrow ao) w1 wx) (fun _ i _ => n - (intOf i).toNat)
  case atStart => exact ⟨0, false, by omega, rfl, rfl, ⟨fun i hi => hi, .inr ⟨rfl, rfl⟩⟩, hs1, Turn.refl _ _⟩
  case round =>
    clear hs1
    obtain ⟨k, c, hk, rfl, rfl, hU, hRs, tk⟩ := hrel
    by_cases hlt : k < n
    · have hlt' : (k : Int) < (n : Int) := by omega
      obtain ⟨g, hro, hcg⟩ := Hcell.out k hlt
      have ck := hcg _ tk
      subst hro
      have hst := Ht.out k hlt
      clear hcg
      generalize L.getD k 0 = z at *
      have hU2 := hU.step hRs.out z
      have Ho2 := hide' (Ho.out _ _ (z : Int) hRs)
      rw [← hst] at hU2 Ho2
      have HU2 := hide' hU2
      clear hst hU2 hU hRs
      cases c
      · go_wp2_with fail
        refine Ho2.out.mono ?_
        rintro e w2 ⟨rfl, hRs2, t2⟩
        go_wp2_with fail
        exact ⟨⟨k + 1, _, by omega, by go_num, rfl, HU2.out, hRs2, tk.trans t2⟩, by simp [intOf]; omega⟩
      · go_wp2_with fail
        refine Ho2.out.mono ?_
        rintro e w2 ⟨rfl, hRs2, t2⟩
        go_wp2_with fail
        exact ⟨⟨k + 1, true, by omega, by go_num, rfl, HU2.out, hRs2, tk.trans t2⟩, by simp [intOf]; omega⟩
    · have hkn : k = n := by omega
      subst hkn
      have hlt' : ¬ (k : Int) < (k : Int) := by omega
      rw [Hall.out] at hU hRs
      have hcc := hU.chg H.out.out hRs.out
      have Hcc := hide' hcc
      clear hlt hcc
      go_wp2
      go_ret
      exact ⟨ret_bool Hcc.out, hRs, t1.trans tk⟩
set_option maxHeartbeats 2000000 in
set_option maxRecDepth 100000 in
theorem rless_of {B0 x : Nat} {ao : Option Addr} {cap R : Nat} {p : Nat → Bool} {w : World} (L : List Nat) (ov : Option Addr) (hH : Calls Try.prog 63 #[.pointer ov] w fun e w' => ∃ ro rc, e = .returned (.slice ro L.length rc) ∧ Nums w.heap.size ro rc L w' ∧ Below w.heap.size w w') (hL : L.length ≤ 65536) (h : Rs B0 x ao cap R p w) :
    Calls Try.prog 45 #[.pointer (some ⟨x, 0, none⟩), .pointer ov] w fun e w' => e = .returned (.bool (B.chg p (dropL p L) (nw R))) ∧ Rs B0 x ao cap R (dropL p L) w' ∧ Turn (Rrow ao) w w' := by
  have HH := hide' hH
  have H := hide' h
  have Ho := hide' (fun q wx (i : Int) (hr : Rs B0 x ao cap R q wx) => rdrop_any i hr)
  have Ht := hide' (fun k hk => dropL_take p L k hk)
  have Hall : Hid (L.take L.length = L) := List.take_length
  have hap := h.apart
  have Hap := hide' hap
  clear hH h hap
  obtain ⟨n, hn⟩ : ∃ n, L.length = n := ⟨_, rfl⟩
  have Hn := hide' hn
  rw [hn] at HH Ht Hall hL
  clear hn
  go_enter Try.func45, Try.ntmps45
  go_wp2_with fail
  refine HH.out.mono ?_
  rintro e w1 ⟨ro, rc, rfl, hnums, b1⟩
  have hs1 := H.out.below b1
  have Hcell : Hid (∀ k, k < n → ∃ g, ro = some ⟨g, 0, none⟩ ∧ ∀ wx, Turn (Rrow ao) w1 wx → wx.cell? ⟨g, k, none⟩ = some (.int .i64 (L.getD k 0 : Nat))) := fun k hk => by
    have hn2 := hnums
    obtain ⟨g, hg, hb, hl, hc⟩ := hn2.at' (by rw [Hn.out]; omega)
    refine ⟨g, hg, fun wx t => (t.cell (p := ⟨g, k, none⟩) hl (fun hr => ?_)).trans (hc k (by rw [Hn.out]; exact hk))⟩
    have := (Hap.out g hr).2.2
    omega
  have t1 : Turn (Rrow ao) w w1 := turn_below' b1
  clear hnums b1
  go_wp2_with fail
  go_loopw [6, 7] (fun v i wx => ∃ (k : Nat) (c : Bool), k ≤ n ∧ i = .int .i64 (k : Int) ∧ v = .bool c ∧ Dn c p (dropL p (L.take k)) ∧ Rs B0 x ao cap R (dropL p (L.take k)) wx ∧ Turn (Rrow ao) w1 wx) (fun _ i _ => n - (intOf i).toNat)
  case atStart => exact ⟨0, false, by omega, rfl, rfl, ⟨fun i hi => hi, .inr ⟨rfl, rfl⟩⟩, hs1, Turn.refl _ _⟩
  case round =>
    clear hs1
    obtain ⟨k, c, hk, rfl, rfl, hU, hRs, tk⟩ := hrel
    by_cases hlt : k < n
    · have hlt' : (k : Int) < (n : Int) := by omega
      obtain ⟨g, hro, hcg⟩ := Hcell.out k hlt
      have ck := hcg _ tk
      subst hro
      have hst := Ht.out k hlt
      clear hcg
      generalize L.getD k 0 = z at *
      have hU2 := hU.step z
      have Ho2 := hide' (Ho.out _ _ (z : Int) hRs)
      rw [← hst] at hU2 Ho2
      have HU2 := hide' hU2
      clear hst hU2 hU hRs
      cases c
      · go_wp2_with fail
        refine Ho2.out.mono ?_
        rintro e w2 ⟨rfl, hRs2, t2⟩
        go_wp2_with fail
        exact ⟨⟨k + 1, _, by omega, by go_num, rfl, HU2.out, hRs2, tk.trans t2⟩, by simp [intOf]; omega⟩
      · go_wp2_with fail
        refine Ho2.out.mono ?_
        rintro e w2 ⟨rfl, hRs2, t2⟩
        go_wp2_with fail
        exact ⟨⟨k + 1, true, by omega, by go_num, rfl, HU2.out, hRs2, tk.trans t2⟩, by simp [intOf]; omega⟩
    · have hkn : k = n := by omega
      subst hkn
      have hlt' : ¬ (k : Int) < (k : Int) := by omega
      rw [Hall.out] at hU hRs
      have hcc := hU.chg H.out.out hRs.out
      have Hcc := hide' hcc
      clear hlt hcc
      go_wp2
      go_ret
      exact ⟨ret_bool Hcc.out, hRs, t1.trans tk⟩
end Go.Proofs.Ytkipcdjadmocaaa
