import Derived.Test.YtkipcdjadmocaaaRef3
set_option linter.unusedVariables false
set_option linter.unusedSimpArgs false
namespace Go.Proofs.Ytkipcdjadmocaaa
open Go.RowKit
theorem addL_at (R : Nat) : ∀ (L : List Nat) (p : Nat → Bool) (i : Nat), addL R p L i = (p i || (decide (i < R) && decide (i ∈ L))) := by
  intro L
  induction L with
  | nil => intro p i; simp [addL]
  | cons a r ih =>
    intro p i
    show addL R (addP R p (a : Int)) r i = _
    rw [ih]
    unfold addP
    by_cases e : i = a
    · subst e; by_cases hR : i < R <;> cases p i <;> simp [hR]
    · rw [decide_eq_false (show ¬ (i : Int) = (a : Int) by omega)]; simp [e]
theorem dropL_at : ∀ (L : List Nat) (p : Nat → Bool) (i : Nat), dropL p L i = (p i && !decide (i ∈ L)) := by
  intro L
  induction L with
  | nil => intro p i; simp [dropL]
  | cons a r ih =>
    intro p i
    show dropL (dropP p (a : Int)) r i = _
    rw [ih]
    unfold dropP
    by_cases e : i = a
    · subst e; simp
    · rw [decide_eq_false (show ¬ (i : Int) = (a : Int) by omega)]; simp [e]
theorem lp_in {R2 : Nat} {q : Nat → Bool} (hq : Out R2 q) (i : Nat) : decide (i ∈ lp q R2) = q i := by
  rw [Bool.eq_iff_iff]
  simp only [decide_eq_true_eq, lp_mem]
  constructor
  · exact fun h => h.2
  · intro h
    refine ⟨?_, h⟩
    rcases Nat.lt_or_ge i R2 with a | a
    · exact a
    · rw [hq i a] at h; cases h
theorem add_laid {R R2 : Nat} {p q : Nat → Bool} (hp : Out R p) (hq : Out R2 q) : addL R p (lp q R2) = B.laid bOr R p q := by
  funext i
  rw [addL_at, lp_in hq]
  unfold B.laid bOr
  by_cases h : i < R
  · simp [h]
  · rw [hp i (by omega)]; simp [h]
theorem drop_laid {R R2 : Nat} {p q : Nat → Bool} (hp : Out R p) (hq : Out R2 q) : dropL p (lp q R2) = B.laid bLess R p q := by
  funext i
  rw [dropL_at, lp_in hq]
  unfold B.laid bLess
  by_cases h : i < R
  · simp [h]
  · rw [hp i (by omega)]; simp
theorem meet_laid {R : Nat} {p q : Nat → Bool} (hp : Out R p) : dropL p ((lp p R).filter fun i => !q i) = B.laid bAnd R p q := by
  funext i
  rw [dropL_at]
  unfold B.laid bAnd
  by_cases h : i < R
  · have e : decide (i ∈ (lp p R).filter fun i => !q i) = (p i && !q i) := by
      rw [Bool.eq_iff_iff]
      simp only [decide_eq_true_eq, List.mem_filter, lp_mem, Bool.and_eq_true]
      exact ⟨fun a => ⟨a.1.2, a.2⟩, fun a => ⟨⟨h, a.1⟩, a.2⟩⟩
    rw [e]
    cases p i <;> cases q i <;> simp [h]
  · rw [hp i (by omega)]; simp
theorem Dn.drop {c : Bool} {p q : Nat → Bool} (h : Dn c p q) (n : Nat) (hn : p n = true) : Dn true p (dropP q (n : Int)) := by
  refine ⟨fun i hi => h.1 i (by
    cases hqi : q i
    · rw [show dropP q (n : Int) i = false by simp [dropP, hqi]] at hi; cases hi
    · rfl), .inl ⟨rfl, n, by simp [dropP], hn⟩⟩
theorem filt_take (q : Nat → Bool) (L : List Nat) (k : Nat) (h : k < L.length) : (L.take (k + 1)).filter (fun i => !q i) = (L.take k).filter (fun i => !q i) ++ (if q (L.getD k 0) then [] else [L.getD k 0]) := by
  have e : L.getD k 0 = L[k] := by simp [List.getD, List.getElem?_eq_getElem h]
  rw [List.take_succ_eq_append_getElem h, e, List.filter_append]
  congr 1
  cases hq : q L[k] <;> simp [hq]
theorem dropL_snoc (p : Nat → Bool) (L : List Nat) (n : Nat) : dropL p (L ++ [n]) = dropP (dropL p L) (n : Int) := by simp only [dropL, List.foldl_append, List.foldl_cons, List.foldl_nil]
set_option maxHeartbeats 2000000 in
set_option maxRecDepth 100000 in
theorem rmeet_some {B0 x : Nat} {ao : Option Addr} {cap R : Nat} {p : Nat → Bool} {w : World} (q : Nat → Bool) (y : Nat) (O : World → Prop) (h : Rs B0 x ao cap R p w) (hO : O w)
    (hk : ∀ wx wy, O wx → Turn (Rrow ao) wx wy → O wy) (hb : ∀ wx wy, O wx → Below wx.heap.size wx wy → O wy)
    (hHas : ∀ (k : Nat) wx, k < (lp p R).length → Rs B0 x ao cap R (dropL p (((lp p R).take k).filter fun i => !q i)) wx → O wx → Calls Try.prog 39 #[.pointer (some ⟨y, 0, none⟩), .int .i64 ((lp p R).getD k 0 : Nat)] wx fun e w' => e = .returned (.bool (q ((lp p R).getD k 0))) ∧ w' = wx) :
    Calls Try.prog 44 #[.pointer (some ⟨x, 0, none⟩), .pointer (some ⟨y, 0, none⟩)] w fun e w' => e = .returned (.bool (B.chg p (B.laid bAnd R p q) (nw R))) ∧ Rs B0 x ao cap R (B.laid bAnd R p q) w' ∧ O w' ∧ Turn (Rrow ao) w w' := by
  have Ha := hide' (rall_any h)
  have H := hide' h
  have Hfin := hide' (meet_laid (q := q) h.out)
  have hle := h.le
  have hlen := lp_len p R
  have Hmem : Hid (∀ k, k < (lp p R).length → p ((lp p R).getD k 0) = true) := fun k hk => by
    have : (lp p R)[k] ∈ lp p R := List.getElem_mem hk
    rw [lp_mem] at this
    simp only [List.getD, List.getElem?_eq_getElem hk, Option.getD_some]
    exact this.2
  have Hd := hide' (fun q wx (i : Int) (hr : Rs B0 x ao cap R q wx) => rdrop_any i hr)
  have Hap := hide' h.apart
  have Hhas := hide' hHas
  have Hk := hide' hk
  have Hb := hide' hb
  have hpo := h.out
  have Hlo := hide' (laid_out (R := R) bAnd p q)
  generalize lp p R = L at *
  generalize B.laid bAnd R p q = P at *
  have Ht := hide' (fun k hk => filt_take q L k hk)
  have Hall : Hid (L.take L.length = L) := List.take_length
  obtain ⟨n, hn⟩ : ∃ n, L.length = n := ⟨_, rfl⟩
  have Hn := hide' hn
  rw [hn] at Ha Hmem Hhas Ht Hall hlen
  clear h hk hb hHas hn
  go_enter Try.func44, Try.ntmps44
  go_wp2_with fail
  refine Ha.out.mono ?_
  rintro e w1 ⟨ro, rc, rfl, hrow, b1⟩
  have hnums : Nums w.heap.size ro rc L w1 := ⟨by rw [Hn.out]; exact hrow⟩
  have hs1 := H.out.below b1
  have ho1 := Hb.out _ _ hO b1
  have Hcell : Hid (∀ k, k < n → ∃ g, ro = some ⟨g, 0, none⟩ ∧ ∀ wx, Turn (Rrow ao) w1 wx → wx.cell? ⟨g, k, none⟩ = some (.int .i64 (L.getD k 0 : Nat))) := fun k hk => by
    obtain ⟨g, hg, hb, hl, hc⟩ := hnums.at' (by rw [Hn.out]; omega)
    refine ⟨g, hg, fun wx t => (t.cell (p := ⟨g, k, none⟩) hl (fun hr => ?_)).trans (hc k (by rw [Hn.out]; exact hk))⟩
    have := (Hap.out g hr).2.2
    omega
  have t1 : Turn (Rrow ao) w w1 := turn_below' b1
  clear hnums b1 hrow hO
  go_wp2_with fail
  go_loopw [6, 7] (fun v i wx => ∃ (k : Nat) (c : Bool), k ≤ n ∧ i = .int .i64 (k : Int) ∧ v = .bool c ∧ Dn c p (dropL p ((L.take k).filter fun i => !q i)) ∧ Rs B0 x ao cap R (dropL p ((L.take k).filter fun i => !q i)) wx ∧ O wx ∧ Turn (Rrow ao) w1 wx) (fun _ i _ => n - (intOf i).toNat)
  case atStart => exact ⟨0, false, by omega, rfl, rfl, ⟨fun i hi => hi, .inr ⟨rfl, rfl⟩⟩, hs1, ho1, Turn.refl _ _⟩
  case round =>
    clear hs1 ho1
    obtain ⟨k, c, hk, rfl, rfl, hU, hRs, hOk, tk⟩ := hrel
    by_cases hlt : k < n
    · have hlt' : (k : Int) < (n : Int) := by omega
      obtain ⟨g, hro, hcg⟩ := Hcell.out k hlt
      have ck := hcg _ tk
      have Hcg := hide' hcg
      subst hro
      have hst := Ht.out k hlt
      have hmem := Hmem.out k hlt
      have Hha := hide' (fun wx => Hhas.out k wx hlt)
      clear hcg
      generalize L.getD k 0 = z at *
      cases hq : q z
      · rw [hq] at hst Hha
        simp only [Bool.false_eq_true, if_false] at hst
        have hU2 := hU.drop z hmem
        have Hd2 := hide' (fun wx hr => Hd.out (dropL p ((L.take k).filter fun i => !q i)) wx (z : Int) hr)
        rw [← dropL_snoc, ← hst] at hU2
        have Hst : Hid (dropP (dropL p ((L.take k).filter fun i => !q i)) (z : Int) = dropL p ((L.take (k + 1)).filter fun i => !q i)) := (show _ = _ by rw [← dropL_snoc, ← hst])
        have HU2 := hide' hU2
        have HRs := hide' hRs
        clear hst hU2 hU hq hmem hRs
        go_wp2_with fail
        refine (Hha.out _ HRs.out hOk).mono ?_
        rintro e w2 ⟨rfl, hw2⟩
        replace hw2 := hw2.symm
        subst hw2
        go_wp2_with fail
        refine (Hd2.out _ HRs.out).mono ?_
        rintro e w3 ⟨rfl, hRs3, t3⟩
        rw [Hst.out] at hRs3
        go_wp2_with fail
        exact ⟨⟨k + 1, true, by omega, by go_num, rfl, HU2.out, hRs3, Hk.out _ _ hOk t3, tk.trans t3⟩, by simp [intOf]; omega⟩
      · rw [hq] at hst Hha
        simp only [if_true, List.append_nil] at hst
        have Hst := hide' hst
        have HRs := hide' hRs
        have HU := hide' hU
        clear hst hU hq hmem hRs
        go_wp2_with fail
        refine (Hha.out _ HRs.out hOk).mono ?_
        rintro e w2 ⟨rfl, hw2⟩
        replace hw2 := hw2.symm
        subst hw2
        go_wp2_with fail
        exact ⟨⟨k + 1, c, by omega, by go_num, rfl, by rw [Hst.out]; exact HU.out, by rw [Hst.out]; exact HRs.out, hOk, tk⟩, by simp [intOf]; omega⟩
    · have hkn : k = n := by omega
      subst hkn
      have hlt' : ¬ (k : Int) < (k : Int) := by omega
      rw [Hall.out, Hfin.out] at hU hRs
      have hcc := hU.chg hpo Hlo.out
      have Hcc := hide' hcc
      clear hlt hcc
      go_wp2
      go_ret
      exact ⟨ret_bool Hcc.out, hRs, hOk, t1.trans tk⟩
set_option maxHeartbeats 2000000 in
set_option maxRecDepth 100000 in
theorem rmeet_nil {B0 x : Nat} {ao : Option Addr} {cap R : Nat} {p : Nat → Bool} {w : World} (h : Rs B0 x ao cap R p w) :
    Calls Try.prog 44 #[.pointer (some ⟨x, 0, none⟩), .pointer none] w fun e w' => e = .returned (.bool (B.chg p (B.laid bAnd R p (fun _ => false)) (nw R))) ∧ Rs B0 x ao cap R (B.laid bAnd R p (fun _ => false)) w' ∧ Turn (Rrow ao) w w' := by
  obtain ⟨q, hqd⟩ : ∃ q : Nat → Bool, q = fun _ => false := ⟨_, rfl⟩
  have Hqz : Hid (∀ z, q z = false) := fun z => by rw [hqd]
  rw [← hqd]
  clear hqd
  have Ha := hide' (rall_any h)
  have H := hide' h
  have Hfin := hide' (meet_laid (q := q) h.out)
  have hle := h.le
  have hlen := lp_len p R
  have Hmem : Hid (∀ k, k < (lp p R).length → p ((lp p R).getD k 0) = true) := fun k hk => by
    have : (lp p R)[k] ∈ lp p R := List.getElem_mem hk
    rw [lp_mem] at this
    simp only [List.getD, List.getElem?_eq_getElem hk, Option.getD_some]
    exact this.2
  have Hd := hide' (fun q wx (i : Int) (hr : Rs B0 x ao cap R q wx) => rdrop_any i hr)
  have Hap := hide' h.apart
  have hpo := h.out
  have Hlo := hide' (laid_out (R := R) bAnd p q)
  generalize lp p R = L at *
  generalize B.laid bAnd R p q = P at *
  have Ht := hide' (fun k hk => filt_take q L k hk)
  have Hall : Hid (L.take L.length = L) := List.take_length
  obtain ⟨n, hn⟩ : ∃ n, L.length = n := ⟨_, rfl⟩
  have Hn := hide' hn
  rw [hn] at Ha Hmem Ht Hall hlen
  clear h hn
  go_enter Try.func44, Try.ntmps44
  go_wp2_with fail
  refine Ha.out.mono ?_
  rintro e w1 ⟨ro, rc, rfl, hrow, b1⟩
  have hnums : Nums w.heap.size ro rc L w1 := ⟨by rw [Hn.out]; exact hrow⟩
  have hs1 := H.out.below b1
  have Hcell : Hid (∀ k, k < n → ∃ g, ro = some ⟨g, 0, none⟩ ∧ ∀ wx, Turn (Rrow ao) w1 wx → wx.cell? ⟨g, k, none⟩ = some (.int .i64 (L.getD k 0 : Nat))) := fun k hk => by
    obtain ⟨g, hg, hb, hl, hc⟩ := hnums.at' (by rw [Hn.out]; omega)
    refine ⟨g, hg, fun wx t => (t.cell (p := ⟨g, k, none⟩) hl (fun hr => ?_)).trans (hc k (by rw [Hn.out]; exact hk))⟩
    have := (Hap.out g hr).2.2
    omega
  have t1 : Turn (Rrow ao) w w1 := turn_below' b1
  clear hnums b1 hrow
  go_wp2_with fail
  go_loopw [6, 7] (fun v i wx => ∃ (k : Nat) (c : Bool), k ≤ n ∧ i = .int .i64 (k : Int) ∧ v = .bool c ∧ Dn c p (dropL p ((L.take k).filter fun i => !q i)) ∧ Rs B0 x ao cap R (dropL p ((L.take k).filter fun i => !q i)) wx ∧ Turn (Rrow ao) w1 wx) (fun _ i _ => n - (intOf i).toNat)
  case atStart => exact ⟨0, false, by omega, rfl, rfl, ⟨fun i hi => hi, .inr ⟨rfl, rfl⟩⟩, hs1, Turn.refl _ _⟩
  case round =>
    clear hs1
    obtain ⟨k, c, hk, rfl, rfl, hU, hRs, tk⟩ := hrel
    by_cases hlt : k < n
    · have hlt' : (k : Int) < (n : Int) := by omega
      obtain ⟨g, hro, hcg⟩ := Hcell.out k hlt
      have ck := hcg _ tk
      have Hcg := hide' hcg
      subst hro
      have hst := Ht.out k hlt
      have hmem := Hmem.out k hlt
      clear hcg
      generalize L.getD k 0 = z at *
      · have hq := Hqz.out z
        rw [hq] at hst
        simp only [Bool.false_eq_true, if_false] at hst
        have hU2 := hU.drop z hmem
        have Hd2 := hide' (fun wx hr => Hd.out (dropL p ((L.take k).filter fun i => !q i)) wx (z : Int) hr)
        rw [← dropL_snoc, ← hst] at hU2
        have Hst : Hid (dropP (dropL p ((L.take k).filter fun i => !q i)) (z : Int) = dropL p ((L.take (k + 1)).filter fun i => !q i)) := (show _ = _ by rw [← dropL_snoc, ← hst])
        have HU2 := hide' hU2
        have HRs := hide' hRs
        clear hst hU2 hU hq hmem hRs
        go_wp2_with fail
        refine (Hd2.out _ HRs.out).mono ?_
        rintro e w3 ⟨rfl, hRs3, t3⟩
        rw [Hst.out] at hRs3
        go_wp2_with fail
        exact ⟨⟨k + 1, true, by omega, by go_num, rfl, HU2.out, hRs3, tk.trans t3⟩, by simp [intOf]; omega⟩
    · have hkn : k = n := by omega
      subst hkn
      have hlt' : ¬ (k : Int) < (k : Int) := by omega
      rw [Hall.out, Hfin.out] at hU hRs
      have hcc := hU.chg hpo Hlo.out
      have Hcc := hide' hcc
      clear hlt hcc
      go_wp2
      go_ret
      exact ⟨ret_bool Hcc.out, hRs, t1.trans tk⟩
end Go.Proofs.Ytkipcdjadmocaaa
