import Derived.Test.YtmdkgiglibfihaaUnt
set_option linter.unusedVariables false
set_option linter.unusedSimpArgs false
namespace Go.Proofs.Ytmdkgiglibfihaa
open Go.RowKit Go.Maps
namespace I
/-- the law's own next: its boxes are ab (who was asked) and tb (the table) -/
def Asks (ab tb : Nat) (to : Option Addr) (tcap R C : Nat) (tbl : List (List Int)) (pre : List Int) (ag : Option Nat) (w : World) : Prop :=
  ∃ ao cap, w.heap[ab]? = some (.cells #[.slice ao pre.length cap] 43 (0, 0)) ∧ RowI 0 ao cap pre w ∧ ag = ao.map (fun a => a.block) ∧ ag ≠ some ab ∧ ag ≠ some tb ∧ (∀ j, ag = some j → ¬ (R ≤ j ∧ j < C)) ∧ w.heap[tb]? = some (.cells #[.slice to tbl.length tcap] 44 (0, 0)) ∧ Rows R C to tcap tbl w
theorem Asks.keep {ab tb : Nat} {to : Option Addr} {tcap R C : Nat} {tbl : List (List Int)} {pre : List Int} {ag : Option Nat} {wx wy : World} {S : Nat → Prop} (h : Asks ab tb to tcap R C tbl pre ag wx) (t : Turn S wx wy) (h1 : ¬ S ab) (h2 : ¬ S tb) (h3 : ∀ j, ag = some j → ¬ S j) (h4 : ∀ j, R ≤ j → j < C → ¬ S j) : Asks ab tb to tcap R C tbl pre ag wy := by
  obtain ⟨ao, cap, a1, a2, a3, a4, a5, a6, a7, a8⟩ := h
  exact ⟨ao, cap, (t.block ab (lt_of_heap a1) h1).trans a1, a2.turn t (fun j q => by obtain ⟨a, e, rfl⟩ := q; exact h3 _ (by rw [a3, e]; rfl)), a3, a4, a5, a6, (t.block tb (lt_of_heap a7) h2).trans a7, a8.turn t h4⟩
set_option maxHeartbeats 8000000 in
set_option maxRecDepth 100000 in
theorem ask_any (ab tb : Nat) (to : Option Addr) (tcap R C B : Nat) (tbl : List (List Int)) (pre : List Int) (ag : Option Nat) (k : Int) (w : World) (h : Asks ab tb to tcap R C tbl pre ag w) (hab : ab < B) (htb : tb < B) (hne : ab ≠ tb) (hC : C ≤ B) (hRa : ¬ (R ≤ ab ∧ ab < C)) (hB : B ≤ w.heap.size) (hlen : Hid (pre.length < 4398046511104)) :
    Calls Try.prog 29 #[.int .i64 k, .pointer (some ⟨ab, 0, none⟩), .pointer (some ⟨tb, 0, none⟩)] w fun e w' => NextIs (nx tbl) B (fun j => j = ab) (Asks ab tb to tcap R C tbl) pre ag k w e w' := by
  have H := hide' h
  obtain ⟨ao, cap, a1, a2, a3, a4, a5, a6, a7, a8⟩ := h
  have ca : w.cell? ⟨ab, 0, none⟩ = some (.slice ao pre.length cap) := by rw [Lib.cell_of_heap a1]; rfl
  have fa : w.frozen? ⟨ab, 0, none⟩ = false := Lib.frozen_of_heap a1 0
  have ct : w.cell? ⟨tb, 0, none⟩ = some (.slice to tbl.length tcap) := by rw [Lib.cell_of_heap a7]; rfl
  have HA := hide' (And.intro a1 (And.intro a2 (And.intro a7 a8)))
  have HN := hide' (And.intro a3 (And.intro a4 (And.intro a5 a6)))
  have hal := lt_of_heap a1
  have htl := lt_of_heap a7
  have nA : Hid (¬ At ao ab ∧ ¬ At ao tb ∧ ∀ j, R ≤ j → j < C → ¬ At ao j) := by
    refine ⟨?_, ?_, ?_⟩
    · rintro ⟨a, e, q⟩; exact a4 (by rw [a3, e, q]; rfl)
    · rintro ⟨a, e, q⟩; exact a5 (by rw [a3, e, q]; rfl)
    · rintro j h1 h2 ⟨a, e, rfl⟩; exact a6 _ (by rw [a3, e]; rfl) ⟨h1, h2⟩
  have hfin : Hid (∀ (g cap2 : Nat) (w2 : World), RowI 0 (some ⟨g, 0, none⟩) cap2 (pre ++ [k]) w2 → Turn (At ao) w w2 → (ao = some ⟨g, 0, none⟩ ∨ w.heap.size ≤ g) → Asks ab tb to tcap R C tbl (pre ++ [k]) (some g) (w2.setCell ⟨ab, 0, none⟩ (.slice (some ⟨g, 0, none⟩) (pre.length + 1) cap2)) ∧ Turn (fun j => j = ab ∨ some j = ag) w (w2.setCell ⟨ab, 0, none⟩ (.slice (some ⟨g, 0, none⟩) (pre.length + 1) cap2)) ∧ (some g = ag ∨ w.heap.size ≤ g)) := by
    intro g cap2 w2 r2 t2 hg
    have t3 : Turn (fun j => j = ab ∨ At ao j) w (w2.setCell ⟨ab, 0, none⟩ (.slice (some ⟨g, 0, none⟩) (pre.length + 1) cap2)) := (t2.mono (fun j _ q => .inr q)).setCell (p := ⟨ab, 0, none⟩) (fun _ => .inl rfl) _
    have hgab : g ≠ ab ∧ g ≠ tb ∧ ¬ (R ≤ g ∧ g < C) := by
      rcases hg with e | e
      · exact ⟨fun q => nA.out.1 ⟨_, e, q.symm⟩, fun q => nA.out.2.1 ⟨_, e, q.symm⟩, fun q => nA.out.2.2 g q.1 q.2 ⟨_, e, rfl⟩⟩
      · exact ⟨by omega, by omega, by omega⟩
    have hb2 : w2.heap[ab]? = some (.cells #[.slice ao pre.length cap] 43 (0, 0)) := (t2.block ab hal nA.out.1).trans a1
    refine ⟨⟨some ⟨g, 0, none⟩, cap2, ?_, r2.turn ((Turn.refl (fun j => j = ab) w2).setCell (p := ⟨ab, 0, none⟩) (fun _ => rfl) _) (fun j q => by obtain ⟨a, e, rfl⟩ := q; cases e; exact hgab.1), rfl, fun e => by cases e; exact hgab.1 rfl, fun e => by cases e; exact hgab.2.1 rfl, fun j e => by cases e; exact hgab.2.2, (t3.block tb htl (fun q => by
      rcases q with q | q
      · exact hne q.symm
      · exact nA.out.2.1 q)).trans a7, a8.turn t3 (fun j h1 h2 q => by
      rcases q with q | q
      · subst q; exact hRa ⟨h1, h2⟩
      · exact nA.out.2.2 j h1 h2 q)⟩, t3.mono (fun j _ q => ?_), ?_⟩
    · simp [World.setCell, Array.getElem?_modify, hb2]
    · rcases q with q | ⟨a, e, q⟩
      · exact .inl q
      · exact .inr (by rw [a3, e, q]; rfl)
    · rcases hg with e | e
      · left; rw [a3, e]; rfl
      · exact .inr e
  have hnt : Hid (∀ w2 : World, Turn (At ao) w w2 → w2.cell? ⟨ab, 0, none⟩ = some (.slice ao pre.length cap) ∧ w2.frozen? ⟨ab, 0, none⟩ = false ∧ w2.cell? ⟨tb, 0, none⟩ = some (.slice to tbl.length tcap)) := fun w2 t => by
    have e1 := t.block ab hal nA.out.1
    exact ⟨(t.cell (p := ⟨ab, 0, none⟩) hal nA.out.1).trans ca, (World.frozen?_of_block (w := w) e1).trans fa, (t.cell (p := ⟨tb, 0, none⟩) htl nA.out.2.1).trans ct⟩
  clear a1 a2 a3 a4 a5 a6 a7 a8
  have hn0 : tb ≠ ab := fun e => hne e.symm
  rcases (show k < 0 ∨ 0 ≤ k by omega) with hneg | hpos
  · have hnil := hide' (nx_neg tbl k hneg)
    go_enter Try.func29, Try.ntmps29
    go_wp2_with (at_builtin; refine wpList_app1 _ rfl _ _ rfl 0 ao cap pre k _ _ rfl HA.out.2.1 rfl hlen (Nat.zero_le _) ?_; intro g cap2 w2 r2 t2 hg hl; have HF := hide' (hfin.out g cap2 w2 r2 t2 hg); obtain ⟨ca2, fa2, ct2⟩ := hnt.out w2 t2; clear r2 t2 hg hl ca fa ct)
    go_ret
    obtain ⟨f1, f2, f3⟩ := HF.out
    exact ⟨none, 0, some g, by rw [hnil.out]; rfl, by rw [hnil.out]; simp, by rw [hnil.out]; exact .inl rfl, f1, f2, by
      rcases f3 with e | e
      · exact .inl e
      · exact .inr ⟨g, rfl, e⟩, fun q => absurd hnil.out q⟩
  · have hng : ¬ k < 0 := by omega
    rcases (show (tbl.length : Int) ≤ k ∨ k < (tbl.length : Int) by omega) with hfar | hnear
    · have hnil := hide' (nx_far tbl k hfar)
      go_enter Try.func29, Try.ntmps29
      go_wp2_with (at_builtin; refine wpList_app1 _ rfl _ _ rfl 0 ao cap pre k _ _ rfl HA.out.2.1 rfl hlen (Nat.zero_le _) ?_; intro g cap2 w2 r2 t2 hg hl; have HF := hide' (hfin.out g cap2 w2 r2 t2 hg); obtain ⟨ca2, fa2, ct2⟩ := hnt.out w2 t2; clear r2 t2 hg hl ca fa ct)
      go_ret
      obtain ⟨f1, f2, f3⟩ := HF.out
      exact ⟨none, 0, some g, by rw [hnil.out]; rfl, by rw [hnil.out]; simp, by rw [hnil.out]; exact .inl rfl, f1, f2, by
        rcases f3 with e | e
        · exact .inl e
        · exact .inr ⟨g, rfl, e⟩, fun q => absurd hnil.out q⟩
    · obtain ⟨i, rfl⟩ : ∃ i : Nat, k = (i : Int) := ⟨k.toNat, by omega⟩
      have hil : i < tbl.length := by omega
      have hfar : ¬ (tbl.length : Int) ≤ (i : Int) := by omega
      obtain ⟨row, hrow⟩ : ∃ row, tbl[i]? = some row := ⟨_, List.getElem?_eq_getElem hil⟩
      have hnx := hide' (nx_at tbl i row hrow)
      obtain ⟨b, g0, rc, rfl, b1, b2, b3, bcell, hRow, hgC⟩ := HA.out.2.2.2.at hrow
      have hbl : b < w.heap.size := by omega
      have hbA : Hid (¬ At ao b) := nA.out.2.2 b b1 b2
      have hbab : b ≠ ab := fun q => by subst q; exact hRa ⟨b1, b2⟩
      have hrcl : row.length ≤ rc := by have := hRow.cap; simp at this; omega
      have hg0 := (hRow.lt g0 ⟨_, rfl, rfl⟩)
      have HR := hide' hRow
      clear hRow hrow
      go_enter Try.func29, Try.ntmps29
      go_wp2_with (at_builtin; refine wpList_app1 _ rfl _ _ rfl 0 ao cap pre (i : Int) _ _ rfl HA.out.2.1 rfl hlen (Nat.zero_le _) ?_; intro g cap2 w2 r2 t2 hg hl; have HF := hide' (hfin.out g cap2 w2 r2 t2 hg); obtain ⟨ca2, fa2, ct2⟩ := hnt.out w2 t2; have bcell2 := (t2.cell (p := ⟨b, i, none⟩) hbl hbA.out).trans bcell; clear r2 t2 hg hl ca fa ct bcell)
      go_ret
      obtain ⟨f1, f2, f3⟩ := HF.out
      refine ⟨some ⟨g0, 0, none⟩, rc, some g, by rw [hnx.out]; rfl, by rw [hnx.out]; exact hrcl, ?_, f1, f2, ?_, ?_⟩
      · rw [hnx.out]
        refine HR.out.ints.left.turn f2 (fun _ b off e q => ?_)
        cases e
        rcases q with q | q
        · subst q; exact hRa ⟨hg0.1, hgC⟩
        · exact HN.out.2.2.2 g0 q.symm ⟨hg0.1, hgC⟩
      · rcases f3 with e | e
        · exact .inl e
        · exact .inr ⟨g, rfl, e⟩
      · intro _ b off e; cases e; exact .inl (by omega)
/-- the law's next is one that Close takes -/
theorem ask_nxt (ab tb : Nat) (to : Option Addr) (tcap R C B : Nat) (tbl : List (List Int)) (u : List Int) (hab : ab < B) (htb : tb < B) (hne : ab ≠ tb) (hC : C ≤ B) (hRa : ¬ (R ≤ ab ∧ ab < C)) (hlen : Hid (u.length < 4398046511104)) :
    Nxt 29 #[.pointer (some ⟨ab, 0, none⟩), .pointer (some ⟨tb, 0, none⟩)] (nx tbl) u B (fun j => j = ab) (Asks ab tb to tcap R C tbl) where
  enters := Try.call29
  low := fun j q => by rw [q]; exact hab
  lt := fun pre ag w h j e => by
    obtain ⟨ao, cap, a1, a2, a3, _⟩ := h
    rw [a3] at e
    cases ao with
    | none => cases e
    | some a => exact (a2.lt j ⟨a, rfl, by simpa using e.symm⟩).2
  keep := fun pre ag wx wy S h t hS => by
    obtain ⟨ao, cap, a1, a2, a3, a4, a5, a6, a7, a8⟩ := id h
    obtain ⟨vs, _, hCw, _⟩ := a8
    refine h.keep t (fun q => ?_) (fun q => ?_) (fun j e q => ?_) (fun j h1 h2 q => ?_)
    · have := (hS ab (lt_of_heap a1) q).1; omega
    · have := (hS tb (lt_of_heap a7) q).1; omega
    · have hj : j < wx.heap.size := by
        rw [a3] at e
        cases ao with
        | none => cases e
        | some a => exact (a2.lt j ⟨a, rfl, by simpa using e.symm⟩).2
      exact (hS j hj q).2 e.symm
    · have := (hS j (by omega) q).1; omega
  call := fun pre ag k wx hk h hB hp => ask_any ab tb to tcap R C B tbl pre ag k wx h hab htb hne hC hRa hB (by have := hlen.out; show _ < _; omega)
end I
end Go.Proofs.Ytmdkgiglibfihaa
