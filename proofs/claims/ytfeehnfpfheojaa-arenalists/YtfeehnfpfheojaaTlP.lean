import Derived.Test.YtfeehnfpfheojaaBlk
set_option linter.unusedVariables false
set_option linter.unusedSimpArgs false
namespace Go.Proofs.Ytfeehnfpfheojaa
open Go.RowKit Go.Sort
namespace Ar
open Fr
/-- the pieces lie one behind the other from s on up to e -/
def Cov : Int → List Bk → Int → Prop
  | s, [], e => s = e
  | s, b :: r, e => b.addr = s ∧ 0 < b.size ∧ Cov (s + b.size) r e
def frees (L : List Bk) : List Bk := L.filter (·.free)
def outs (L : List Bk) : List (Int × Int) := (L.filter (fun b => !b.free)).map (fun b => (b.addr, b.size))
theorem cov_app {A C : List Bk} {s e : Int} : Cov s (A ++ C) e ↔ ∃ m, Cov s A m ∧ Cov m C e := by
  induction A generalizing s with
  | nil => exact ⟨fun h => ⟨s, rfl, h⟩, fun ⟨m, h1, h2⟩ => by have h1' : s = m := h1; subst h1'; exact h2⟩
  | cons a A ih =>
    constructor
    · rintro ⟨h1, h2, h3⟩
      obtain ⟨m, h4, h5⟩ := ih.1 h3
      exact ⟨m, ⟨h1, h2, h4⟩, h5⟩
    · rintro ⟨m, ⟨h1, h2, h4⟩, h5⟩
      exact ⟨h1, h2, ih.2 ⟨m, h4, h5⟩⟩
theorem cov_le {L : List Bk} {s e : Int} (h : Cov s L e) : s ≤ e := by
  induction L generalizing s with
  | nil => exact Int.le_of_eq h
  | cons a r ih => obtain ⟨_, h2, h3⟩ := h; have := ih h3; omega
theorem cov_mem {L : List Bk} {s e : Int} (h : Cov s L e) : ∀ x ∈ L, s ≤ x.addr ∧ 0 < x.size ∧ x.addr + x.size ≤ e := by
  induction L generalizing s with
  | nil => intro x hx; cases hx
  | cons a r ih =>
    obtain ⟨h1, h2, h3⟩ := h
    intro x hx
    rcases List.mem_cons.1 hx with rfl | hx
    · have := cov_le h3; omega
    · have := ih h3 x hx; omega
theorem cov_srt {L : List Bk} {s e : Int} (h : Cov s L e) : L.Pairwise (fun x y => x.addr + x.size ≤ y.addr) := by
  induction L generalizing s with
  | nil => exact .nil
  | cons a r ih =>
    obtain ⟨h1, h2, h3⟩ := h
    exact List.pairwise_cons.2 ⟨fun y hy => by have := cov_mem h3 y hy; omega, ih h3⟩
/-- two pieces of it lie apart -/
theorem cov_apart {L1 L2 : List Bk} {b : Bk} {s e : Int} (h : Cov s (L1 ++ b :: L2) e) : (∀ x ∈ L1, x.addr + x.size ≤ b.addr) ∧ ∀ x ∈ L2, b.addr + b.size ≤ x.addr := by
  obtain ⟨_, d2, d3⟩ := List.pairwise_append.1 (cov_srt h)
  exact ⟨fun x hx => d3 x hx b List.mem_cons_self, fun x hx => (List.pairwise_cons.1 d2).1 x hx⟩
/-- sorted lists of the same things are one -/
theorem sort_one {L L' : List Bk} (hL : L.Pairwise (fun x y => x.addr < y.addr)) (hL' : L'.Pairwise (fun x y => x.addr ≤ y.addr)) (hp : L'.Perm L) : L' = L := by
  induction L generalizing L' with
  | nil => exact List.perm_nil.1 hp
  | cons a r ih =>
    obtain ⟨n1, n2⟩ := List.pairwise_cons.1 hL
    cases L' with
    | nil => exact absurd hp.symm (by intro q; cases (List.perm_nil.1 q))
    | cons a' r' =>
      obtain ⟨m1, m2⟩ := List.pairwise_cons.1 hL'
      have ha : a' = a := by
        have h1 : a' ∈ a :: r := hp.mem_iff.1 List.mem_cons_self
        have h2 : a ∈ a' :: r' := hp.mem_iff.2 List.mem_cons_self
        rcases List.mem_cons.1 h1 with e | h1
        · exact e
        · rcases List.mem_cons.1 h2 with e | h2
          · exact e.symm
          · have := n1 a' h1; have := m1 a h2; omega
      subst ha
      rw [ih n2 m2 hp.cons_inv]
/-- no two that follow one another lie beside one another -/
def Nad : List Bk → Prop
  | [] => True
  | [_] => True
  | a :: b :: r => b.addr ≠ a.addr + a.size ∧ Nad (b :: r)
theorem nad_cj {b : Bk} {N : List Bk} (h : Nad N) : Nad (cj b N) := by
  cases N with
  | nil => trivial
  | cons c r =>
    by_cases e : c.addr = b.addr + b.size
    · rw [cj_yes e]
      cases r with
      | nil => trivial
      | cons d r => exact ⟨by show d.addr ≠ b.addr + (b.size + c.size); have := h.1; omega, h.2⟩
    · rw [cj_no e]
      exact ⟨e, h⟩
theorem nad_norm (F : List Bk) : Nad (norm F) := by
  induction F with
  | nil => trivial
  | cons a r ih => exact nad_cj ih
theorem nad_app {A : List Bk} {b : Bk} {C : List Bk} (h : Nad (A ++ b :: C)) : Nad A ∧ Nad (b :: C) := by
  induction A with
  | nil => exact ⟨trivial, h⟩
  | cons a r ih =>
    cases r with
    | nil => exact ⟨trivial, h.2⟩
    | cons c s => obtain ⟨i1, i2⟩ := ih h.2; exact ⟨⟨h.1, i1⟩, i2⟩
theorem norm_nad {N : List Bk} (h : Nad N) : norm N = N := by
  induction N with
  | nil => rfl
  | cons a r ih =>
    cases r with
    | nil => rfl
    | cons c s => rw [norm_cons, ih h.2, cj_no h.1]
theorem filter_split {q : Bk → Bool} {L S T : List Bk} {p : Bk} (h : L.filter q = S ++ p :: T) : ∃ L1 L2, L = L1 ++ p :: L2 ∧ L1.filter q = S ∧ L2.filter q = T := by
  induction L generalizing S with
  | nil => simp at h
  | cons a r ih =>
    by_cases ha : q a = true
    · rw [List.filter_cons_of_pos ha] at h
      cases S with
      | nil =>
        simp only [List.nil_append, List.cons.injEq] at h
        obtain ⟨rfl, h⟩ := h
        exact ⟨[], r, rfl, rfl, h⟩
      | cons s S =>
        simp only [List.cons_append, List.cons.injEq] at h
        obtain ⟨rfl, h⟩ := h
        obtain ⟨L1, L2, e1, e2, e3⟩ := ih h
        exact ⟨a :: L1, L2, by rw [e1]; rfl, by rw [List.filter_cons_of_pos ha, e2], e3⟩
    · rw [List.filter_cons_of_neg ha] at h
      obtain ⟨L1, L2, e1, e2, e3⟩ := ih h
      exact ⟨a :: L1, L2, by rw [e1]; rfl, by rw [List.filter_cons_of_neg ha, e2], e3⟩
theorem frees_app (A C : List Bk) : frees (A ++ C) = frees A ++ frees C := List.filter_append ..
theorem outs_app (A C : List Bk) : outs (A ++ C) = outs A ++ outs C := by simp [outs, List.filter_append]
theorem outs_ob (L : List Bk) : (outs L).map ob = L.filter (fun b => !b.free) := by
  unfold outs
  rw [List.map_map]
  conv => rhs; rw [← List.map_id (L.filter fun b => !b.free)]
  apply List.map_congr_left
  intro b hb
  have := (List.mem_filter.1 hb).2
  obtain ⟨a, s, f⟩ := b
  simp at this
  simp [ob, this]
theorem parts_perm (L : List Bk) : ((outs L).map ob ++ frees L).Perm L := by
  rw [outs_ob]
  have := List.filter_append_perm (fun b : Bk => !b.free) L
  have e : frees L = L.filter (fun b => !(!b.free)) := by unfold frees; congr 1; funext b; simp
  rw [e]
  exact this
/-- the free pieces and what is out make up the words from s on up to e, as L says -/
structure Til (s e : Int) (F : List Bk) (O : List (Int × Int)) (L : List Bk) : Prop where
  cov : Cov s L e
  fr : frees L = norm F
  ou : (outs L).Perm O
  dis : Dis F
  oks : Oks F
variable {s e : Int} {F : List Bk} {O : List (Int × Int)} {L : List Bk}
/-- what Blocks answers is L -/
theorem Til.blocks (T : Til s e F O L) {L' : List Bk} (hp : L'.Perm (O.map ob ++ norm F)) (hs : L'.Pairwise (fun x y : Bk => x.addr ≤ y.addr)) : L' = L := by
  refine sort_one ?_ hs ?_
  · have h := cov_srt T.cov
    have hm := cov_mem T.cov
    exact h.imp_of_mem (fun {a b} ha _ r => by have := (hm a ha).2.1; omega)
  · refine hp.trans ?_
    rw [← T.fr]
    exact ((T.ou.symm.map ob).append_right _).trans (parts_perm L)
theorem Til.alt (T : Til s e F O L) {A C : List Bk} {b c : Bk} (h : L = A ++ b :: c :: C) : ¬ (b.free = true ∧ c.free = true) := by
  rintro ⟨hb, hc⟩
  have hcov := T.cov
  rw [h] at hcov
  obtain ⟨m, _, h1, _, h2, _⟩ := cov_app.1 hcov
  have hn := nad_norm F
  rw [← T.fr, h, frees_app] at hn
  have : frees (b :: c :: C) = b :: c :: frees C := by simp [frees, hb, hc]
  rw [this] at hn
  have := (nad_app hn).2.1
  omega
theorem Til.keys (T : Til s e F O L) : ∀ p ∈ norm F, Oo.hasK O p.addr = false := by
  intro p hp
  have hpL : p ∈ L ∧ p.free = true := by rw [← T.fr] at hp; exact List.mem_filter.1 hp
  cases h : Oo.hasK O p.addr with
  | false => rfl
  | true =>
    exfalso
    obtain ⟨q, hq, e⟩ := List.any_eq_true.1 h
    have hq' := T.ou.mem_iff.2 hq
    obtain ⟨b, hb, rfl⟩ := List.mem_map.1 hq'
    obtain ⟨hbL, hbf⟩ := List.mem_filter.1 hb
    have e' : b.addr = p.addr := by simpa using e
    obtain ⟨L1, L2, hL⟩ := List.append_of_mem hbL
    have hcov := T.cov
    rw [hL] at hcov
    obtain ⟨a1, a2⟩ := cov_apart hcov
    have hm := cov_mem T.cov
    have sb := (hm b hbL).2.1
    have sp := (hm p hpL.1).2.1
    have : p ∈ L1 ++ b :: L2 := by rw [← hL]; exact hpL.1
    rcases List.mem_append.1 this with r | r
    · have := a1 p r; omega
    · rcases List.mem_cons.1 r with rfl | r
      · rw [hpL.2] at hbf; cases hbf
      · have := a2 p r; omega
theorem Til.start (s e : Int) (h0 : 0 ≤ s) (h1 : s < e) (h2 : e ≤ 65536) : Til s e [⟨s, e - s, true⟩] [] [⟨s, e - s, true⟩] :=
  ⟨⟨rfl, by show 0 < e - s; omega, by show s + (e - s) = e; omega⟩, rfl, .refl _, List.pairwise_singleton _ _, fun x hx => by rw [List.mem_singleton.1 hx]; exact ⟨h0, by show 0 < e - s; omega, by show s + (e - s) ≤ 65536; omega, rfl⟩⟩
/-- a Take -/
theorem Til.take (T : Til s e F O L) {S FR : List Bk} {p : Bk} {n : Int} (h1 : 1 ≤ n) (hN : norm F = S ++ p :: norm FR) (hd : Dis (S ++ p :: FR)) (ho : Oks (S ++ p :: FR)) (hn : n ≤ p.size) :
    ∃ L1 L2, L = L1 ++ p :: L2 ∧ frees L1 = S ∧ p.free = true ∧ Til s e (S ++ (rem p n ++ FR)) ((p.addr, n) :: O) (L1 ++ ⟨p.addr, n, false⟩ :: (rem p n ++ L2)) := by
  obtain ⟨L1, L2, hL, f1, f2⟩ := filter_split (T.fr.trans hN)
  obtain ⟨d1, d2, d3⟩ := dis_app.1 hd
  obtain ⟨o1, o2⟩ := oks_app.1 ho
  obtain ⟨d4, d5⟩ := List.pairwise_cons.1 d2
  have op := o2 p List.mem_cons_self
  obtain ⟨p1, p2, p3, p4⟩ := op
  have oFR : Oks FR := fun x hx => o2 x (List.mem_cons_of_mem _ hx)
  have hnad := nad_norm F
  rw [hN] at hnad
  obtain ⟨nS, nP⟩ := nad_app hnad
  have hcov := T.cov
  rw [hL] at hcov
  obtain ⟨m, c1, c2, c3, c4⟩ := cov_app.1 hcov
  have hrm : ∀ x ∈ rem p n, x = ⟨p.addr + n, p.size - n, true⟩ ∧ n < p.size := by
    intro x hx
    unfold rem at hx
    split at hx
    · rename_i hlt
      exact ⟨List.mem_singleton.1 hx, hlt⟩
    · cases hx
  refine ⟨L1, L2, hL, f1, p4, ⟨?_, ?_, ?_, ?_, ?_⟩⟩
  · refine cov_app.2 ⟨m, c1, c2, by show 0 < n; omega, ?_⟩
    show Cov (m + n) (rem p n ++ L2) e
    unfold rem
    split
    · refine ⟨by show p.addr + n = m + n; omega, by show 0 < p.size - n; omega, ?_⟩
      show Cov (m + n + (p.size - n)) L2 e
      rw [show m + n + (p.size - n) = m + p.size by omega]
      exact c4
    · rw [List.nil_append, show m + n = m + p.size by omega]
      exact c4
  · rw [frees_app]
    have e1 : frees (⟨p.addr, n, false⟩ :: (rem p n ++ L2)) = rem p n ++ norm FR := by
      have : frees (⟨p.addr, n, false⟩ :: (rem p n ++ L2)) = frees (rem p n ++ L2) := by simp [frees]
      rw [this, frees_app]
      congr 1
      unfold rem
      split <;> rfl
    rw [e1, show frees L1 = S from f1]
    have gap : ∀ a ∈ S, ∀ c, (rem p n ++ FR).head? = some c → a.addr + a.size ≠ c.addr := by
      intro a ha c hc
      have h5 := d3 a ha p List.mem_cons_self
      have hcm : c ∈ rem p n ++ FR := List.mem_of_mem_head? hc
      rcases List.mem_append.1 hcm with r | r
      · have := (hrm c r).1; rw [this]; show a.addr + a.size ≠ p.addr + n; omega
      · have := d4 c r; omega
    rw [norm_gap gap, norm_nad nS]
    congr 1
    unfold rem
    split
    · show _ = norm (⟨p.addr + n, p.size - n, true⟩ :: FR)
      rw [norm_cons]
      cases hF : norm FR with
      | nil => rfl
      | cons c r =>
        rw [hF] at nP
        rw [cj_no (by show ¬ c.addr = p.addr + n + (p.size - n); have := nP.1; omega)]
        rfl
    · rfl
  · have e1 : outs (L1 ++ ⟨p.addr, n, false⟩ :: (rem p n ++ L2)) = outs L1 ++ (p.addr, n) :: outs L2 := by
      rw [outs_app]
      congr 1
      have : outs (⟨p.addr, n, false⟩ :: (rem p n ++ L2)) = (p.addr, n) :: outs (rem p n ++ L2) := by simp [outs]
      rw [this, outs_app]
      congr 1
      unfold rem
      split <;> rfl
    rw [e1]
    have e2 : outs L = outs L1 ++ outs L2 := by
      rw [hL, outs_app]
      congr 1
      simp [outs, p4]
    have := T.ou
    rw [e2] at this
    exact List.perm_middle.trans (this.cons _)
  · refine dis_app.2 ⟨d1, dis_app.2 ⟨?_, d5, fun a ha c hc => ?_⟩, fun a ha c hc => ?_⟩
    · unfold rem
      split
      · exact List.pairwise_singleton _ _
      · exact .nil
    · have := (hrm a ha).1
      rw [this]
      have := d4 c hc
      show p.addr + n + (p.size - n) ≤ c.addr
      omega
    · have h5 := d3 a ha p List.mem_cons_self
      rcases List.mem_append.1 hc with r | r
      · have := (hrm c r).1; rw [this]; show a.addr + a.size ≤ p.addr + n; omega
      · have := d4 c r; omega
  · refine oks_app.2 ⟨o1, oks_app.2 ⟨fun x hx => ?_, oFR⟩⟩
    obtain ⟨rfl, hlt⟩ := hrm x hx
    exact ⟨by show 0 ≤ p.addr + n; omega, by show 0 < p.size - n; omega, by show p.addr + n + (p.size - n) ≤ 65536; omega, rfl⟩
end Ar
end Go.Proofs.Ytfeehnfpfheojaa
