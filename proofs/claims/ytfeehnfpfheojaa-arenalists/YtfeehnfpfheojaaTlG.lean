import Derived.Test.YtfeehnfpfheojaaTlP
set_option linter.unusedVariables false
set_option linter.unusedSimpArgs false
namespace Go.Proofs.Ytfeehnfpfheojaa
open Go.RowKit Go.Sort
namespace Ar
open Fr
/-- a piece ahead of others, joined with the first if both are free -/
def tj (b : Bk) : List Bk → List Bk
  | [] => [b]
  | c :: r => if b.free = true ∧ c.free = true then mrg b c :: r else b :: c :: r
def normT (T : List Bk) : List Bk := T.foldr tj []
theorem tj_yes {b c : Bk} (h : b.free = true ∧ c.free = true) (r : List Bk) : tj b (c :: r) = mrg b c :: r := if_pos h
theorem tj_no {b c : Bk} (h : ¬ (b.free = true ∧ c.free = true)) (r : List Bk) : tj b (c :: r) = b :: c :: r := if_neg h
theorem cov_tj {b : Bk} {L : List Bk} {s e : Int} (h : Cov s (b :: L) e) : Cov s (tj b L) e := by
  cases L with
  | nil => exact h
  | cons c r =>
    by_cases q : b.free = true ∧ c.free = true
    · rw [tj_yes q]
      obtain ⟨h1, h2, h3, h4, h5⟩ := h
      refine ⟨h1, by show 0 < b.size + c.size; omega, ?_⟩
      show Cov (s + (b.size + c.size)) r e
      rw [show s + (b.size + c.size) = s + b.size + c.size by omega]
      exact h5
    · rw [tj_no q]
      exact h
theorem cov_normT {T : List Bk} {s e : Int} (h : Cov s T e) : Cov s (normT T) e := by
  induction T generalizing s with
  | nil => exact h
  | cons b r ih =>
    obtain ⟨h1, h2, h3⟩ := h
    exact cov_tj ⟨h1, h2, ih h3⟩
theorem frees_tj {b : Bk} {L : List Bk} {s e : Int} (h : Cov s (b :: L) e) : frees (tj b L) = if b.free = true then cj b (frees L) else frees L := by
  cases L with
  | nil =>
    by_cases q : b.free = true
    · rw [if_pos q]; simp [tj, frees, q, cj]
    · rw [if_neg q]; simp [tj, frees, q]
  | cons c r =>
    obtain ⟨h1, h2, h3, h4, h5⟩ := h
    by_cases q : b.free = true
    · rw [if_pos q]
      by_cases qc : c.free = true
      · rw [tj_yes ⟨q, qc⟩]
        have e1 : frees (mrg b c :: r) = mrg b c :: frees r := by simp [frees, mrg, q]
        have e2 : frees (c :: r) = c :: frees r := by simp [frees, qc]
        rw [e1, e2, cj_yes (by omega)]
      · rw [tj_no (fun z => qc z.2)]
        have e1 : frees (b :: c :: r) = b :: frees r := by simp [frees, q, qc]
        have e2 : frees (c :: r) = frees r := by simp [frees, qc]
        rw [e1, e2]
        cases hr : frees r with
        | nil => rfl
        | cons y t =>
          have hy : y ∈ r := (List.mem_filter.1 (show y ∈ frees r by rw [hr]; exact List.mem_cons_self)).1
          have := cov_mem h5 y hy
          rw [cj_no (by omega)]
    · rw [if_neg q, tj_no (fun z => q z.1)]
      simp [frees, q]
theorem frees_normT {T : List Bk} {s e : Int} (h : Cov s T e) : frees (normT T) = norm (frees T) := by
  induction T generalizing s with
  | nil => rfl
  | cons b r ih =>
    obtain ⟨h1, h2, h3⟩ := h
    show frees (tj b (normT r)) = _
    rw [frees_tj ⟨h1, h2, cov_normT h3⟩, ih h3]
    by_cases q : b.free = true
    · rw [if_pos q]
      have : frees (b :: r) = b :: frees r := by simp [frees, q]
      rw [this, norm_cons]
    · rw [if_neg q]
      have : frees (b :: r) = frees r := by simp [frees, q]
      rw [this]
theorem outs_tj (b : Bk) (L : List Bk) : outs (tj b L) = outs (b :: L) := by
  cases L with
  | nil => rfl
  | cons c r =>
    by_cases q : b.free = true ∧ c.free = true
    · rw [tj_yes q]
      simp [outs, mrg, q.1, q.2]
    · rw [tj_no q]
theorem outs_normT (T : List Bk) : outs (normT T) = outs T := by
  induction T with
  | nil => rfl
  | cons b r ih =>
    show outs (tj b (normT r)) = _
    rw [outs_tj]
    have e1 : ∀ X, outs (b :: X) = outs [b] ++ outs X := fun X => outs_app [b] X
    rw [e1 (normT r), e1 r, ih]
/-- every free part lies in a free piece -/
theorem norm_cover {F : List Bk} (ho : Oks F) : ∀ x ∈ F, ∃ q ∈ norm F, q.addr ≤ x.addr ∧ x.addr + x.size ≤ q.addr + q.size := by
  induction F with
  | nil => intro x hx; cases hx
  | cons a r ih =>
    have ih' := ih (fun x hx => ho x (List.mem_cons_of_mem _ hx))
    have hsz : ∀ q ∈ norm r, 0 ≤ q.size := by
      intro q hq
      clear ih ih'
      have hor : ∀ x ∈ r, 0 ≤ x.size := fun x hx => Int.le_of_lt (ho x (List.mem_cons_of_mem _ hx)).2.1
      clear ho
      induction r generalizing q with
      | nil => cases hq
      | cons c s ih2 =>
        rw [norm_cons] at hq
        have hs := fun q hq => ih2 q hq (fun x hx => hor x (List.mem_cons_of_mem _ hx))
        have hc := hor c List.mem_cons_self
        cases hN : norm s with
        | nil => rw [hN] at hq; have : q = c := List.mem_singleton.1 hq; rw [this]; exact hc
        | cons d t =>
          rw [hN] at hq
          by_cases e : d.addr = c.addr + c.size
          · rw [cj_yes e] at hq
            rcases List.mem_cons.1 hq with rfl | hq
            · have := hs d (by rw [hN]; exact List.mem_cons_self); show 0 ≤ c.size + d.size; omega
            · exact hs q (by rw [hN]; exact List.mem_cons_of_mem _ hq)
          · rw [cj_no e] at hq
            rcases List.mem_cons.1 hq with rfl | hq
            · exact hc
            · exact hs q (by rw [hN]; exact hq)
    have oa := (ho a List.mem_cons_self).2.1
    intro x hx
    rw [norm_cons]
    cases hN : norm r with
    | nil =>
      rcases List.mem_cons.1 hx with rfl | hx
      · exact ⟨x, List.mem_cons_self, Int.le_refl _, Int.le_refl _⟩
      · obtain ⟨q, hq, _⟩ := ih' x hx; rw [hN] at hq; cases hq
    | cons c s =>
      have hc := hsz c (by rw [hN]; exact List.mem_cons_self)
      by_cases e : c.addr = a.addr + a.size
      · rw [cj_yes e]
        rcases List.mem_cons.1 hx with rfl | hx
        · exact ⟨mrg x c, List.mem_cons_self, Int.le_refl _, by show x.addr + x.size ≤ x.addr + (x.size + c.size); omega⟩
        · obtain ⟨q, hq, h1, h2⟩ := ih' x hx
          rw [hN] at hq
          rcases List.mem_cons.1 hq with rfl | hq
          · exact ⟨mrg a q, List.mem_cons_self, by show a.addr ≤ x.addr; omega, by show x.addr + x.size ≤ a.addr + (a.size + q.size); omega⟩
          · exact ⟨q, List.mem_cons_of_mem _ hq, h1, h2⟩
      · rw [cj_no e]
        rcases List.mem_cons.1 hx with rfl | hx
        · exact ⟨x, List.mem_cons_self, Int.le_refl _, Int.le_refl _⟩
        · obtain ⟨q, hq, h1, h2⟩ := ih' x hx
          rw [hN] at hq
          exact ⟨q, List.mem_cons_of_mem _ hq, h1, h2⟩
theorem norm_addr {F : List Bk} : ∀ q ∈ norm F, ∃ x ∈ F, q.addr = x.addr := by
  induction F with
  | nil => intro q hq; cases hq
  | cons a r ih =>
    intro q hq
    rw [norm_cons] at hq
    cases hN : norm r with
    | nil => rw [hN] at hq; exact ⟨a, List.mem_cons_self, by rw [List.mem_singleton.1 hq]⟩
    | cons c s =>
      rw [hN] at hq ih
      by_cases e : c.addr = a.addr + a.size
      · rw [cj_yes e] at hq
        rcases List.mem_cons.1 hq with rfl | hq
        · exact ⟨a, List.mem_cons_self, rfl⟩
        · obtain ⟨x, hx, h⟩ := ih q (List.mem_cons_of_mem _ hq); exact ⟨x, List.mem_cons_of_mem _ hx, h⟩
      · rw [cj_no e] at hq
        rcases List.mem_cons.1 hq with rfl | hq
        · exact ⟨q, List.mem_cons_self, rfl⟩
        · obtain ⟨x, hx, h⟩ := ih q hq; exact ⟨x, List.mem_cons_of_mem _ hx, h⟩
theorem split_at {F : List Bk} (hd : Dis F) (ho : Oks F) (a : Int) : ∃ A C, F = A ++ C ∧ (∀ x ∈ A, x.addr < a) ∧ ∀ x ∈ C, a ≤ x.addr := by
  induction F with
  | nil => exact ⟨[], [], rfl, (fun x hx => by cases hx), fun x hx => by cases hx⟩
  | cons b r ih =>
    obtain ⟨d1, d2⟩ := List.pairwise_cons.1 hd
    by_cases h : b.addr < a
    · obtain ⟨A, C, rfl, hA, hC⟩ := ih d2 (fun x hx => ho x (List.mem_cons_of_mem _ hx))
      refine ⟨b :: A, C, rfl, fun x hx => ?_, hC⟩
      rcases List.mem_cons.1 hx with rfl | hx
      · exact h
      · exact hA x hx
    · refine ⟨[], b :: r, rfl, (fun x hx => by cases hx), fun x hx => ?_⟩
      rcases List.mem_cons.1 hx with rfl | hx
      · omega
      · have := d1 x hx; have := (ho b List.mem_cons_self).2.1; omega
theorem split_one {X Y X' Y' : List Bk} {q : Bk → Bool} (h : X ++ Y = X' ++ Y') (h1 : ∀ x ∈ X, q x = true) (h2 : ∀ x ∈ X', q x = true) (h3 : ∀ x ∈ Y, q x = false) (h4 : ∀ x ∈ Y', q x = false) : X = X' ∧ Y = Y' := by
  have e1 : ∀ {A C : List Bk}, (∀ x ∈ A, q x = true) → (∀ x ∈ C, q x = false) → (A ++ C).filter q = A := fun {A C} ha hc => by
    rw [List.filter_append, List.filter_eq_self.2 ha, List.filter_eq_nil_iff.2 (fun x hx => by rw [hc x hx]; decide), List.append_nil]
  have hX : X = X' := by rw [← e1 h1 h3, h, e1 h2 h4]
  refine ⟨hX, ?_⟩
  rw [hX] at h
  exact List.append_cancel_left h
variable {s e : Int} {F : List Bk} {O : List (Int × Int)} {L : List Bk}
/-- a Give -/
theorem Til.give (T : Til s e F O L) (nd : O.Pairwise (fun p q => p.1 ≠ q.1)) (h0 : 0 ≤ s) (he : e ≤ 65536) {a : Int} (hk : Oo.hasK O a = true) :
    ∃ L1 L2 F', L = L1 ++ ⟨a, Oo.val O a, false⟩ :: L2 ∧ F'.Perm (⟨a, Oo.val O a, true⟩ :: F) ∧ Til s e F' (Oo.del O a) (normT (L1 ++ ⟨a, Oo.val O a, true⟩ :: L2)) := by
  obtain ⟨q, hq, e1⟩ := List.any_eq_true.1 hk
  have e1' : q.1 = a := by simpa using e1
  have hv : Oo.val O a = q.2 := by rw [← e1']; exact val_mem nd hq
  obtain ⟨b, hb, hbq⟩ := List.mem_map.1 (T.ou.mem_iff.2 hq)
  obtain ⟨hbL, hbf⟩ := List.mem_filter.1 hb
  have hbe : b = ⟨a, Oo.val O a, false⟩ := by
    obtain ⟨ba, bs, bf⟩ := b
    have h1 : ba = q.1 := congrArg Prod.fst hbq
    have h2 : bs = q.2 := congrArg Prod.snd hbq
    simp at hbf
    rw [hv, h1, h2, e1', hbf]
  obtain ⟨L1, L2, hL⟩ := List.append_of_mem hbL
  rw [hbe] at hL
  generalize hvv : Oo.val O a = v at *
  have hcov := T.cov
  rw [hL] at hcov
  obtain ⟨ap1, ap2⟩ := cov_apart hcov
  have hmem := cov_mem hcov
  have hbm := hmem ⟨a, v, false⟩ (List.mem_append_right _ List.mem_cons_self)
  obtain ⟨b1, b2, b3⟩ := hbm
  simp only at b1 b2 b3 ap1 ap2
  obtain ⟨A, C, hF, hA, hC⟩ := split_at T.dis T.oks a
  have hfr : norm F = frees L1 ++ frees L2 := by rw [← T.fr, hL, frees_app]; simp [frees]
  have far : ∀ x ∈ F, x.addr + x.size ≤ a ∨ a + v ≤ x.addr := by
    intro x hx
    obtain ⟨y, hy, h1, h2⟩ := norm_cover T.oks x hx
    rw [hfr] at hy
    rcases List.mem_append.1 hy with r | r
    · have := ap1 y (List.mem_filter.1 r).1; left; omega
    · have := ap2 y (List.mem_filter.1 r).1; right; omega
  have hA2 : ∀ x ∈ A, x.addr + x.size ≤ a := fun x hx => by
    have := far x (by rw [hF]; exact List.mem_append_left _ hx); have := hA x hx; omega
  have hC2 : ∀ x ∈ C, a + v ≤ x.addr := fun x hx => by
    have h1 := far x (by rw [hF]; exact List.mem_append_right _ hx)
    have h2 := hC x hx
    have h3 := (T.oks x (by rw [hF]; exact List.mem_append_right _ hx)).2.1
    omega
  have hd := T.dis
  have ho := T.oks
  rw [hF] at hd ho
  obtain ⟨d1, d2, d3⟩ := dis_app.1 hd
  obtain ⟨o1, o2⟩ := oks_app.1 ho
  have hcovT : Cov s (L1 ++ ⟨a, v, true⟩ :: L2) e := by
    obtain ⟨m, c1, c2⟩ := cov_app.1 hcov
    exact cov_app.2 ⟨m, c1, c2⟩
  have hnAC : norm A = frees L1 ∧ norm C = frees L2 := by
    have g : norm (A ++ C) = norm A ++ norm C := norm_gap (fun x hx c hc => by have := hA2 x hx; have := hC2 c (List.mem_of_mem_head? hc); omega)
    rw [← hF, hfr] at g
    refine split_one (q := fun x => decide (x.addr < a)) g.symm (fun x hx => ?_) (fun x hx => ?_) (fun x hx => ?_) (fun x hx => ?_)
    · obtain ⟨y, hy, e2⟩ := norm_addr x hx
      have := hA y hy
      simp; omega
    · have hx' := (List.mem_filter.1 hx).1
      have h1 := ap1 x hx'
      have h2 := (hmem x (List.mem_append_left _ hx')).2.1
      simp; omega
    · obtain ⟨y, hy, e2⟩ := norm_addr x hx
      have := hC y hy
      simp; omega
    · have hx' := (List.mem_filter.1 hx).1
      have h1 := ap2 x hx'
      simp; omega
  refine ⟨L1, L2, A ++ ⟨a, v, true⟩ :: C, hL, by rw [hF]; exact List.perm_middle, ⟨cov_normT hcovT, ?_, ?_, ?_, ?_⟩⟩
  · rw [frees_normT hcovT, frees_app]
    have : frees (⟨a, v, true⟩ :: L2) = ⟨a, v, true⟩ :: frees L2 := by simp [frees]
    rw [this, norm_put A C, hnAC.1, hnAC.2]
  · rw [outs_normT, outs_app]
    have e2 : outs (⟨a, v, true⟩ :: L2) = outs L2 := by simp [outs]
    rw [e2]
    have e3 : outs L = outs L1 ++ (a, v) :: outs L2 := by rw [hL, outs_app]; simp [outs]
    have hp := T.ou
    rw [e3] at hp
    have hp2 : ((a, v) :: (outs L1 ++ outs L2)).Perm O := List.perm_middle.symm.trans hp
    have hdl : (Oo.del ((a, v) :: (outs L1 ++ outs L2)) a).Perm (Oo.del O a) := hp2.filter _
    refine List.Perm.trans ?_ hdl
    have hnd2 : ((a, v) :: (outs L1 ++ outs L2)).Pairwise (fun p q => p.1 ≠ q.1) := (hp2.pairwise_iff (R := fun p q : Int × Int => p.1 ≠ q.1) (fun {_ _} q => Ne.symm q)).2 nd
    have : Oo.del ((a, v) :: (outs L1 ++ outs L2)) a = outs L1 ++ outs L2 := by
      unfold Oo.del
      rw [List.filter_cons_of_neg (by simp)]
      exact List.filter_eq_self.2 (fun x hx => by have := (List.pairwise_cons.1 hnd2).1 x hx; simp at this ⊢; exact fun e => this e.symm)
    rw [this]
  · refine dis_app.2 ⟨d1, List.pairwise_cons.2 ⟨fun y hy => hC2 y hy, d2⟩, fun x hx c hc => ?_⟩
    rcases List.mem_cons.1 hc with rfl | hc
    · exact hA2 x hx
    · exact d3 x hx c hc
  · refine oks_app.2 ⟨o1, fun x hx => ?_⟩
    rcases List.mem_cons.1 hx with rfl | hx
    · exact ⟨by show 0 ≤ a; omega, b2, by show a + v ≤ 65536; omega, rfl⟩
    · exact o2 x hx
end Ar
end Go.Proofs.Ytfeehnfpfheojaa
