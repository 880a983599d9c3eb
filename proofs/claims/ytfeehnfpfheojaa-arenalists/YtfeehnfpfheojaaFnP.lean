import Derived.Test.YtfeehnfpfheojaaLow
set_option linter.unusedVariables false
set_option linter.unusedSimpArgs false
namespace Go.Proofs.Ytfeehnfpfheojaa
open Go.RowKit Go.Sort
namespace Fr
/-- none reaches into the next -/
def Dis (F : List Bk) : Prop := F.Pairwise (fun x y => x.addr + x.size ≤ y.addr)
def Oks (F : List Bk) : Prop := ∀ x ∈ F, Okb x
theorem Dis.srt {F : List Bk} (h : Dis F) (ho : Oks F) : Srt F := by
  induction F with
  | nil => exact .nil
  | cons a r ih =>
    obtain ⟨h1, h2⟩ := List.pairwise_cons.1 h
    refine List.pairwise_cons.2 ⟨fun y hy => ?_, ih h2 (fun x hx => ho x (List.mem_cons_of_mem _ hx))⟩
    have := h1 y hy
    have := (ho a List.mem_cons_self).2.1
    omega
def mrg (b c : Bk) : Bk := ⟨b.addr, b.size + c.size, b.free⟩
/-- a piece ahead of others, joined with the first if that lies beside it -/
def cj (b : Bk) : List Bk → List Bk
  | [] => [b]
  | c :: r => if c.addr = b.addr + b.size then mrg b c :: r else b :: c :: r
/-- the pieces as they are to be seen: those that lie beside one another are one -/
def norm (F : List Bk) : List Bk := F.foldr cj []
theorem norm_cons (b : Bk) (F : List Bk) : norm (b :: F) = cj b (norm F) := rfl
theorem norm_app (A X : List Bk) : norm (A ++ X) = A.foldr cj (norm X) := by unfold norm; rw [List.foldr_append]
theorem cj_yes {b c : Bk} (h : c.addr = b.addr + b.size) (r : List Bk) : cj b (c :: r) = mrg b c :: r := if_pos h
theorem cj_no {b c : Bk} (h : ¬ c.addr = b.addr + b.size) (r : List Bk) : cj b (c :: r) = b :: c :: r := if_neg h
theorem cj_head (b : Bk) (Y : List Bk) : ∃ s r, cj b Y = ⟨b.addr, s, b.free⟩ :: r := by
  cases Y with
  | nil => exact ⟨_, _, rfl⟩
  | cons c r =>
    by_cases e : c.addr = b.addr + b.size
    · exact ⟨_, _, cj_yes e r⟩
    · exact ⟨_, _, cj_no e r⟩
theorem cj_assoc {b c : Bk} (h : c.addr = b.addr + b.size) (Y : List Bk) : cj b (cj c Y) = cj (mrg b c) Y := by
  cases Y with
  | nil => exact cj_yes h []
  | cons d r =>
    by_cases e : d.addr = c.addr + c.size
    · have e2 : d.addr = (mrg b c).addr + (mrg b c).size := by show d.addr = b.addr + (b.size + c.size); omega
      rw [cj_yes e, cj_yes e2, cj_yes (show (mrg c d).addr = b.addr + b.size from h)]
      simp [mrg]
      omega
    · have e2 : ¬ d.addr = (mrg b c).addr + (mrg b c).size := by show ¬ d.addr = b.addr + (b.size + c.size); omega
      rw [cj_no e, cj_no e2, cj_yes h]
theorem foldr_norm (A : List Bk) (X : List Bk) : (norm A).foldr cj X = A.foldr cj X := by
  induction A with
  | nil => rfl
  | cons a A ih =>
    rw [norm_cons, List.foldr_cons, ← ih]
    cases hM : norm A with
    | nil => rfl
    | cons c s =>
      by_cases e : c.addr = a.addr + a.size
      · rw [cj_yes e, List.foldr_cons, List.foldr_cons, cj_assoc e]
      · rw [cj_no e, List.foldr_cons]
theorem norm_norm (F : List Bk) : norm (norm F) = norm F := foldr_norm F []
theorem norm_put (A C : List Bk) (b : Bk) : norm (A ++ b :: C) = norm (norm A ++ b :: norm C) := by
  rw [norm_app, norm_app, foldr_norm, norm_cons, norm_cons, norm_norm]
/-- a gap between -/
theorem foldr_gap {A Y : List Bk} (h : ∀ a ∈ A, ∀ y, Y.head? = some y → a.addr + a.size ≠ y.addr) : A.foldr cj Y = norm A ++ Y := by
  induction A with
  | nil => rfl
  | cons a A ih =>
    rw [List.foldr_cons, ih (fun x hx => h x (List.mem_cons_of_mem _ hx)), norm_cons]
    cases hM : norm A with
    | nil =>
      cases Y with
      | nil => rfl
      | cons y r =>
        have := h a List.mem_cons_self y rfl
        show cj a (y :: r) = [a] ++ (y :: r)
        rw [cj_no (fun e => this e.symm)]
        rfl
    | cons c s =>
      show cj a (c :: (s ++ Y)) = cj a (c :: s) ++ Y
      by_cases e : c.addr = a.addr + a.size
      · rw [cj_yes e, cj_yes e]; rfl
      · rw [cj_no e, cj_no e]; rfl
theorem norm_head {F : List Bk} {b : Bk} {r : List Bk} (h : F = b :: r) : ∃ s t, norm F = ⟨b.addr, s, b.free⟩ :: t := by
  subst h
  exact cj_head b (norm r)
theorem norm_head? {F : List Bk} {y : Bk} (h : (norm F).head? = some y) : ∃ b r, F = b :: r ∧ y.addr = b.addr := by
  cases F with
  | nil => cases h
  | cons b r =>
    obtain ⟨s, t, e⟩ := norm_head (F := b :: r) rfl
    rw [e] at h
    cases h
    exact ⟨b, r, rfl, rfl⟩
theorem norm_gap {A C : List Bk} (h : ∀ a ∈ A, ∀ c, C.head? = some c → a.addr + a.size ≠ c.addr) : norm (A ++ C) = norm A ++ norm C := by
  rw [norm_app]
  refine foldr_gap (fun a ha y hy => ?_)
  obtain ⟨b, r, e, e2⟩ := norm_head? hy
  rw [e2]
  exact h a ha b (by rw [e]; rfl)
theorem grp_norm (b : Bk) (F : List Bk) : norm (b :: F) = (grp b F).1 :: norm (grp b F).2 := by
  induction F generalizing b with
  | nil => rfl
  | cons c r ih =>
    unfold grp
    by_cases e : c.addr = b.addr + b.size
    · rw [if_pos e, ← ih, norm_cons, norm_cons, cj_assoc e]
      rfl
    · rw [if_neg e, norm_cons]
      obtain ⟨s, t, e2⟩ := norm_head (F := c :: r) rfl
      rw [e2]
      exact cj_no (c := ⟨c.addr, s, c.free⟩) e t
/-- what grp keeps -/
theorem grp_ok (b : Bk) (F : List Bk) (hd : Dis (b :: F)) (ho : Oks (b :: F)) : (grp b F).1.addr = b.addr ∧ Dis ((grp b F).1 :: (grp b F).2) ∧ Oks ((grp b F).1 :: (grp b F).2) ∧ (grp b F).2.length ≤ F.length ∧ b.size ≤ (grp b F).1.size ∧ ∀ x ∈ (grp b F).2, x ∈ F := by
  induction F generalizing b with
  | nil => exact ⟨rfl, hd, ho, Nat.le_refl _, Int.le_refl _, fun x hx => hx⟩
  | cons c r ih =>
    unfold grp
    by_cases e : c.addr = b.addr + b.size
    · rw [if_pos e]
      obtain ⟨d1, d2⟩ := List.pairwise_cons.1 hd
      obtain ⟨d3, d4⟩ := List.pairwise_cons.1 d2
      have ob := ho b List.mem_cons_self
      have oc := ho c (List.mem_cons_of_mem _ List.mem_cons_self)
      have om : Okb (mrg b c) := by
        obtain ⟨a1, a2, a3, a4⟩ := ob
        obtain ⟨c1, c2, c3, c4⟩ := oc
        exact ⟨a1, by show 0 < b.size + c.size; omega, by show b.addr + (b.size + c.size) ≤ 65536; omega, a4⟩
      have hd' : Dis (mrg b c :: r) := List.pairwise_cons.2 ⟨fun y hy => by have := d3 y hy; show b.addr + (b.size + c.size) ≤ y.addr; omega, d4⟩
      have ho' : Oks (mrg b c :: r) := fun x hx => by
        rcases List.mem_cons.1 hx with rfl | hx
        · exact om
        · exact ho x (List.mem_cons_of_mem _ (List.mem_cons_of_mem _ hx))
      obtain ⟨i1, i2, i3, i4, i5, i6⟩ := ih (mrg b c) hd' ho'
      refine ⟨i1, i2, i3, Nat.le_trans i4 (by simp), ?_, fun x hx => List.mem_cons_of_mem _ (i6 x hx)⟩
      have : b.size ≤ (mrg b c).size := by show b.size ≤ b.size + c.size; have := oc.2.1; omega
      exact Int.le_trans this i5
    · rw [if_neg e]
      exact ⟨rfl, hd, ho, Nat.le_refl _, Int.le_refl _, fun x hx => hx⟩
theorem oks_app {A C : List Bk} : Oks (A ++ C) ↔ Oks A ∧ Oks C := ⟨fun h => ⟨fun x hx => h x (List.mem_append_left _ hx), fun x hx => h x (List.mem_append_right _ hx)⟩, fun h x hx => by
  rcases List.mem_append.1 hx with q | q
  · exact h.1 x q
  · exact h.2 x q⟩
theorem dis_app {A C : List Bk} : Dis (A ++ C) ↔ Dis A ∧ Dis C ∧ ∀ a ∈ A, ∀ c ∈ C, a.addr + a.size ≤ c.addr := List.pairwise_append
/-- the next group behind some -/
theorem grp_next {S F : List Bk} {b : Bk} (hd : Dis (S ++ b :: F)) (ho : Oks (S ++ b :: F)) : Dis (S ++ (grp b F).1 :: (grp b F).2) ∧ Oks (S ++ (grp b F).1 :: (grp b F).2) := by
  obtain ⟨d1, d2, d3⟩ := dis_app.1 hd
  obtain ⟨o1, o2⟩ := oks_app.1 ho
  obtain ⟨g1, g2, g3, g4, g5, g6⟩ := grp_ok b F d2 o2
  refine ⟨dis_app.2 ⟨d1, g2, fun a ha c hc => ?_⟩, oks_app.2 ⟨o1, g3⟩⟩
  rcases List.mem_cons.1 hc with rfl | hc
  · rw [g1]; exact d3 a ha b List.mem_cons_self
  · exact d3 a ha c (List.mem_cons_of_mem _ (g6 c hc))
/-- no more pieces than words -/
theorem few_from : ∀ (F : List Bk) (s : Nat), Dis F → Oks F → (∀ x ∈ F, (s : Int) ≤ x.addr) → s ≤ 65536 → F.length ≤ 65536 - s := by
  intro F
  induction F with
  | nil => intro s _ _ _ _; simp
  | cons a r ih =>
    intro s hd ho hs hs2
    obtain ⟨d1, d2⟩ := List.pairwise_cons.1 hd
    obtain ⟨o1, o2, o3, _⟩ := ho a List.mem_cons_self
    have h1 := hs a List.mem_cons_self
    have := ih (a.addr + a.size).toNat d2 (fun x hx => ho x (List.mem_cons_of_mem _ hx)) (fun x hx => by have := d1 x hx; omega) (by omega)
    simp only [List.length_cons]
    omega
theorem few {F : List Bk} (hd : Dis F) (ho : Oks F) : F.length ≤ 65536 := few_from F 0 hd ho (fun x hx => (ho x hx).1) (by omega)
end Fr
end Go.Proofs.Ytfeehnfpfheojaa
