import Derived.Test.YtfeehnfpfheojaaHpP
set_option linter.unusedVariables false
set_option linter.unusedSimpArgs false
namespace Go.Proofs.Ytfeehnfpfheojaa
open Go.Sort
namespace Hp
variable {α : Type} {lt : α → α → Bool}
/-- the first of some that are looked at -/
structure Best (lt : α → α → Bool) (us : List (α × Nat)) (q f lo : Nat) : Prop where
  lts : f < us.length
  of : f = q ∨ (0 < f ∧ par f = q ∧ f < lo)
  ah : f ≠ q → ∀ x y, us[f]? = some x → us[q]? = some y → SWO lt → ahd lt x y = true
  no : SWO lt → ∀ c, 0 < c → c < us.length → par c = q → c < lo → Nah (ahd lt) us c f
theorem Best.start (us : List (α × Nat)) (q : Nat) (hq : q < us.length) : Best lt us q q (2 * q + 1) :=
  ⟨hq, .inl rfl, fun n => absurd rfl n, fun _ c h0 hc hp hl => by unfold par at hp; omega⟩
theorem Best.stay {us : List (α × Nat)} {q f lo : Nat} (h : Best lt us q f lo) {x y : α × Nat} (hx : us[lo]? = some x) (hy : us[f]? = some y) (hn : ahd lt x y = false) : Best lt us q f (lo + 1) := by
  refine ⟨h.lts, ?_, h.ah, fun s c h0 hc hp hl => ?_⟩
  · rcases h.of with e | ⟨a, b, c⟩
    · exact .inl e
    · exact .inr ⟨a, b, by omega⟩
  · by_cases e : c = lo
    · subst e
      intro u v hu hv
      rw [hx] at hu
      rw [hy] at hv
      cases hu; cases hv
      exact hn
    · exact h.no s c h0 hc hp (by omega)
theorem Best.move {us : List (α × Nat)} {q f lo : Nat} (h : Best lt us q f lo) (h0 : 0 < lo) (hp : par lo = q) {x y : α × Nat} (hx : us[lo]? = some x) (hy : us[f]? = some y) (hn : ahd lt x y = true) : Best lt us q lo (lo + 1) := by
  have hl : lo < us.length := (List.getElem?_eq_some_iff.1 hx).1
  refine ⟨hl, .inr ⟨h0, hp, by omega⟩, fun ne u v hu hv s => ?_, fun s c c0 hc hpc hcl => ?_⟩
  · rw [hx] at hu
    cases hu
    by_cases e : f = q
    · subst e
      rw [hy] at hv
      cases hv
      exact hn
    · exact (swo_ahd s).trans _ _ _ hn (h.ah e y v hy hv s)
  · intro u v hu hv
    rw [hx] at hv
    cases hv
    by_cases e : c = lo
    · subst e
      rw [hx] at hu
      cases hu
      exact (swo_ahd s).irrefl _
    · have q1 := h.no s c c0 hc hpc (by omega) u y hu hy
      cases z : ahd lt u x with
      | false => rfl
      | true => rw [(swo_ahd s).trans _ _ _ z hn] at q1; cases q1
theorem Best.done {us : List (α × Nat)} {q lo : Nat} (h : Best lt us q q lo) (s : SWO lt) (hS : Sink (ahd lt) us q) (hlo : ∀ c, 0 < c → c < us.length → par c = q → c < lo) : Heap (ahd lt) us :=
  hS.done (fun c h0 hc hp => h.no s c h0 hc hp (hlo c h0 hc hp))
theorem Best.step {us : List (α × Nat)} {q f lo : Nat} (h : Best lt us q f lo) (hf : f ≠ q) (s : SWO lt) (hS : Sink (ahd lt) us q) (hlo : ∀ c, 0 < c → c < us.length → par c = q → c < lo) : Sink (ahd lt) (swp us q f) f := by
  rcases h.of with e | ⟨a, b, c⟩
  · exact absurd e hf
  · have hq : q < us.length := by have := h.lts; unfold par at b; omega
    have e1 := List.getElem?_eq_getElem h.lts
    have e2 := List.getElem?_eq_getElem hq
    exact hS.step (swo_ahd s) h.lts a b e2 e1 (h.ah hf _ _ e1 e2 s) (fun c h0 hc hp => h.no s c h0 hc hp (hlo c h0 hc hp))
end Hp
end Go.Proofs.Ytfeehnfpfheojaa
