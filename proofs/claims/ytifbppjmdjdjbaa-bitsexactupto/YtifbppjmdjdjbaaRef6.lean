import Derived.Test.YtifbppjmdjdjbaaRef5
set_option linter.unusedVariables false
set_option linter.unusedSimpArgs false
namespace Go.Proofs.Ytifbppjmdjdjbaa
open Go.RowKit
section
variable {B0 x : Nat} {ao : Option Addr} {cap R : Nat} {p : Nat → Bool} {w : World}
theorem addL_nil (hp : Out R p) : addL R p [] = B.laid bOr R p (fun _ => false) := by
  funext i
  rw [addL_at]
  unfold B.laid bOr
  by_cases h : i < R
  · simp [h]
  · rw [hp i (by omega)]; simp
theorem dropL_nil (hp : Out R p) : dropL p [] = B.laid bLess R p (fun _ => false) := by
  funext i
  rw [dropL_at]
  unfold B.laid bLess
  by_cases h : i < R
  · simp [h]
  · rw [hp i (by omega)]; simp
theorem rjoin_nil (h : Rs B0 x ao cap R p w) : Calls Try.prog 43 #[.pointer (some ⟨x, 0, none⟩), .pointer none] w fun e w' => e = .returned (.bool (B.chg p (B.laid bOr R p (fun _ => false)) (nw R))) ∧ Rs B0 x ao cap R (B.laid bOr R p (fun _ => false)) w' ∧ Turn (Rrow ao) w w' := by
  have := rjoin_of [] none (held_nil w) (by simp) h
  rw [addL_nil h.out] at this
  exact this
theorem rless_nil (h : Rs B0 x ao cap R p w) : Calls Try.prog 45 #[.pointer (some ⟨x, 0, none⟩), .pointer none] w fun e w' => e = .returned (.bool (B.chg p (B.laid bLess R p (fun _ => false)) (nw R))) ∧ Rs B0 x ao cap R (B.laid bLess R p (fun _ => false)) w' ∧ Turn (Rrow ao) w w' := by
  have := rless_of [] none (held_nil w) (by simp) h
  rw [dropL_nil h.out] at this
  exact this
theorem rjoin_two {B2 y : Nat} {ao2 : Option Addr} {cap2 R2 : Nat} {q : Nat → Bool} (h : Rs B0 x ao cap R p w) (h2 : Rs B2 y ao2 cap2 R2 q w) : Calls Try.prog 43 #[.pointer (some ⟨x, 0, none⟩), .pointer (some ⟨y, 0, none⟩)] w fun e w' => e = .returned (.bool (B.chg p (B.laid bOr R p q) (nw R))) ∧ Rs B0 x ao cap R (B.laid bOr R p q) w' ∧ Turn (Rrow ao) w w' := by
  have := rjoin_of (lp q R2) _ (held_some h2) (Nat.le_trans (lp_len q R2) h2.le) h
  rw [add_laid h.out h2.out] at this
  exact this
theorem rless_two {B2 y : Nat} {ao2 : Option Addr} {cap2 R2 : Nat} {q : Nat → Bool} (h : Rs B0 x ao cap R p w) (h2 : Rs B2 y ao2 cap2 R2 q w) : Calls Try.prog 45 #[.pointer (some ⟨x, 0, none⟩), .pointer (some ⟨y, 0, none⟩)] w fun e w' => e = .returned (.bool (B.chg p (B.laid bLess R p q) (nw R))) ∧ Rs B0 x ao cap R (B.laid bLess R p q) w' ∧ Turn (Rrow ao) w w' := by
  have := rless_of (lp q R2) _ (held_some h2) (Nat.le_trans (lp_len q R2) h2.le) h
  rw [drop_laid h.out h2.out] at this
  exact this
theorem rmeet_two {B2 y : Nat} {ao2 : Option Addr} {cap2 R2 : Nat} {q : Nat → Bool} (h : Rs B0 x ao cap R p w) (h2 : Rs B2 y ao2 cap2 R2 q w) (hy : ¬ Rrow ao y) (hr : ∀ j, Rrow ao2 j → ¬ Rrow ao j) : Calls Try.prog 44 #[.pointer (some ⟨x, 0, none⟩), .pointer (some ⟨y, 0, none⟩)] w fun e w' => e = .returned (.bool (B.chg p (B.laid bAnd R p q) (nw R))) ∧ Rs B0 x ao cap R (B.laid bAnd R p q) w' ∧ Turn (Rrow ao) w w' := by
  have := rmeet_some q y (fun w => Rs B2 y ao2 cap2 R2 q w) h h2 (fun wx wy ho t => ho.kept t hy hr) (fun wx wy ho b => ho.below b) (fun k wx hk _ ho => by
    have := rhas_any (((lp p R).getD k 0 : Nat) : Int) ho
    rw [show hasB q (((lp p R).getD k 0 : Nat) : Int) = q ((lp p R).getD k 0) by simp [hasB]] at this
    exact this)
  exact this.mono fun e w' ⟨a, b, _, d⟩ => ⟨a, b, d⟩
theorem keep_all (p : Nat → Bool) (R k : Nat) : dropL p (((lp p R).take k).filter fun i => !p i) = p := by
  have : ((lp p R).take k).filter (fun i => !p i) = [] := by
    rw [List.filter_eq_nil_iff]
    intro a ha
    have := (lp_mem p R a).1 (List.mem_of_mem_take ha)
    simp [this.2]
  rw [this]; rfl
theorem rmeet_self (h : Rs B0 x ao cap R p w) : Calls Try.prog 44 #[.pointer (some ⟨x, 0, none⟩), .pointer (some ⟨x, 0, none⟩)] w fun e w' => e = .returned (.bool (B.chg p (B.laid bAnd R p p) (nw R))) ∧ Rs B0 x ao cap R (B.laid bAnd R p p) w' ∧ Turn (Rrow ao) w w' := by
  have := rmeet_some p x (fun _ => True) h trivial (fun wx wy _ _ => trivial) (fun wx wy _ _ => trivial) (fun k wx hk ho _ => by
    rw [keep_all] at ho
    have := rhas_any (((lp p R).getD k 0 : Nat) : Int) ho
    rw [show hasB p (((lp p R).getD k 0 : Nat) : Int) = p ((lp p R).getD k 0) by simp [hasB]] at this
    exact this)
  exact this.mono fun e w' ⟨a, b, _, d⟩ => ⟨a, b, d⟩
end
end Go.Proofs.Ytifbppjmdjdjbaa
