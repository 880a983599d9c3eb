import Derived.Test.YtbgjggblaeadlaaBas
set_option linter.unusedVariables false
set_option linter.unusedSimpArgs false
namespace Go.Proofs.Ytbgjggblaeadlaa
namespace F
/-- a task's end -/
def ef (n : Nat) (e : Int) : Int := if e < 0 ∨ (n : Int) ≤ e then (n : Int) - 1 else e
theorem ef_le (n : Nat) (e : Int) : ef n e ≤ (n : Int) - 1 := by unfold ef; split <;> omega
theorem ef_lo (n : Nat) (e : Int) : -1 ≤ ef n e := by unfold ef; split <;> omega
/-- is the task picked within a row? -/
def Rw (ps : List Int) (t : Nat) (f : Nat) (W : Int) : Prop := ∃ m : Nat, f ≤ m ∧ (m : Int) < f + W ∧ ps[m]? = some (t : Int)
/-- 16.6 -/
def Fr (ps es : List Int) (W : Int) : Prop := 1 ≤ W ∧ ∀ k, k < es.length → ∀ f : Nat, (f : Int) + W ≤ ef ps.length (es.getD k 0) + 1 → Rw ps k f W
/-- what the last picks say, up to a moment -/
def Lo (ps es : List Int) (W : Int) (now : Nat) (l : Int) (k : Nat) : Prop :=
  -1 ≤ l ∧ l < now ∧ l ≤ ef ps.length (es.getD k 0) ∧ (0 ≤ l → ps[l.toNat]? = some (k : Int)) ∧ (∀ m : Nat, l < m → m < now → (m : Int) ≤ ef ps.length (es.getD k 0) → ps[m]? ≠ some (k : Int)) ∧ (∀ f : Nat, (f : Int) + W ≤ l + 1 → Rw ps k f W)
def Lq (ps es : List Int) (W : Int) (now : Nat) (last : List Int) : Prop := last.length = es.length ∧ ∀ k, k < es.length → Lo ps es W now (last.getD k 0) k
variable {ps es last : List Int} {W : Int} {now : Nat}
theorem lq_start (hW : 1 ≤ W) : Lq ps es W 0 (List.replicate es.length (-1)) := by
  refine ⟨by simp, fun k hk => ?_⟩
  have e : (List.replicate es.length (-1 : Int)).getD k 0 = -1 := by simp [List.getD, List.getElem?_replicate, hk]
  rw [e]
  exact ⟨by omega, by omega, ef_lo _ _, fun h => by omega, fun m h1 h2 => by omega, fun f hf => by omega⟩
theorem lq_skip (h : Lq ps es W now last) {t : Int} (hp : ps[now]? = some t) (hn : ∀ k : Nat, t = k → k < es.length → ef ps.length (es.getD k 0) < now) : Lq ps es W (now + 1) last := by
  refine ⟨h.1, fun k hk => ?_⟩
  obtain ⟨h1, h2, h3, h4, h5, h6⟩ := h.2 k hk
  refine ⟨h1, by omega, h3, h4, fun m m1 m2 m3 => ?_, h6⟩
  by_cases hm : m = now
  · subst hm
    intro q
    rw [hp] at q
    have := hn k (by simpa using q) hk
    omega
  · exact h5 m m1 (by omega) m3
theorem lq_gap (h : Lq ps es W now last) (hW : 1 ≤ W) {k : Nat} (hk : k < es.length) {top : Int} (hg : last.getD k 0 + W ≤ top) (ht : top ≤ ef ps.length (es.getD k 0)) (hn : top < now) : ¬ Fr ps es W := by
  rintro ⟨_, hF⟩
  obtain ⟨h1, h2, h3, h4, h5, h6⟩ := h.2 k hk
  generalize last.getD k 0 = l at *
  obtain ⟨m, m1, m2, m3⟩ := hF k hk (l + 1).toNat (by omega)
  exact h5 m (by omega) (by omega) (by omega) m3
theorem row_in {l top : Int} {k : Nat} (hl : -1 ≤ l) (h4 : 0 ≤ l → ps[l.toNat]? = some (k : Int)) (h6 : ∀ f : Nat, (f : Int) + W ≤ l + 1 → Rw ps k f W) {f : Nat} (hf : (f : Int) ≤ l) : Rw ps k f W ∨ (f : Int) + W > l + 1 ∧ (0 < W → Rw ps k f W) := by
  by_cases q : (f : Int) + W ≤ l + 1
  · exact .inl (h6 f q)
  · exact .inr ⟨by omega, fun _ => ⟨l.toNat, by omega, by omega, h4 (by omega)⟩⟩
theorem lq_ok (h : Lq ps es W now last) (hW : 1 ≤ W) {k : Nat} (hk : k < es.length) (hp : ps[now]? = some (k : Int)) (he : (now : Int) ≤ ef ps.length (es.getD k 0)) (hg : ¬ W ≤ (now : Int) - last.getD k 0 - 1) : Lq ps es W (now + 1) (last.set k now) := by
  refine ⟨by rw [List.length_set]; exact h.1, fun j hj => ?_⟩
  obtain ⟨h1, h2, h3, h4, h5, h6⟩ := h.2 j hj
  by_cases hjk : j = k
  · subst hjk
    have e : (last.set j (now : Int)).getD j 0 = now := by simp [List.getD, h.1, hk]
    rw [e]
    refine ⟨by omega, by omega, he, fun _ => by simpa using hp, fun m m1 m2 => by omega, fun f hf => ?_⟩
    by_cases hfl : (f : Int) ≤ last.getD j 0
    · rcases row_in (W := W) (top := 0) h1 h4 h6 hfl with q | ⟨_, q⟩
      · exact q
      · exact q (by omega)
    · exact ⟨now, by omega, by omega, hp⟩
  · have e : (last.set k (now : Int)).getD j 0 = last.getD j 0 := by simp [List.getD, List.getElem?_set, show ¬ k = j from fun q => hjk q.symm]
    rw [e]
    refine ⟨h1, by omega, h3, h4, fun m m1 m2 m3 => ?_, h6⟩
    by_cases hm : m = now
    · subst hm
      rw [hp]
      intro q
      simp at q
      omega
    · exact h5 m m1 (by omega) m3
theorem lq_end (h : Lq ps es W ps.length last) (hW : 1 ≤ W) (hall : ∀ k, k < es.length → ¬ W ≤ ef ps.length (es.getD k 0) - last.getD k 0) : Fr ps es W := by
  refine ⟨hW, fun k hk f hf => ?_⟩
  obtain ⟨h1, h2, h3, h4, h5, h6⟩ := h.2 k hk
  have := hall k hk
  by_cases hfl : (f : Int) ≤ last.getD k 0
  · rcases row_in (W := W) (top := 0) h1 h4 h6 hfl with q | ⟨_, q⟩
    · exact q
    · exact q (by omega)
  · omega
noncomputable def fr (ps es : List Int) (W : Int) : Bool := @decide (Fr ps es W) (Classical.propDecidable _)
theorem fr_true (h : Fr ps es W) : fr ps es W = true := by unfold fr; exact @decide_eq_true _ (Classical.propDecidable _) h
theorem fr_false (h : ¬ Fr ps es W) : fr ps es W = false := by unfold fr; exact @decide_eq_false _ (Classical.propDecidable _) h
theorem fr_iff : fr ps es W = true ↔ Fr ps es W := by unfold fr; exact @decide_eq_true_iff _ (Classical.propDecidable _)
end F
end Go.Proofs.Ytbgjggblaeadlaa
