import Derived.Test.YtbgjggblaeadlaaWhP
set_option linter.unusedVariables false
set_option linter.unusedSimpArgs false
namespace Go.Proofs.Ytbgjggblaeadlaa
open Go.RowKit
namespace X
open C F A
/-- the product of the factorials of how often each number is there -/
def pf : List Int → Nat
  | [] => 1
  | v :: t => (t.count v + 1) * pf t
theorem pf_mid (v : Int) (R : List Int) : ∀ P : List Int, pf (P ++ v :: R) = ((P ++ R).count v + 1) * pf (P ++ R) := by
  intro P
  induction P with
  | nil => rfl
  | cons u P ih =>
    show ((P ++ v :: R).count u + 1) * pf (P ++ v :: R) = ((u :: (P ++ R)).count v + 1) * (((P ++ R).count u + 1) * pf (P ++ R))
    rw [ih]
    by_cases h : u = v
    · subst h
      have e1 : (P ++ u :: R).count u = (P ++ R).count u + 1 := by simp [List.count_append]; omega
      have e2 : (u :: (P ++ R)).count u = (P ++ R).count u + 1 := by simp
      rw [e1, e2]
    · have e1 : (P ++ v :: R).count u = (P ++ R).count u := by
        rw [List.count_append, List.count_append, List.count_cons_of_ne (fun e => h e.symm)]
      have e2 : (u :: (P ++ R)).count v = (P ++ R).count v := List.count_cons_of_ne h
      rw [e1, e2, ← Nat.mul_assoc, ← Nat.mul_assoc, Nat.mul_comm ((P ++ R).count u + 1)]
theorem below_count {u v : Int} : ∀ (L : List Int), (∀ x ∈ L, x < v ↔ x < u ∨ x = u) → L.countP (fun x => decide (x < v)) = L.countP (fun x => decide (x < u)) + L.count u := by
  intro L
  induction L with
  | nil => intro _; rfl
  | cons y L ih =>
    intro h
    have hy := h y (by simp)
    have := ih (fun x hx => h x (by simp [hx]))
    rw [List.countP_cons, List.countP_cons, List.count_cons, this]
    by_cases h1 : y < u
    · have h2 : ¬ y = u := by omega
      have h3 : y < v := hy.2 (.inl h1)
      simp [h1, h2, h3]; omega
    · by_cases h2 : y = u
      · have h3 : y < v := hy.2 (.inr h2)
        subst h2
        simp [h3]
        omega
      · have h3 : ¬ y < v := fun q => by rcases hy.1 q with q | q; exact h1 q; exact h2 q
        simp [h1, h2, h3]
theorem all_lists : ∀ (n : Nat) (s : List Int), s.length = n → s.Pairwise (· ≤ ·) → ∃ N, 0 < N ∧ N * pf s = fa n ∧ Pt (N - 1) s s.reverse ∧ ∀ l, l.Perm s → ∃ k, k < N ∧ Pt k s l := by
  intro n
  induction n with
  | zero =>
    intro s hs _
    obtain rfl : s = [] := List.length_eq_zero_iff.1 hs
    exact ⟨1, by omega, rfl, .zero _, fun l hl => by rw [List.Perm.eq_nil hl]; exact ⟨0, by omega, .zero _⟩⟩
  | succ n IH =>
    intro s hs hsr
    have key : ∀ (m : Nat) (P : List Int) (v : Int) (R : List Int), P.length = m → s = P ++ v :: R → ∃ T, Pt T s (v :: (P ++ R)) ∧ (∀ h t, (h :: t).Perm s → h < v → ∃ k, k < T ∧ Pt k s (h :: t)) ∧ T * pf s = s.countP (fun x => decide (x < v)) * fa n := by
      intro m
      induction m with
      | zero =>
        intro P v R hP e
        obtain rfl : P = [] := List.length_eq_zero_iff.1 hP
        have hall : ∀ x ∈ s, v ≤ x := by
          rw [e] at hsr ⊢
          intro x hx
          rcases List.mem_cons.1 hx with q | q
          · omega
          · exact (List.pairwise_cons.1 hsr).1 x q
        refine ⟨0, by rw [e]; exact .zero _, fun h t hp hv => ?_, ?_⟩
        · have := hall h (hp.subset (by simp)); omega
        · rw [List.countP_eq_zero.2 (fun x hx => by have := hall x hx; simp; omega)]; simp
      | succ m ih =>
        intro P v R hP e
        obtain ⟨P0, u, rfl⟩ : ∃ P0 u, P = P0 ++ [u] := ⟨P.dropLast, P.getLast (by intro q; rw [q] at hP; cases hP), (List.dropLast_concat_getLast _).symm⟩
        have hP0 : P0.length = m := by simp at hP; exact hP
        have e' : s = P0 ++ u :: (v :: R) := by rw [e]; simp
        obtain ⟨T, h1, h2, h3⟩ := ih P0 u (v :: R) hP0 e'
        have hs' := hsr
        rw [e'] at hs'
        obtain ⟨p1, p2, p3⟩ := List.pairwise_append.1 hs'
        obtain ⟨p4, p5⟩ := List.pairwise_cons.1 p2
        obtain ⟨p6, p7⟩ := List.pairwise_cons.1 p5
        have huv : u ≤ v := p4 v (by simp)
        have hg : (P0 ++ [u]) ++ R = P0 ++ u :: R := by simp
        rw [hg]
        by_cases hq : u = v
        · subst hq
          exact ⟨T, h1, h2, h3⟩
        · have hlt : u < v := by omega
          have ht : (P0 ++ v :: R).Pairwise (· ≤ ·) := List.pairwise_append.2 ⟨p1, p5, fun a ha b hb => p3 a ha b (by simp [List.mem_cons.1 hb])⟩
          have hlen : (P0 ++ v :: R).length = n := by
            have := hs; rw [e'] at this; simp at this ⊢; omega
          obtain ⟨N, hN, hc, hl, ha⟩ := IH _ hlen ht
          have hstep : Np (u :: (P0 ++ v :: R).reverse) (v :: (P0 ++ u :: R)) := by
            have q := np_head (x := u) (y := v) (E := R.reverse) (F := P0.reverse) hlt (by
              rw [show R.reverse ++ v :: P0.reverse = (P0 ++ v :: R).reverse by simp]
              exact List.pairwise_reverse.2 ht) (fun w hw => p3 w (by simpa using hw) u (by simp))
            simpa using q
          have hpt : Pt (T + N) s (v :: (P0 ++ u :: R)) := by
            have q := (h1.trans (hl.cons u)).succ hstep
            rw [show T + (N - 1) + 1 = T + N by omega] at q
            exact q
          have hin : ∀ x ∈ s, x < v ↔ x < u ∨ x = u := by
            intro x hx
            rw [e'] at hx
            refine ⟨fun q => ?_, fun q => by omega⟩
            rcases List.mem_append.1 hx with z | z
            · have := p3 x z u (by simp); omega
            · rcases List.mem_cons.1 z with z | z
              · exact .inr z
              · rcases List.mem_cons.1 z with z | z
                · omega
                · have := p6 x z; omega
          refine ⟨T + N, hpt, fun h t hp hv => ?_, ?_⟩
          · rcases (hin h (hp.subset (by simp))).1 hv with z | z
            · obtain ⟨k, hk, hh⟩ := h2 h t hp z
              exact ⟨k, by omega, hh⟩
            · subst z
              have hp' : t.Perm (P0 ++ v :: R) := by
                rw [e'] at hp
                exact (List.perm_cons h).1 (hp.trans List.perm_middle)
              obtain ⟨k, hk, hh⟩ := ha t hp'
              exact ⟨T + k, by omega, h1.trans (hh.cons h)⟩
          · have c1 := below_count s hin
            have c2 : pf s = ((P0 ++ v :: R).count u + 1) * pf (P0 ++ v :: R) := by rw [e']; exact pf_mid u (v :: R) P0
            have c3 : s.count u = (P0 ++ v :: R).count u + 1 := by rw [e']; simp [List.count_append]; omega
            rw [c1, c3, Nat.add_mul, Nat.add_mul, h3, ← hc, c2]
            congr 1
            rw [Nat.mul_left_comm]
    obtain ⟨P, v, e⟩ : ∃ P v, s = P ++ [v] := ⟨s.dropLast, s.getLast (by intro q; rw [q] at hs; cases hs), (List.dropLast_concat_getLast _).symm⟩
    obtain ⟨T, h1, h2, h3⟩ := key P.length P v [] rfl e
    rw [List.append_nil] at h1
    have hs' := hsr
    rw [e] at hs'
    obtain ⟨p1, p2, p3⟩ := List.pairwise_append.1 hs'
    have hlen : P.length = n := by rw [e] at hs; simp at hs; exact hs
    obtain ⟨N, hN, hc, hl, ha⟩ := IH P hlen p1
    have hle : ∀ x ∈ s, x ≤ v := by
      intro x hx
      rw [e] at hx
      rcases List.mem_append.1 hx with z | z
      · exact p3 x z v (by simp)
      · simp at z; omega
    refine ⟨T + N, by omega, ?_, ?_, fun l hp => ?_⟩
    · have c2 : pf s = (P.count v + 1) * pf P := by rw [e]; have := pf_mid v [] P; rw [List.append_nil] at this; exact this
      have c3 : s.countP (fun x => decide (x < v)) + (P.count v + 1) = n + 1 := by
        have q := below_count (u := v) (v := v + 1) s (fun x hx => by have := hle x hx; omega)
        rw [List.countP_eq_length.2 (fun x hx => by have := hle x hx; simp; omega), hs] at q
        have q2 : s.count v = P.count v + 1 := by rw [e]; simp [List.count_append]
        omega
      rw [Nat.add_mul, h3, c2, show N * ((P.count v + 1) * pf P) = (P.count v + 1) * fa n by rw [← hc, Nat.mul_left_comm], ← Nat.add_mul, c3]
      rfl
    · have q := h1.trans (hl.cons v)
      rw [show T + (N - 1) = T + N - 1 by omega] at q
      rw [e]
      rw [e] at q
      simpa using q
    · cases l with
      | nil => have := hp.length_eq; rw [hs] at this; cases this
      | cons h t =>
        have hh := hle h (hp.subset (by simp))
        by_cases hv : h < v
        · obtain ⟨k, hk, q⟩ := h2 h t hp hv
          exact ⟨k, by omega, q⟩
        · obtain rfl : h = v := by omega
          have hp' : t.Perm P := by
            rw [e] at hp
            have := (List.perm_cons h).1 (hp.trans List.perm_middle)
            rwa [List.append_nil] at this
          obtain ⟨k, hk, q⟩ := ha t hp'
          exact ⟨T + k, by omega, h1.trans (q.cons h)⟩
end X
end Go.Proofs.Ytbgjggblaeadlaa
