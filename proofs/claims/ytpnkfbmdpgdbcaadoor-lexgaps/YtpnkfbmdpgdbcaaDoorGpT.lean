import Derived.Test.YtpnkfbmdpgdbcaaDoorGpS
import Derived.Test.YtpnkfbmdpgdbcaaDoorQtQ
set_option linter.unusedVariables false
set_option linter.unusedSimpArgs false
namespace Go.Proofs.YtpnkfbmdpgdbcaaDoor
open Go.RowKit
namespace L
/-- behind a character's first byte stand great ones -/
theorem wd_cont (s : ByteArray) (p j : Nat) (h1 : 0 < j) (h2 : j < wd s p) : 128 ≤ bt s (p + j) := by
  rw [wd_eq] at h2
  rcases Lib.decodeN_shape (s.size - p) (bt s p) (bt s (p + 1)) (bt s (p + 2)) (bt s (p + 3)) with ⟨c, e⟩ | ⟨a1, a2, a3, av, e⟩ | ⟨a1, a2, a3, a4, av, as_, e⟩ | ⟨a1, a2, a3, a4, a5, av, as_, e⟩ | e
  · rw [e] at h2; simp only at h2; omega
  · rw [e] at h2; simp only at h2
    obtain rfl : j = 1 := by omega
    omega
  · rw [e] at h2; simp only at h2
    rcases (show j = 1 ∨ j = 2 by omega) with rfl | rfl <;> omega
  · rw [e] at h2; simp only at h2
    rcases (show j = 1 ∨ j = 2 ∨ j = 3 by omega) with rfl | rfl | rfl <;> omega
  · rw [e] at h2; simp only at h2; omega
/-- what ends a gap -/
def Stops (s : ByteArray) (p : Nat) : Prop := p = s.size ∨ (p < s.size ∧ bt s p < 128 ∧ isBlank (bt s p : Int) = false ∧ bt s p ≠ 35)
/-- what a piece is followed by -/
def Gapped (s : ByteArray) (p : Nat) : Prop := p < s.size ∧ (bt s p = 32 ∨ bt s p = 9 ∨ bt s p = 10 ∨ bt s p = 35)
/-- bytes that stand there -/
def Here (s : ByteArray) (p : Nat) (X : List UInt8) : Prop := p + X.length ≤ s.size ∧ ∀ j, j < X.length → bt s (p + j) = (X.getD j 0).toNat
theorem Here.size {s : ByteArray} {p : Nat} {X : List UInt8} (h : Here s p X) : p + X.length ≤ s.size := h.1
end L
section
variable {T : Tx} {s : ByteArray}
theorem at_end (G : L.Good s T.C T.N 0 (1, 1)) {k : Nat} (hk : k ≤ T.N) (ha : (T.g k).a = s.size) : k = T.N := by
  rcases Nat.lt_or_ge k T.N with h | h
  · have := (G.char k h).2.2.2
    have e : (L.g T.C k).a = s.size := ha
    omega
  · omega
theorem stops_r (G : L.Good s T.C T.N 0 (1, 1)) {k p : Nat} (hk : k ≤ T.N) (ha : (T.g k).a = p) (h : L.Stops s p) : L.isBlank (T.g k).r = false ∧ (T.g k).r ≠ 35 := by
  rcases h with h | ⟨h1, h2, h3, h4⟩
  · obtain rfl := at_end G hk (ha.trans h)
    have : (T.g T.N).r = -1 := G.last.1
    rw [this]
    exact ⟨rfl, by decide⟩
  · obtain ⟨c1, c2, c3⟩ := at_char G hk ha h1
    rw [c2, (L.rn_lt s p h2).1]
    exact ⟨h3, by omega⟩
/-- up to a line's end -/
theorem line_to (G : L.Good s T.C T.N 0 (1, 1)) {q : Nat} (hq : q < s.size) (h10 : L.bt s q = 10) : ∀ n k p, q - p ≤ n → k ≤ T.N → (T.g k).a = p → p ≤ q → (∀ j, p ≤ j → j < q → L.bt s j ≠ 10) → ∀ f, T.N ≤ k + f → ∃ k', k ≤ k' ∧ k' < T.N ∧ (T.g k').a = q ∧ L.skp T.C L.inLine f k = k' := by
  have here : ∀ k p f, k ≤ T.N → (T.g k).a = p → p = q → ∃ k', k ≤ k' ∧ k' < T.N ∧ (T.g k').a = q ∧ L.skp T.C L.inLine f k = k' := by
    intro k p f hk ha e
    subst e
    obtain ⟨c1, c2, c3⟩ := at_char G hk ha hq
    refine ⟨k, Nat.le_refl _, c1, ha, L.skp_no _ _ _ _ ?_⟩
    have : (L.g T.C k).r = 10 := by
      have := (L.rn_ten s p).2 h10
      rw [← this]; exact c2
    rw [this]; rfl
  intro n
  induction n with
  | zero => intro k p h1 hk ha h2 h3 f hf; exact here k p f hk ha (by omega)
  | succ n ih =>
    intro k p h1 hk ha h2 h3 f hf
    by_cases e : p = q
    · exact here k p f hk ha e
    · obtain ⟨c1, c2, c3⟩ := at_char G hk ha (by omega)
      have hw := L.wd_pos s p
      have hle : p + L.wd s p ≤ q := by
        rcases Nat.lt_or_ge q (p + L.wd s p) with y | y
        · have := L.wd_cont s p (q - p) (by omega) (by omega)
          rw [show p + (q - p) = q by omega] at this
          omega
        · exact y
      have hin : L.inLine (L.g T.C k).r = true := by
        have e1 : (L.g T.C k).r = L.rn s p := c2
        have n10 : L.rn s p ≠ 10 := fun y => h3 p (Nat.le_refl _) (by omega) ((L.rn_ten s p).1 y)
        have b := (L.rn_bd s p).1
        rw [e1]
        unfold L.inLine
        simp only [Bool.and_eq_true, bne_iff_ne, ne_eq]
        exact ⟨n10, by omega⟩
      obtain ⟨f, rfl⟩ : ∃ g, f = g + 1 := ⟨f - 1, by omega⟩
      rw [L.skp_yes _ _ _ _ hin]
      obtain ⟨k', g1, g2, g3, g4⟩ := ih (k + 1) (p + L.wd s p) (by omega) (by omega) c3 hle (fun j a b => h3 j (by omega) b) f (by omega)
      exact ⟨k', by omega, g2, g3, g4⟩
/-- a gap is passed -/
theorem gap_on (G : L.Good s T.C T.N 0 (1, 1)) {k p : Nat} {m : Int} {nt : ByteArray} (hk : k ≤ T.N) (ha : (T.g k).a = p) (hX : L.Here s p (L.gpL m nt)) (he : L.Stops s (p + (L.gpL m nt).length)) :
    ∃ k', k ≤ k' ∧ k' ≤ T.N ∧ (T.g k').a = p + (L.gpL m nt).length ∧ T.gap k = k' := by
  obtain ⟨hp, hb⟩ := hX
  have plain : ∀ X : List UInt8, p + X.length ≤ s.size → (∀ j, j < X.length → L.bt s (p + j) = (X.getD j 0).toNat) → L.Stops s (p + X.length) → (∀ j, j < X.length → L.isBlank ((X.getD j 0).toNat : Int) = true ∧ (X.getD j 0).toNat < 128) → ∃ k', k ≤ k' ∧ k' ≤ T.N ∧ (T.g k').a = p + X.length ∧ T.gap k = k' := by
    intro X hp hb he hx
    obtain ⟨q1, q2, q3⟩ := run_asc G hk ha X.length hp (fun j hj => by rw [hb j hj]; exact (hx j hj).2)
    obtain ⟨z1, z2⟩ := stops_r G q1 q2 he
    refine ⟨k + X.length, by omega, q1, q2, ?_⟩
    have e : T.skp L.isBlank k = k + X.length := by
      unfold Tx.skp
      refine L.skp_run _ _ k X.length (fun j hj => ?_) z1 T.N (by omega)
      have := q3 j hj
      unfold Tx.g at this
      rw [this, hb j hj]
      exact (hx j hj).1
    unfold Tx.gap
    rw [e]
    exact gapL_no _ _ _ _ z2
  by_cases h0 : m = 0
  · have e : L.gpL m nt = [9] := by unfold L.gpL; rw [if_pos h0]
    rw [e] at hp hb he ⊢
    exact plain _ hp hb he (fun j hj => by have : j = 0 := by simpa using hj
                                           subst this; decide)
  by_cases h1 : m = 1
  · have e : L.gpL m nt = [10] := by unfold L.gpL; rw [if_neg h0, if_pos h1]
    rw [e] at hp hb he ⊢
    exact plain _ hp hb he (fun j hj => by have : j = 0 := by simpa using hj
                                           subst this; decide)
  by_cases h2 : m = 2
  · have e : L.gpL m nt = 35 :: (L.ntL nt.data.toList ++ [10]) := by unfold L.gpL; rw [if_neg h0, if_neg h1, if_pos h2]
    rw [e] at hp hb he ⊢
    obtain ⟨N, hN⟩ : ∃ N, N = L.ntL nt.data.toList := ⟨_, rfl⟩
    rw [← hN] at hp hb he ⊢
    have hlen : (35 :: (N ++ [10]) : List UInt8).length = N.length + 2 := by simp
    rw [hlen] at hp hb he ⊢
    have b0 : L.bt s p = 35 := by have := hb 0 (by omega); rw [Nat.add_zero] at this; rw [this]; rfl
    have bq : L.bt s (p + (N.length + 1)) = 10 := by
      have := hb (N.length + 1) (by omega)
      rw [this]
      simp [List.getD_eq_getElem?_getD]
    have bn : ∀ j, p ≤ j → j < p + (N.length + 1) → L.bt s j ≠ 10 := by
      intro j h1 h2
      by_cases y : j = p
      · subst y; omega
      · obtain ⟨t, rfl⟩ : ∃ t, j = p + (t + 1) := ⟨j - p - 1, by omega⟩
        have ht : t < N.length := by omega
        rw [hb (t + 1) (by omega)]
        have e1 : (35 :: (N ++ [10]) : List UInt8).getD (t + 1) 0 = N[t] := by simp [List.getD_eq_getElem?_getD, List.getElem?_append_left ht, ht]
        rw [e1]
        have hm : N[t] ∈ L.ntL nt.data.toList := by rw [← hN]; exact List.getElem_mem ht
        unfold L.ntL at hm
        have := (List.mem_filter.1 hm).2
        intro y2
        have : N[t] ≠ 10 := by simpa using this
        exact this (UInt8.toNat_inj.1 y2)
    obtain ⟨c1, c2, c3⟩ := at_char G hk ha (by omega)
    have r35 : (T.g k).r = 35 := by rw [c2, (L.rn_lt s p (by omega)).1, b0]; rfl
    obtain ⟨k1, g1, g2, g3, g4⟩ := line_to G (q := p + (N.length + 1)) (by omega) bq (p + (N.length + 1) - p) k p (by omega) hk ha (by omega) bn T.N (by omega)
    obtain ⟨d1, d2, d3⟩ := at_char G (Nat.le_of_lt g2) g3 (by omega)
    have r10 : (T.g k1).r = 10 := by rw [d2, (L.rn_lt s _ (by omega)).1, bq]; rfl
    have w1 : L.wd s (p + (N.length + 1)) = 1 := (L.rn_lt s _ (by omega)).2
    rw [w1, show p + (N.length + 1) + 1 = p + (N.length + 2) by omega] at d3
    obtain ⟨z1, z2⟩ := stops_r G (k := k1 + 1) (by omega) d3 he
    refine ⟨k1 + 1, by omega, by omega, d3, ?_⟩
    have e0 : T.skp L.isBlank k = k := by unfold Tx.skp; exact L.skp_no _ _ _ _ (by have : (L.g T.C k).r = 35 := r35; rw [this]; rfl)
    unfold Tx.gap
    rw [e0, L.gapL, if_pos (show (L.g T.C k).r = 35 from r35), g4]
    have e1 : L.skp T.C L.isBlank T.N k1 = k1 + 1 := by
      refine L.skp_run _ _ k1 1 (fun j hj => ?_) z1 T.N (by omega)
      obtain rfl : j = 0 := by omega
      have : (L.g T.C k1).r = 10 := r10
      rw [Nat.add_zero, this]; rfl
    rw [e1]
    exact gapL_no _ _ _ _ z2
  by_cases h3 : m = 3
  · have e : L.gpL m nt = [32, 13, 10, 32, 32] := by unfold L.gpL; rw [if_neg h0, if_neg h1, if_neg h2, if_pos h3]
    rw [e] at hp hb he ⊢
    exact plain _ hp hb he (fun j hj => by have : j < 5 := by simpa using hj
                                           rcases (show j = 0 ∨ j = 1 ∨ j = 2 ∨ j = 3 ∨ j = 4 by omega) with rfl | rfl | rfl | rfl | rfl <;> decide)
  · have e : L.gpL m nt = [32] := by unfold L.gpL; rw [if_neg h0, if_neg h1, if_neg h2, if_neg h3]
    rw [e] at hp hb he ⊢
    exact plain _ hp hb he (fun j hj => by have : j = 0 := by simpa using hj
                                           subst this; decide)
end
end Go.Proofs.YtpnkfbmdpgdbcaaDoor
