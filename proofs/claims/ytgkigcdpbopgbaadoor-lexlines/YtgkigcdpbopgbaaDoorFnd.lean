import Derived.Test.YtgkigcdpbopgbaaDoorChr
set_option linter.unusedVariables false
set_option linter.unusedSimpArgs false
namespace Go.Proofs.YtgkigcdpbopgbaaDoor
namespace L
/-- the line's ends among the bytes from one up to another -/
def cnt (s : ByteArray) (p : Nat) : Nat → Nat
  | 0 => 0
  | k + 1 => cnt s p k + (if bt s (p + k) = 10 then 1 else 0)
theorem cnt_add (s : ByteArray) (p a : Nat) : ∀ b, cnt s p (a + b) = cnt s p a + cnt s (p + a) b := by
  intro b
  induction b with
  | zero => simp [cnt]
  | succ b ih => rw [← Nat.add_assoc, cnt, ih, cnt, Nat.add_assoc p a b]; omega
theorem wd_high (s : ByteArray) (p k : Nat) (h2 : 2 ≤ wd s p) (hk : k < wd s p) : 128 ≤ bt s (p + k) := by
  rw [wd_eq] at h2 hk
  have h0 := bt_lt s p
  have h1 := bt_lt s (p + 1)
  have h2' := bt_lt s (p + 2)
  have h3 := bt_lt s (p + 3)
  have hb : (k = 0 ∧ bt s (p + k) = bt s p) ∨ (k = 1 ∧ bt s (p + k) = bt s (p + 1)) ∨ (k = 2 ∧ bt s (p + k) = bt s (p + 2)) ∨ (k = 3 ∧ bt s (p + k) = bt s (p + 3)) ∨ 4 ≤ k := by
    by_cases e0 : k = 0
    · left; subst e0; exact ⟨rfl, rfl⟩
    by_cases e1 : k = 1
    · right; left; subst e1; exact ⟨rfl, rfl⟩
    by_cases e2 : k = 2
    · right; right; left; subst e2; exact ⟨rfl, rfl⟩
    by_cases e3 : k = 3
    · right; right; right; left; subst e3; exact ⟨rfl, rfl⟩
    · right; right; right; right; omega
  generalize bt s (p + k) = bk at *
  generalize bt s p = b0 at *
  generalize bt s (p + 1) = b1 at *
  generalize bt s (p + 2) = b2 at *
  generalize bt s (p + 3) = b3 at *
  unfold Lib.decodeN at h2 hk
  repeat' split at h2
  all_goals simp_all
  all_goals omega
theorem cnt_high (s : ByteArray) (p : Nat) (h2 : 2 ≤ wd s p) : ∀ k, k ≤ wd s p → cnt s p k = 0 := by
  intro k
  induction k with
  | zero => intro _; rfl
  | succ k ih =>
    intro hk
    have := wd_high s p k h2 (by omega)
    rw [cnt, ih (by omega), if_neg (by omega)]
theorem cnt_char (s : ByteArray) (p : Nat) : cnt s p (wd s p) = if rn s p = 10 then 1 else 0 := by
  have hp := wd_pos s p
  by_cases h2 : 2 ≤ wd s p
  · rw [cnt_high s p h2 _ (Nat.le_refl _)]
    have := wd_high s p 0 h2 (by omega)
    rw [if_neg (fun e => by have := (rn_ten s p).1 e; simp at *; omega)]
  · have h1 : wd s p = 1 := by omega
    rw [h1]
    simp [cnt, rn_ten]
theorem find_line (s : ByteArray) (a : Nat) (ha : a ≤ s.size) : ∀ f p n, s.size ≤ p + f → p ≤ a → (find s a f p n).1 = n.1 + (cnt s p (a - p) : Int) := by
  intro f
  induction f with
  | zero => intro p n hf hp; rw [show a - p = 0 by omega]; simp [find, cnt]
  | succ f ih =>
    intro p n hf hp
    unfold find
    have hw := wd_pos s p
    split
    · rename_i hps
      split
      · rename_i hlt
        by_cases e : a = p
        · rw [e, Nat.sub_self]; simp [cnt]
        · rw [cnt_high s p (by omega) (a - p) (by omega)]; simp
      · rename_i hge
        rw [ih (p + wd s p) _ (by omega) (by omega)]
        have : a - p = wd s p + (a - (p + wd s p)) := by omega
        rw [this, cnt_add, cnt_char]
        unfold nxt
        split
        · simp only; omega
        · simp
    · rw [show a - p = 0 by omega]; simp [cnt]
theorem nxt_col (n : Int × Int) (r : Int) (h : 1 ≤ n.2) : 1 ≤ (nxt n r).2 := by
  unfold nxt; split <;> simp; omega
theorem find_col (s : ByteArray) (a : Nat) : ∀ f p n, 1 ≤ n.2 → 1 ≤ (find s a f p n).2 := by
  intro f
  induction f with
  | zero => intro p n h; exact h
  | succ f ih =>
    intro p n h
    unfold find
    split
    · split
      · exact h
      · exact ih _ _ (nxt_col n _ h)
    · exact h
theorem find_self (s : ByteArray) (f p : Nat) (n : Int × Int) : find s p f p n = n := by
  cases f with
  | zero => rfl
  | succ f =>
    unfold find
    have := wd_pos s p
    split
    · rw [if_pos (by omega)]
    · rfl
theorem find_nl (s : ByteArray) (a : Nat) (ha : a ≤ s.size) (h10 : bt s (a - 1) = 10) : ∀ f p n, s.size ≤ p + f → p < a → (find s a f p n).2 = 1 := by
  intro f
  induction f with
  | zero => intro p n hf hp; omega
  | succ f ih =>
    intro p n hf hp
    unfold find
    have hw := wd_pos s p
    rw [if_pos (by omega)]
    by_cases hlt : a < p + wd s p
    · exfalso
      have := wd_high s p (a - 1 - p) (by omega) (by omega)
      rw [show p + (a - 1 - p) = a - 1 by omega] at this
      omega
    · rw [if_neg hlt]
      by_cases e : a = p + wd s p
      · have hw1 : wd s p = 1 := by
          by_cases h2 : 2 ≤ wd s p
          · have := wd_high s p (wd s p - 1) h2 (by omega)
            rw [show p + (wd s p - 1) = a - 1 by omega] at this
            omega
          · omega
        have hr : rn s p = 10 := (rn_ten s p).2 (by rw [show a - 1 = p by omega] at h10; exact h10)
        rw [e, find_self]
        simp [nxt, hr]
      · exact ih _ _ (by omega) (by omega)
theorem find_step (s : ByteArray) (a : Nat) (ha : a ≤ s.size) (h1 : 1 ≤ a) (h10 : bt s (a - 1) ≠ 10) : ∀ f p n, s.size ≤ p + f → p ≤ a - 1 → (find s a f p n).2 = (find s (a - 1) f p n).2 ∨ (find s a f p n).2 = (find s (a - 1) f p n).2 + 1 := by
  intro f
  induction f with
  | zero => intro p n hf hp; omega
  | succ f ih =>
    intro p n hf hp
    have hw := wd_pos s p
    unfold find
    have hps : p < s.size := by omega
    simp only [hps, if_true]
    by_cases hlt : a - 1 < p + wd s p
    · rw [if_pos hlt]
      by_cases hl2 : a < p + wd s p
      · rw [if_pos hl2]; exact Or.inl rfl
      · rw [if_neg hl2]
        have e : a = p + wd s p := by omega
        have hr : ¬ rn s p = 10 := fun hr => by
          have hb := (rn_ten s p).1 hr
          by_cases h2 : 2 ≤ wd s p
          · have := wd_high s p 0 h2 (by omega)
            simp at this; omega
          · exact h10 (by rw [show a - 1 = p by omega]; exact hb)
        right
        rw [e, find_self]
        simp [nxt, hr]
    · have hl3 : ¬ a < p + wd s p := by omega
      rw [if_neg hlt, if_neg hl3]
      exact ih _ _ (by omega) (by omega)
end L
end Go.Proofs.YtgkigcdpbopgbaaDoor
