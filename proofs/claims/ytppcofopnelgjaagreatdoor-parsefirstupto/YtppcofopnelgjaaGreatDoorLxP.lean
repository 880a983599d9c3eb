import Derived.Test.YtppcofopnelgjaaGreatDoorChr
import GoSem.Core.Value
set_option linter.unusedVariables false
set_option linter.unusedSimpArgs false
namespace Go.Proofs.YtppcofopnelgjaaGreatDoor
namespace L
/-- a character of a text: its bytes, its number, its place, its first byte's number; the last one stands for the text's end -/
structure Cx where
  S : ByteArray
  r : Int
  l : Int
  c : Int
  a : Nat
def cxs (s : ByteArray) : Nat → Nat → Int × Int → List Cx
  | 0, p, n => [⟨ByteArray.empty, -1, n.1, n.2, p⟩]
  | f + 1, p, n => if p < s.size then ⟨s.extract p (p + wd s p), rn s p, n.1, n.2, p⟩ :: cxs s f (p + wd s p) (nxt n (rn s p)) else [⟨ByteArray.empty, -1, n.1, n.2, p⟩]
/-- a text's characters -/
def cx (s : ByteArray) : List Cx := cxs s s.size 0 (1, 1)
def zc : Cx := ⟨ByteArray.empty, -1, 0, 0, 0⟩
def g (C : List Cx) (i : Nat) : Cx := C.getD i zc

theorem cxs_end (s : ByteArray) (f p : Nat) (n : Int × Int) (h : ¬ p < s.size) : cxs s f p n = [⟨ByteArray.empty, -1, n.1, n.2, p⟩] := by
  cases f with
  | zero => rfl
  | succ f => simp [cxs, h]
theorem cxs_on (s : ByteArray) (f p : Nat) (n : Int × Int) (hf : s.size ≤ p + f) (h : p < s.size) :
    ∃ g, cxs s f p n = ⟨s.extract p (p + wd s p), rn s p, n.1, n.2, p⟩ :: cxs s g (p + wd s p) (nxt n (rn s p)) ∧ s.size ≤ p + wd s p + g := by
  cases f with
  | zero => omega
  | succ f =>
    have := wd_pos s p
    exact ⟨f, by simp [cxs, h], by omega⟩
/-- WHAT A LIST OF CHARACTERS IS, from a byte on -/
structure Good (s : ByteArray) (C : List Cx) (N p : Nat) (n : Int × Int) : Prop where
  len : C.length = N + 1
  zero : (g C 0).a = p ∧ (g C 0).l = n.1 ∧ (g C 0).c = n.2
  last : (g C N).r = -1 ∧ (g C N).a = s.size ∧ (g C N).S = ByteArray.empty
  char : ∀ j, j < N → 0 ≤ (g C j).r ∧ (g C j).r ≤ 1114111 ∧ (g C j).r = rn s (g C j).a ∧ (g C j).a < s.size
  step : ∀ j, j < N → (g C (j + 1)).a = (g C j).a + wd s (g C j).a ∧ (g C (j + 1)).a ≤ s.size ∧ (g C j).S = s.extract (g C j).a (g C (j + 1)).a ∧ ((g C (j + 1)).l, (g C (j + 1)).c) = nxt ((g C j).l, (g C j).c) (g C j).r
  bd : ∀ j, j ≤ N → 0 ≤ (g C j).l ∧ (g C j).l ≤ n.1 + (j : Int) ∧ 0 ≤ (g C j).c ∧ (g C j).c ≤ (n.2 + (j : Int)) + 1
  few : N ≤ s.size - p
theorem good_cxs (s : ByteArray) (f p : Nat) (n : Int × Int) (hf : s.size ≤ p + f) (hp : p ≤ s.size) (h1 : 0 ≤ n.1) (h2 : 0 ≤ n.2) : ∃ N, Good s (cxs s f p n) N p n := by
  induction f generalizing p n with
  | zero =>
    have : p = s.size := by omega
    refine ⟨0, rfl, ⟨rfl, rfl, rfl⟩, ⟨rfl, this, rfl⟩, fun j h => by omega, fun j h => by omega, fun j h => ?_, by omega⟩
    obtain rfl : j = 0 := by omega
    simp [cxs, g]; omega
  | succ f ih =>
    by_cases h : p < s.size
    · have w1 := wd_pos s p
      have w2 := wd_in s p h
      have nb : 0 ≤ (nxt n (rn s p)).1 ∧ 0 ≤ (nxt n (rn s p)).2 ∧ (nxt n (rn s p)).1 ≤ n.1 + 1 ∧ (nxt n (rn s p)).2 ≤ n.2 + 1 + (if n.2 = 0 then 0 else 0) := by
        unfold nxt; split <;> simp <;> omega
      obtain ⟨N, G⟩ := ih (p + wd s p) (nxt n (rn s p)) (by omega) w2 nb.1 nb.2.1
      have hc : cxs s (f + 1) p n = ⟨s.extract p (p + wd s p), rn s p, n.1, n.2, p⟩ :: cxs s f (p + wd s p) (nxt n (rn s p)) := by simp [cxs, h]
      rw [hc]
      generalize cxs s f (p + wd s p) (nxt n (rn s p)) = D at *
      have hg : ∀ j, g (⟨s.extract p (p + wd s p), rn s p, n.1, n.2, p⟩ :: D) (j + 1) = g D j := fun j => by simp [g]
      have hg0 : g (⟨s.extract p (p + wd s p), rn s p, n.1, n.2, p⟩ :: D) 0 = ⟨s.extract p (p + wd s p), rn s p, n.1, n.2, p⟩ := rfl
      have hb := rn_bd s p
      refine ⟨N + 1, by simp [G.len], ⟨rfl, rfl, rfl⟩, by rw [hg]; exact G.last, ?_, ?_, ?_, by have := G.few; omega⟩
      · intro j hj
        cases j with
        | zero => rw [hg0]; exact ⟨hb.1, hb.2, rfl, h⟩
        | succ j => rw [hg]; exact G.char j (by omega)
      · intro j hj
        cases j with
        | zero =>
          rw [hg, hg0]
          have z := G.zero
          refine ⟨z.1, by rw [z.1]; exact w2, by rw [z.1], ?_⟩
          rw [z.2.1, z.2.2]
        | succ j => rw [hg, hg]; exact G.step j (by omega)
      · intro j hj
        cases j with
        | zero => rw [hg0]; simp; omega
        | succ j =>
          rw [hg]
          have := G.bd j (by omega)
          have q1 := nb.2.2.1
          have q2 := nb.2.2.2
          simp at q2
          refine ⟨this.1, ?_, this.2.2.1, ?_⟩
          · have := this.2.1; push_cast; omega
          · have := this.2.2.2; push_cast; omega
    · have : p = s.size := by omega
      rw [cxs_end s _ p n h]
      refine ⟨0, rfl, ⟨rfl, rfl, rfl⟩, ⟨rfl, this, rfl⟩, fun j h => by omega, fun j h => by omega, fun j h => ?_, by omega⟩
      obtain rfl : j = 0 := by omega
      simp [g]; omega
theorem good_cx (s : ByteArray) : ∃ N, Good s (cx s) N 0 (1, 1) := good_cxs s s.size 0 (1, 1) (by omega) (by omega) (by simp) (by simp)

/-! the classes -/
def isBlank (r : Int) : Bool := r == 32 || (r == 9 || (r == 13 || r == 10))
def isLetter (r : Int) : Bool := (decide (97 ≤ r) && decide (r ≤ 122)) || ((decide (65 ≤ r) && decide (r ≤ 90)) || r == 95)
def isDigit (r : Int) : Bool := decide (48 ≤ r) && decide (r ≤ 57)
def isHex (r : Int) : Bool := isDigit r || ((decide (97 ≤ r) && decide (r ≤ 102)) || (decide (65 ≤ r) && decide (r ≤ 70)))
def isSign (r : Int) : Bool := r == 44 || (r == 58 || (r == 59 || r == 42))
def inWord (r : Int) : Bool := isLetter r || (isDigit r || r == 45)
def inRun (r : Int) : Bool := inWord r || r == 46
def inLine (r : Int) : Bool := r != 10 && r != -1

/-- the first place from one on at which no character of a class stands -/
def skp (C : List Cx) (p : Int → Bool) : Nat → Nat → Nat
  | 0, i => i
  | f + 1, i => if p (g C i).r then skp C p f (i + 1) else i
theorem skp_no (C : List Cx) (p : Int → Bool) (f i : Nat) (h : p (g C i).r = false) : skp C p f i = i := by
  cases f with
  | zero => rfl
  | succ f => simp [skp, h]
theorem skp_yes (C : List Cx) (p : Int → Bool) (f i : Nat) (h : p (g C i).r = true) : skp C p (f + 1) i = skp C p f (i + 1) := by simp [skp, h]
theorem skp_le (C : List Cx) (p : Int → Bool) (N f i : Nat) (hi : i ≤ N) (hN : p (g C N).r = false) : i ≤ skp C p f i ∧ skp C p f i ≤ N := by
  induction f generalizing i with
  | zero => exact ⟨Nat.le_refl _, hi⟩
  | succ f ih =>
    unfold skp
    split
    · rename_i h
      have hne : i ≠ N := fun e => by rw [e, hN] at h; cases h
      have := ih (i + 1) (by omega)
      omega
    · exact ⟨Nat.le_refl _, hi⟩
/-- with fuel enough more fuel changes nothing -/
theorem skp_more (C : List Cx) (p : Int → Bool) (N f k i : Nat) (hi : i ≤ N) (hN : p (g C N).r = false) (hf : N ≤ i + f) (hk : N ≤ i + k) : skp C p f i = skp C p k i := by
  induction f generalizing i k with
  | zero =>
    have : i = N := by omega
    subst this
    rw [skp_no C p k i hN]; rfl
  | succ f ih =>
    by_cases h : p (g C i).r = true
    · have hne : i ≠ N := fun e => by rw [e, hN] at h; cases h
      cases k with
      | zero => omega
      | succ k =>
        rw [skp_yes C p f i h, skp_yes C p k i h]
        exact ih k (i + 1) (by omega) (by omega) (by omega)
    · have h' : p (g C i).r = false := by simpa using h
      rw [skp_no C p _ i h', skp_no C p _ i h']
end L
end Go.Proofs.YtppcofopnelgjaaGreatDoor
