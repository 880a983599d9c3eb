import Derived.Test.YtnpbbejclkphgaaChr
import GoSem.Core.Value
set_option linter.unusedVariables false
set_option linter.unusedSimpArgs false
namespace Go.Proofs.Ytnpbbejclkphgaa
namespace L
/-- a character of a text: its bytes, its place, its first byte's number -/
structure Ch where
  S : ByteArray
  l : Int
  c : Int
  a : Nat
def Ch.cells (x : Ch) : List Value := [.string x.S, .int .i64 x.l, .int .i64 x.c, .int .i64 x.a]
def chs (s : ByteArray) : Nat → Nat → Int × Int → List Ch
  | 0, p, n => [⟨ByteArray.empty, n.1, n.2, p⟩]
  | f + 1, p, n => if p < s.size then ⟨s.extract p (p + wd s p), n.1, n.2, p⟩ :: chs s f (p + wd s p) (nxt n (rn s p)) else [⟨ByteArray.empty, n.1, n.2, p⟩]
def chars (s : ByteArray) : List Ch := chs s s.size 0 (1, 1)
theorem chs_end (s : ByteArray) (f p : Nat) (n : Int × Int) (h : ¬ p < s.size) : chs s f p n = [⟨ByteArray.empty, n.1, n.2, p⟩] := by
  cases f with
  | zero => rfl
  | succ f => simp [chs, h]
theorem chs_on (s : ByteArray) (f p : Nat) (n : Int × Int) (hf : s.size ≤ p + f) (h : p < s.size) :
    ∃ g, chs s f p n = ⟨s.extract p (p + wd s p), n.1, n.2, p⟩ :: chs s g (p + wd s p) (nxt n (rn s p)) ∧ s.size ≤ p + wd s p + g := by
  cases f with
  | zero => omega
  | succ f =>
    have := wd_pos s p
    exact ⟨f, by simp [chs, h], by omega⟩
theorem chs_len (s : ByteArray) (f p : Nat) (n : Int × Int) (hf : s.size ≤ p + f) : (chs s f p n).length ≤ s.size - p + 1 := by
  induction f generalizing p n with
  | zero => simp [chs]
  | succ f ih =>
    unfold chs
    split
    · have := wd_pos s p
      have := ih (p + wd s p) (nxt n (rn s p)) (by omega)
      simp only [List.length_cons]; omega
    · simp
theorem flat_len (xs : List Ch) : (xs.flatMap Ch.cells).length = xs.length * 4 := by
  induction xs with
  | nil => rfl
  | cons x xs ih => rw [List.flatMap_cons, List.length_append, ih]; simp [Ch.cells]; omega
theorem flat_at (xs : List Ch) (i : Nat) (x : Ch) (h : xs[i]? = some x) :
    (xs.flatMap Ch.cells)[i * 4]? = some (.string x.S) ∧ (xs.flatMap Ch.cells)[i * 4 + 1]? = some (.int .i64 x.l) ∧ (xs.flatMap Ch.cells)[i * 4 + 2]? = some (.int .i64 x.c) ∧ (xs.flatMap Ch.cells)[i * 4 + 3]? = some (.int .i64 x.a) := by
  induction xs generalizing i with
  | nil => simp at h
  | cons y ys ih =>
    cases i with
    | zero =>
      simp only [List.getElem?_cons_zero, Option.some.injEq] at h
      subst h
      simp [Ch.cells]
    | succ i =>
      rw [List.getElem?_cons_succ] at h
      have := ih i h
      have e : ∀ k, k < 4 → ((y :: ys).flatMap Ch.cells)[(i + 1) * 4 + k]? = (ys.flatMap Ch.cells)[i * 4 + k]? := by
        intro k hk
        rw [List.flatMap_cons, List.getElem?_append_right (by simp [Ch.cells]; omega)]
        congr 1
        simp [Ch.cells]; omega
      exact ⟨(e 0 (by omega)).trans this.1, (e 1 (by omega)).trans this.2.1, (e 2 (by omega)).trans this.2.2.1, (e 3 (by omega)).trans this.2.2.2⟩
end L
end Go.Proofs.Ytnpbbejclkphgaa
