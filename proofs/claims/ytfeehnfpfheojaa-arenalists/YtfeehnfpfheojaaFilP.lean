import Derived.Test.YtfeehnfpfheojaaMade
import Derived.LoopTactic
set_option linter.unusedVariables false
set_option linter.unusedSimpArgs false
namespace Go.Proofs.Ytfeehnfpfheojaa
open Go.RowKit
namespace M
theorem msr' {k n : Nat} (h : k < n) (i : Int) (e : i = (k : Int) + 1) : n - (intOf (.int .i64 i)).toNat < n - (intOf (.int .i64 (k : Int))).toNat := by
  rw [e]
  show n - ((k : Int) + 1).toNat < n - (k : Int).toNat
  omega
/-- does a piece lie within? -/
def Wi (ws : List Int) (a n : Int) : Prop := 0 ≤ a ∧ 0 ≤ n ∧ a ≤ (ws.length : Int) - n
instance (ws : List Int) (a n : Int) : Decidable (Wi ws a n) := by unfold Wi; infer_instance
def pe (ws : List Int) (a n : Int) : Int := if Wi ws a n then 0 else 140
def fil (ws : List Int) (a : Nat) (c : Int) : Nat → List Int
  | 0 => ws
  | k + 1 => (fil ws a c k).set (a + k) c
def pfill (ws : List Int) (a n c : Int) : List Int := if Wi ws a n then fil ws a.toNat c n.toNat else ws
theorem fil_len (ws : List Int) (a : Nat) (c : Int) : ∀ k, (fil ws a c k).length = ws.length := by
  intro k
  induction k with
  | zero => rfl
  | succ k ih => simp [fil, ih]
theorem fil_at (ws : List Int) (a : Nat) (c : Int) : ∀ k j, a + k ≤ ws.length → (fil ws a c k).getD j 0 = if a ≤ j ∧ j < a + k then c else ws.getD j 0 := by
  intro k
  induction k with
  | zero => intro j _; rw [if_neg (by omega)]; rfl
  | succ k ih =>
    intro j hl
    show ((fil ws a c k).set (a + k) c).getD j 0 = _
    by_cases hj : j = a + k
    · subst hj
      rw [if_pos (by omega)]
      simp [List.getD, fil_len, show a + k < ws.length by omega]
    · have := ih j (by omega)
      rw [show ((fil ws a c k).set (a + k) c).getD j 0 = (fil ws a c k).getD j 0 by simp [List.getD, List.getElem?_set, show ¬ a + k = j by omega], this]
      by_cases q : a ≤ j ∧ j < a + k
      · rw [if_pos q, if_pos (by omega)]
      · rw [if_neg q, if_neg (by omega)]
end M
end Go.Proofs.Ytfeehnfpfheojaa
