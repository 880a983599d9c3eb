import Derived.Test.YtagdgbbomohooaaGreatDoorQtP
import Derived.Test.YtagdgbbomohooaaGreatDoorVld
import Derived.Test.YtagdgbbomohooaaGreatDoorHxV
set_option linter.unusedVariables false
set_option linter.unusedSimpArgs false
namespace Go.Proofs.YtagdgbbomohooaaGreatDoor
open Go.RowKit
namespace L
/-- the first character of a text that is cut short -/
theorem trunc {s : ByteArray} {i n : Nat} (h1 : 1 ≤ n) (hn : i + n ≤ s.size) : (wd s i ≤ n → rn (s.extract i (i + n)) 0 = rn s i ∧ wd (s.extract i (i + n)) 0 = wd s i) ∧ (n < wd s i → rn (s.extract i (i + n)) 0 = 65533 ∧ wd (s.extract i (i + n)) 0 = 1) := by
  have hz := ext_size s i (i + n) hn
  have hb : ∀ j, j < n → bt (s.extract i (i + n)) (0 + j) = bt s (i + j) := fun j hj => by rw [Nat.zero_add]; exact bt_ext _ _ _ _ hn (by omega)
  have b0 := hb 0 (by omega)
  rw [Nat.add_zero, Nat.add_zero] at b0
  obtain ⟨t, ht⟩ : ∃ t, t = s.extract i (i + n) := ⟨_, rfl⟩
  rw [← ht] at hb b0 hz ⊢
  rw [rn_eq t, wd_eq t, rn_eq s, wd_eq s, show t.size - 0 = n by omega, b0]
  have g1 : 2 ≤ n → bt t (0 + 1) = bt s (i + 1) := fun h => hb 1 (by omega)
  have g2 : 3 ≤ n → bt t (0 + 2) = bt s (i + 2) := fun h => hb 2 (by omega)
  have g3 : 4 ≤ n → bt t (0 + 3) = bt s (i + 3) := fun h => hb 3 (by omega)
  have hss : n ≤ s.size - i := by omega
  generalize s.size - i = R at *
  generalize bt s i = x0 at *
  generalize bt s (i + 1) = x1 at *
  generalize bt s (i + 2) = x2 at *
  generalize bt s (i + 3) = x3 at *
  generalize bt t (0 + 1) = y1 at *
  generalize bt t (0 + 2) = y2 at *
  generalize bt t (0 + 3) = y3 at *
  clear hb b0 hz ht
  have key : Lib.decodeN n x0 y1 y2 y3 = Lib.decodeN R x0 x1 x2 x3 ∨ (n < (Lib.decodeN R x0 x1 x2 x3).2 ∧ Lib.decodeN n x0 y1 y2 y3 = (65533, 1)) := by
    rcases Lib.decodeN_shape n x0 y1 y2 y3 with ⟨c, q⟩ | ⟨a1, a2, a3, av, q⟩ | ⟨a1, a2, a3, a4, av, as_, q⟩ | ⟨a1, a2, a3, a4, a5, av, as_, q⟩ | q
    · left; rw [q, one_is c]
    · left; rw [q]
      rw [g1 (by omega)] at a3 av ⊢
      rw [two_is a1 (by omega) a3 av]
    · left; rw [q]
      rw [g1 (by omega)] at a3 av as_ ⊢
      rw [g2 (by omega)] at a4 av as_ ⊢
      rw [three_is a1 (by omega) a3 a4 av as_]
    · left; rw [q]
      rw [g1 (by omega)] at a3 av as_ ⊢
      rw [g2 (by omega)] at a4 av as_ ⊢
      rw [g3 (by omega)] at a5 av as_ ⊢
      rw [four_is a1 (by omega) a3 a4 a5 av as_]
    · rcases Lib.decodeN_shape R x0 x1 x2 x3 with ⟨c, e⟩ | ⟨a1, a2, a3, av, e⟩ | ⟨a1, a2, a3, a4, av, as_, e⟩ | ⟨a1, a2, a3, a4, a5, av, as_, e⟩ | e
      · left; rw [e, one_is c]
      · by_cases h : 2 ≤ n
        · left
          have := g1 h
          subst this
          rw [two_is a1 (by omega) a3 av, two_is a1 (by omega) a3 av]
        · right; rw [e]; exact ⟨by simp only; omega, q⟩
      · by_cases h : 3 ≤ n
        · left
          have k1 := g1 (by omega)
          have k2 := g2 (by omega)
          subst k1 k2
          rw [three_is a1 (by omega) a3 a4 av as_, three_is a1 (by omega) a3 a4 av as_]
        · right; rw [e]; exact ⟨by simp only; omega, q⟩
      · by_cases h : 4 ≤ n
        · left
          have k1 := g1 (by omega)
          have k2 := g2 (by omega)
          have k3 := g3 (by omega)
          subst k1 k2 k3
          rw [four_is a1 (by omega) a3 a4 a5 av as_, four_is a1 (by omega) a3 a4 a5 av as_]
        · right; rw [e]; exact ⟨by simp only; omega, q⟩
      · left; rw [q, e]
  rcases key with h | ⟨h1, h2⟩
  · rw [h]
    refine ⟨fun _ => ⟨rfl, rfl⟩, fun hlt => ?_⟩
    rcases Lib.decodeN_shape n x0 y1 y2 y3 with ⟨c, q⟩ | ⟨a1, a2, a3, av, q⟩ | ⟨a1, a2, a3, a4, av, as_, q⟩ | ⟨a1, a2, a3, a4, a5, av, as_, q⟩ | q
    all_goals rw [h] at q
    all_goals rw [q] at hlt ⊢
    all_goals simp only at hlt
    all_goals omega
  · rw [h2]
    exact ⟨fun h => by omega, fun _ => ⟨rfl, rfl⟩⟩
/-- U+FFFD written out -/
def fffd : ByteArray := ⟨#[239, 191, 189]⟩
theorem fffd_is {s : ByteArray} {i n : Nat} (h1 : n ≠ 1) (hn : i + n ≤ s.size) (hw : wd s i = n) (hr : rn s i = 65533) : s.extract i (i + n) = fffd := by
  rw [wd_eq] at hw
  rw [rn_eq] at hr
  have hd := N.decN_pre (s.size - i) (bt s i) (bt s (i + 1)) (bt s (i + 2)) (bt s (i + 3)) (bt_lt _ _) (bt_lt _ _) (bt_lt _ _) (bt_lt _ _) (by omega)
  have hb : 3 ≤ s.size - i ∧ bt s i = 239 ∧ bt s (i + 1) = 191 ∧ bt s (i + 2) = 189 := by
    rcases Classical.em (3 ≤ s.size - i ∧ bt s i = 239 ∧ bt s (i + 1) = 191 ∧ bt s (i + 2) = 189) with q | q
    · exact q
    · exact absurd (hd.2 q) (by omega)
  have hn3 : n = 3 := by
    rw [hb.2.1, hb.2.2.1, hb.2.2.2, three_is (by omega) (by omega) (by omega) (by omega) (by omega) (by omega)] at hw
    exact hw.symm
  subst hn3
  refine ba_eq (by rw [ext_size _ _ _ hn]; show i + 3 - i = 3; omega) (fun t ht => ?_)
  rw [ext_size _ _ _ hn] at ht
  rw [bt_ext _ _ _ _ hn ht]
  rcases (show t = 0 ∨ t = 1 ∨ t = 2 by omega) with rfl | rfl | rfl
  · exact hb.2.1
  · exact hb.2.2.1
  · exact hb.2.2.2
theorem wd_le4 (s : ByteArray) (i : Nat) : wd s i ≤ 4 := by
  rw [wd_eq]
  rcases Lib.decodeN_shape (s.size - i) (bt s i) (bt s (i + 1)) (bt s (i + 2)) (bt s (i + 3)) with ⟨c, e⟩ | ⟨a1, a2, a3, av, e⟩ | ⟨a1, a2, a3, a4, av, as_, e⟩ | ⟨a1, a2, a3, a4, a5, av, as_, e⟩ | e
  all_goals rw [e]
  all_goals simp only
  all_goals omega
end L
end Go.Proofs.YtagdgbbomohooaaGreatDoor
