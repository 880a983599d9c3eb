import Derived.Test.YtbbopkhgmgdlfaaCxt
set_option linter.unusedVariables false
set_option linter.unusedSimpArgs false
namespace Go.Proofs.Ytbbopkhgmgdlfaa
open Go.RowKit
namespace M
theorem wi_in' (ws : List Int) (a m : Nat) (n : Int) (hn : n = (m : Int)) (h : a + m ≤ ws.length) : pe ws a n = 0 ∧ ∀ c, pfill ws a n c = fil ws a c m := by
  subst hn
  obtain ⟨h1, _, h2⟩ := wi_in ws a m h
  exact ⟨h1, h2⟩
theorem poi_at (ws : List Int) (a m i : Nat) (z : Int) (hz : z = (i : Int)) (h : a + m ≤ ws.length) (h1 : a ≤ i) (h2 : i < a + m) :
    er (fil ws a P m) z = 141 ∧ std (fil ws a P m) z = P ∧ (∀ v, put (fil ws a P m) z v = fil ws a P m) ∧ (∀ u, won (fil ws a P m) z u = false) ∧ (∀ u v, swp (fil ws a P m) z u v = fil ws a P m) ∧ bd (fil ws a P m) z = 1 := by
  subst hz
  have hv : (fil ws a P m).getD i 0 = P := by rw [fil_at ws a P m i h, if_pos ⟨h1, h2⟩]
  obtain ⟨e1, e2⟩ := er_poi (ws := fil ws a P m) (k := i) (by rw [fil_len]; omega) hv
  have hw : ∀ u, won (fil ws a P m) i u = false := fun u => by unfold won; rw [e1]; rfl
  exact ⟨e1, e2, fun v => put_no (by rw [e1]; decide), hw, fun u v => if_neg (by rw [hw]; decide), bd_no (by rw [e1]; decide)⟩
theorem clr_at (ws : List Int) (a m i : Nat) (z : Int) (hz : z = (i : Int)) (h : a + m ≤ ws.length) (h1 : a ≤ i) (h2 : i < a + m) :
    er (fil ws a 0 m) z = 0 ∧ std (fil ws a 0 m) z = 0 := by
  subst hz
  have hv : (fil ws a 0 m).getD i 0 = 0 := by rw [fil_at ws a 0 m i h, if_pos ⟨h1, h2⟩]
  obtain ⟨e1, e2⟩ := er_ok (ws := fil ws a 0 m) (k := i) (by rw [fil_len]; omega) (by rw [hv]; decide)
  exact ⟨e1, by rw [e2, hv]⟩
end M
end Go.Proofs.Ytbbopkhgmgdlfaa
