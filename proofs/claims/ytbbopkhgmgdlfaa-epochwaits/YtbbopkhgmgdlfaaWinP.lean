import Derived.Test.YtbbopkhgmgdlfaaSumP
import Derived.Test.YtbbopkhgmgdlfaaWds
import Derived.Test.YtbbopkhgmgdlfaaTrc
set_option linter.unusedVariables false
set_option linter.unusedSimpArgs false
namespace Go.Proofs.Ytbbopkhgmgdlfaa
open Go.RowKit
namespace M
theorem set_getD (r : List Int) (k : Nat) (u : Int) (hk : k < r.length) : (r.set k u).getD k 0 = u := by simp [List.getD, hk]
theorem std_at (ws : List Int) (k : Nat) (hk : k < ws.length) : std ws k = ws.getD k 0 := by
  unfold std
  rw [if_pos (by omega), Int.toNat_natCast]
theorem win_std (r : List Int) (k : Nat) (u : Int) (hk : k < r.length) : std (r.set k u) k = u := by
  rw [std_at _ _ (by simpa using hk), set_getD r k u hk]
theorem win_yes (r : List Int) (k : Nat) (u z : Int) (hk : k < r.length) (hu : u ≠ P) : won (r.set k u) k u = true ∧ swp (r.set k u) k u z = r.set k z := by
  obtain ⟨e1, e2⟩ := er_ok (ws := r.set k u) (k := k) (by simpa using hk) (by rw [set_getD r k u hk]; exact hu)
  have hw : won (r.set k u) k u = true := by unfold won; rw [win_std r k u hk]; simp [e1]
  refine ⟨hw, ?_⟩
  unfold swp
  rw [if_pos hw, Int.toNat_natCast, List.set_set]
theorem win_no (r : List Int) (k : Nat) (u o z : Int) (hk : k < r.length) (hu : u ≠ o ∨ u = P) : won (r.set k u) k o = false ∧ swp (r.set k u) k o z = r.set k u := by
  have hw : won (r.set k u) k o = false := by
    unfold won
    rw [win_std r k u hk]
    rcases hu with h | h
    · simp [h]
    · obtain ⟨e1, _⟩ := er_poi (ws := r.set k u) (k := k) (by simpa using hk) (by rw [set_getD r k u hk]; exact h)
      simp [e1]
  exact ⟨hw, if_neg (by rw [hw]; decide)⟩
theorem piece_one (r : List Int) (k : Nat) (u : Int) (hk : k < r.length) : piece (r.set k u) k 1 = [u] ∧ pe (r.set k u) k 1 = 0 := by
  have hw : Wi (r.set k u) k 1 := by unfold Wi; simp; omega
  refine ⟨?_, if_pos hw⟩
  unfold piece
  rw [if_pos hw, Int.toNat_natCast]
  apply List.ext_getElem?
  intro i
  cases i with
  | zero => simp [hk]
  | succ i => simp; omega
theorem row_ints {w : World} {B n rc : Nat} {ro : Option Addr} {zs : List Int} (h : w.ownsRow B 3 1 (.slice ro n rc) n (ivs zs)) (hn : zs.length = n) (h0 : 0 < n) : ∃ g, ro = some ⟨g, 0, none⟩ ∧ B ≤ g ∧ g < w.heap.size ∧ n ≤ rc ∧ ∀ j, j < n → w.cell? ⟨g, j, none⟩ = some (.int .i64 (zs.getD j 0)) := by
  obtain ⟨g, cap', hv, hb, hl⟩ := h.form h0
  simp only [Value.slice.injEq] at hv
  obtain ⟨rfl, _, rfl⟩ := hv
  refine ⟨g, rfl, hb, hl, ?_, fun j hj => ?_⟩
  · rcases h.2 with ⟨hv, _⟩ | ⟨g', cap', cur, hv, _, _, hc, _⟩
    · cases hv
    · simp only [Value.slice.injEq] at hv; omega
  have := row_cell h j (.int .i64 (zs.getD j 0)) (by simp [ivs, List.getD, show j < zs.length by omega])
  rw [show (⟨g, 0, none⟩ : Addr).add j = ⟨g, j, none⟩ by unfold Addr.add; split <;> simp_all] at this
  exact this
end M
end Go.Proofs.Ytbbopkhgmgdlfaa
