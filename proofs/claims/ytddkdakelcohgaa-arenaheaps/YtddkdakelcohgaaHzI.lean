import Derived.Test.YtddkdakelcohgaaHyI
set_option linter.unusedVariables false
set_option linter.unusedSimpArgs false
namespace Go.Proofs.Ytddkdakelcohgaa
open Go.RowKit Go.Sort
namespace HI
open Hp
variable {nf : Nat} {cb : Array Value} {lt : Int → Int → Bool}
variable {B h : Nat} {fv : Value} {zs : List (Int × Nat)} {cnt : Nat} {w w' : World} {D : Nat → Prop}
theorem Ho.kind (H : Ho D B h fv zs cnt w) {j : Nat} (hj : D j) : ∃ c t, w.heap[j]? = some (.cells c t (0, 0)) ∧ (t = 117 ∨ t = 155) := by
  obtain ⟨ao, cap, hm, hd⟩ := H
  rcases (hd j).1 hj with rfl | ⟨a, rfl, rfl⟩
  · exact ⟨_, _, hm.hh, .inl rfl⟩
  · rcases hm.row.2 with ⟨hv, _⟩ | ⟨g', cap', cur, hv, hb, hg', _⟩
    · cases hv
    · simp only [Value.slice.injEq, Option.some.injEq] at hv
      obtain ⟨rfl, _, _⟩ := hv
      exact ⟨_, _, hg', .inr rfl⟩
theorem Ho.not (H : Ho D B h fv zs cnt w) {b : Nat} {c : Array Value} {t : TypeId} {r : Nat × Nat} (hb : w.heap[b]? = some (.cells c t r)) (h1 : t ≠ 117) (h2 : t ≠ 155) : ¬ D b := by
  intro q
  obtain ⟨c', t', e, ht⟩ := H.kind q
  rw [hb] at e
  cases e
  rcases ht with rfl | rfl
  · exact h1 rfl
  · exact h2 rfl
theorem To.below {zs' : List (Int × Nat)} {cnt' B0 : Nat} {w0 : World} (H : Ho D B h fv zs cnt w) (T : To D B h fv zs' cnt' w w') (b : Below B0 w0 w) (hB : B0 ≤ B) : Below B0 w0 w' := by
  obtain ⟨D', _, t, _⟩ := T
  exact b.trans (t.below (fun j q => Nat.le_trans hB (H.lo q).1) (Nat.le_trans hB H.base))
/-- the least of all -/
theorem least {L : List (Int × Nat)} {z : Int × Nat} (S : SWO lt) (hp : zs.Perm L) (hh : Heap (ahd lt) zs) (hz : zs[0]? = some z) : z ∈ L ∧ ∀ y ∈ L, ahd lt y z = false := by
  refine ⟨hp.mem_iff.1 (List.mem_of_getElem? hz), fun y hy => ?_⟩
  obtain ⟨i, hi⟩ := List.mem_iff_getElem?.1 (hp.mem_iff.2 hy)
  exact hh.root (swo_ahd S) i y z hi hz
end HI
end Go.Proofs.Ytddkdakelcohgaa
