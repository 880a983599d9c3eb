import Derived.Test.YtaoglenfbbaliaaFiP
import Derived.Test.YtaoglenfbbaliaaMuP
import Derived.Test.YtaoglenfbbaliaaApW
import Derived.Deep.Slices
set_option linter.unusedVariables false
set_option linter.unusedSimpArgs false
namespace Go.Proofs.Ytaoglenfbbaliaa
open Go.RowKit
namespace X
open C F A
def nth (us : List Rw) (i : Nat) : Rw := (us[i]?).getD ⟨none, 0, 0⟩
theorem nth_of {us : List Rw} {i : Nat} (h : i < us.length) : us[i]? = some (nth us i) := by simp [nth, List.getElem?_eq_getElem h]
theorem sl_row {B n cap : Nat} {ao : Option Addr} {us : List Rw} {w : World} (hn : n = us.length) (h : w.ownsRow B 23 1 (.slice ao n cap) n (us.map Rw.v)) : Sl w ao n (fun i => (nth us i).v) := by
  rcases h.2 with ⟨_, hz⟩ | ⟨g, cap', cur, hv, hb, hg, _⟩
  · exact .inl hz
  · simp only [Value.slice.injEq] at hv
    obtain ⟨rfl, _, _⟩ := hv
    refine .inr ⟨g, 0, cur, _, rfl, hg, fun j hj => ?_⟩
    rw [Nat.zero_add, h.cellAt j (by omega), List.getElem?_map, nth_of (by omega)]
    rfl
theorem app_at {us ts : List Rw} {i : Nat} {r : Rw} (h : (us ++ ts)[i]? = some r) : (i < us.length ∧ us[i]? = some r) ∨ (us.length ≤ i ∧ ts[i - us.length]? = some r) := by
  by_cases hi : i < us.length
  · rw [List.getElem?_append_left hi] at h
    exact .inl ⟨hi, h⟩
  · rw [List.getElem?_append_right (by omega)] at h
    exact .inr ⟨by omega, h⟩
variable {w X : World} {zs : List Int} {vs gs gs2 : List Rw} {oo go2 : Option Addr} {oc gc2 b5 b12 b13 N : Nat} {lo : Option Addr} {lc : Nat} {mo : Option Addr} {mc : Nat}
/-- which list stands at a place -/
def ix (W i : Nat) : Nat := if i < W then i else i - W
theorem Fi.got (h : Fi w zs vs gs gs2 oo go2 oc gc2 b5 b12 b13 N N N lo lc mo mc X) {i : Nat} {r : Rw} (hr : (gs ++ gs2)[i]? = some r) : ∃ l, Chn zs (ix vs.length i) l ∧ r.len = l.length ∧ Gr w.heap.size l r.ao r.cap X := by
  unfold ix
  rcases app_at hr with ⟨h1, h2⟩ | ⟨h1, h2⟩
  · rw [if_pos (by rw [← h.n1]; exact h1)]; exact h.lg i r h2
  · rw [if_neg (by rw [← h.n1]; omega), ← h.n1]; exact h.l2 _ r h2
theorem Fi.wnt (h : Fi w zs vs gs gs2 oo go2 oc gc2 b5 b12 b13 N N N lo lc mo mc X) {i : Nat} {r : Rw} (hr : (vs ++ vs.take N)[i]? = some r) : r ∈ vs ∧ ∃ l, Chn zs (ix vs.length i) l ∧ r.len = l.length ∧ Gr w.heap.size l r.ao r.cap X := by
  unfold ix
  rcases app_at hr with ⟨h1, h2⟩ | ⟨h1, h2⟩
  · rw [if_pos h1]; exact ⟨List.mem_of_getElem? h2, h.lv i r h2⟩
  · rw [if_neg (by omega)]
    have h3 : vs[i - vs.length]? = some r := by
      have hlt := (List.getElem?_eq_some_iff.1 h2).1
      rw [List.length_take] at hlt
      rw [List.getElem?_take_of_lt (by omega)] at h2
      exact h2
    exact ⟨List.mem_of_getElem? h3, h.lv _ r h3⟩
theorem Fi.apart (h : Fi w zs vs gs gs2 oo go2 oc gc2 b5 b12 b13 N N N lo lc mo mc X) (hz : sm zs ≤ 1048576) : Calls Try.prog 18 #[.slice lo (vs.length + N) lc, .slice mo (vs.length + N) mc] X fun e w' => e = .returned (.bool true) ∧ Below w.heap.size w w' ∧ (∀ (b : Nat) (d : Obj), d.isCells = false → X.heap[b]? = some d → w'.heap[b]? = some d) := by
  have hlG : (gs ++ gs2).length = vs.length + N := by rw [List.length_append, h.n1, h.n2]
  have hlV : (vs ++ vs.take N).length = vs.length + N := by rw [List.length_append, List.length_take]; have := h.n3; omega
  have htk : gs2.take N = gs2 := List.take_of_length_le (by rw [h.n2]; exact Nat.le_refl _)
  have hlr := h.lrow
  rw [htk] at hlr
  have each : ∀ i, i < vs.length + N → ∃ l, Chn zs (ix vs.length i) l := fun i hi => by
    obtain ⟨l, h1, _⟩ := h.got (nth_of (us := gs ++ gs2) (i := i) (by omega))
    exact ⟨l, h1⟩
  obtain ⟨Xc, hXc⟩ := Go.Deep.choose_lt each
  have hR : A.Rows w.heap.size (vs.length + N) (nth (gs ++ gs2)) Xc X := fun i hi => by
    obtain ⟨l, h1, h2, h3⟩ := h.got (nth_of (us := gs ++ gs2) (i := i) (by omega))
    have e := h1.uniq (hXc i hi)
    subst e
    rw [h2]
    exact h3.row
  have hD : Dj (vs.length + N) (nth (gs ++ gs2)) := fun i hi k hk j h1 h2 => by
    rcases Nat.lt_trichotomy i k with q | q | q
    · exact absurd h2 (h.dj i k _ _ (nth_of (by omega)) (nth_of (by omega)) (by omega) j h1)
    · exact q
    · exact absurd h1 (h.dj k i _ _ (nth_of (by omega)) (nth_of (by omega)) (by omega) j h2)
  refine (apart_any (B := w.heap.size) (N := vs.length + N) lo lc mo mc (nth (gs ++ gs2)) (nth (vs ++ vs.take N)) Xc X (by have := h.n3; omega) h.bel.size (sl_row hlG.symm hlr) (sl_row hlV.symm h.mrow) hR hD (fun i hi => ?_) (fun i hi => ?_)).mono fun e w' ⟨he, ht⟩ => ⟨he, h.bel.trans (ht.below (fun j hj => (hR.kind hj).1) h.bel.size), fun b d hdc hd => (ht.block b (lt_of_heap hd) (fun q => by obtain ⟨_, _, cs, q', hh⟩ := hR.kind q; rw [hd] at hh; cases hh; cases hdc)).trans hd⟩
  · obtain ⟨hm, l, h1, h2, h3⟩ := h.wnt (nth_of (us := vs ++ vs.take N) (i := i) (by omega))
    have e := h1.uniq (hXc i hi)
    subst e
    refine ⟨Ints.of_row h3.row, h2, fun _ j hj q => ?_⟩
    obtain ⟨k, hk, hj'⟩ := q
    exact h.dv _ hm _ (List.mem_of_getElem? (nth_of (us := gs ++ gs2) (i := k) (by omega))) j hj hj'
  · obtain ⟨l, h1, h2, h3⟩ := h.got (nth_of (us := gs ++ gs2) (i := i) (by omega))
    rw [h2, chn_len h1]
    omega
end X
end Go.Proofs.Ytaoglenfbbaliaa
