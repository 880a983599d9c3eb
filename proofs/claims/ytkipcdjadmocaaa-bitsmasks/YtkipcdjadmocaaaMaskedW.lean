import Derived.Test.YtkipcdjadmocaaaLentW
set_option linter.unusedVariables false
set_option linter.unusedSimpArgs false
namespace Go.Proofs.Ytkipcdjadmocaaa
open Go.RowKit
/-- what is written over a number -/
def tz (z : Int) : Int := IntKind.i64.wrap (15 - z)
def zf (f : Nat → Int) (n : Nat) : List Value := (List.range n).map fun j => Value.int .i64 (f j)
theorem zf_at (f : Nat → Int) (n j : Nat) (h : j < n) : (zf f n)[j]? = some (.int .i64 (f j)) := by simp [zf, h]
theorem zf_congr (f g : Nat → Int) (n : Nat) (h : ∀ j, j < n → f j = g j) : zf f n = zf g n := by
  unfold zf
  apply List.map_congr_left
  intro j hj
  rw [h j (List.mem_range.1 hj)]
theorem zf_set (f g : Nat → Int) (n i : Nat) (hi : i < n) (h : ∀ j, j ≠ i → g j = f j) : (zf f n).set i (.int .i64 (g i)) = zf g n := by
  apply List.ext_getElem?
  intro j
  rw [List.getElem?_set]
  by_cases hji : i = j
  · subst hji; rw [zf_at g n i hi]; simp [zf, hi]
  · by_cases hjn : j < n
    · rw [zf_at g n j hjn, zf_at f n j hjn, h j (fun q => hji q.symm)]; simp [hji]
    · simp [zf, hjn, hji]
theorem zs_zf (l : List Int) : zs l = zf (fun j => l.getD j 0) l.length := by
  apply List.ext_getElem?
  intro j
  by_cases h : j < l.length
  · rw [zf_at _ _ _ h]; simp [zs, List.getD, List.getElem?_eq_getElem h]
  · simp [zs, zf, h]
def mixf (ns : List Int) (k : Nat) : Nat → Int := fun j => if j < k then tz (ns.getD j 0) else (ns ++ marks 64).getD j 0
theorem mix_start (ns : List Int) : zs (ns ++ marks 64) = zf (mixf ns 0) (ns.length + 64) := by
  rw [zs_zf, List.length_append, marks_len]
  exact zf_congr _ _ _ fun j _ => by simp [mixf]
theorem mix_end (ns : List Int) : zf (mixf ns ns.length) (ns.length + 64) = zs (ns.map tz ++ marks 64) := by
  rw [zs_zf, List.length_append, marks_len, List.length_map]
  refine zf_congr _ _ _ fun j _ => ?_
  unfold mixf
  by_cases h : j < ns.length
  · rw [if_pos h]; simp [List.getD, List.getElem?_append_left, h]
  · rw [if_neg h]; simp [List.getD, List.getElem?_append_right, Nat.le_of_not_lt h]
theorem mix_step (ns : List Int) (k : Nat) (h : k < ns.length) : (zf (mixf ns k) (ns.length + 64)).set k (.int .i64 (tz (ns.getD k 0))) = zf (mixf ns (k + 1)) (ns.length + 64) := by
  have e : tz (ns.getD k 0) = mixf ns (k + 1) k := by unfold mixf; rw [if_pos (by omega)]
  rw [e]
  refine zf_set _ _ _ _ (by omega) fun j hj => ?_
  unfold mixf
  by_cases h3 : j < k
  · rw [if_pos h3, if_pos (by omega)]
  · rw [if_neg h3, if_neg (by omega)]
theorem tz_step (ns : List Int) (k : Nat) (h : k < ns.length) : zs ((ns.map tz).take (k + 1)) = zs ((ns.map tz).take k) ++ [.int .i64 (tz (ns.getD k 0))] := by
  have hk : k < (ns.map tz).length := by simpa using h
  rw [List.take_succ_eq_append_getElem hk]
  simp [zs, List.getD, List.getElem?_eq_getElem h]
/-- a row's first part -/
theorem ints_front {w : World} {a : Option Addr} {len m cap : Nat} {ns ms : List Int} (h : IsInts w a (len + m) cap (ns ++ ms)) (hn : ns.length = len) : IsInts w a len cap ns := by
  obtain ⟨h1, h2, h3, h4⟩ := h
  refine ⟨by omega, h2, hn, ?_⟩
  by_cases h0 : len = 0
  · exact .inl h0
  · rcases h4 with q | ⟨b, off, ha, hb, hc⟩
    · omega
    · refine .inr ⟨b, off, ha, hb, fun j hj => ?_⟩
      rw [hc j (by omega)]
      simp [List.getD, List.getElem?_append_left (show j < ns.length by omega)]
theorem row_some {B n rc : Nat} {ro : Option Addr} {e : TypeId} {xs : List Value} {w : World} (h : w.ownsRow B e 1 (.slice ro n rc) n xs) (hn : 0 < n) : ∃ g, ro = some ⟨g, 0, none⟩ ∧ B ≤ g ∧ g < w.heap.size ∧ ∀ j, w.frozen? ⟨g, j, none⟩ = false := by
  rcases h.2 with ⟨hv, h0⟩ | ⟨g, cap', cur, hv, hb, hg, h1, h2, h3, h4⟩
  · omega
  · simp only [Value.slice.injEq] at hv
    obtain ⟨rfl, _, rfl⟩ := hv
    exact ⟨g, rfl, hb, (Array.getElem?_eq_some_iff.1 hg).1, fun j => Lib.frozen_of_heap hg j⟩
end Go.Proofs.Ytkipcdjadmocaaa
