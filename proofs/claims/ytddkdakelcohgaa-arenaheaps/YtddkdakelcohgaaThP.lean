import Derived.Test.YtddkdakelcohgaaHpP
set_option linter.unusedVariables false
set_option linter.unusedSimpArgs false
namespace Go.Proofs.Ytddkdakelcohgaa
open Go.Sort
namespace Th
open Hp
variable {β : Type}
/-- by rank -/
def rlt (rk : β → Int) (x y : β) : Bool := decide (rk x < rk y)
theorem swo (rk : β → Int) : SWO (rlt rk) where
  irrefl x := by simp [rlt]
  trans x y z h1 h2 := by simp only [rlt, decide_eq_true_eq] at *; omega
  ntrans x y z h1 h2 := by simp only [rlt, decide_eq_false_iff_not] at *; omega
def pr (q : β × Nat × Int) : β × Nat := (q.1, q.2.1)
def dr (rk : β → Int) (q : β × Nat × Int) : Int × Int := (rk q.1, q.2.2)
/-- the heap's things and the document's, side by side: L has them in the order in which they came, with their turns -/
structure Cp (rk : β → Int) (zs : List (β × Nat)) (cnt : Nat) (ds : List (Int × Int)) (L : List (β × Nat × Int)) : Prop where
  perm : zs.Perm (L.map pr)
  doc : ds = L.map (dr rk)
  up : L.Pairwise (fun a b => a.2.1 < b.2.1)
  lt : ∀ q ∈ L, q.2.1 < cnt
  hp : Heap (ahd (rlt rk)) zs
/-- the place of the first of the least -/
def Fl (ds : List (Int × Int)) (k : Nat) : Prop := ∃ x : Int × Int, ds[k]? = some x ∧ (∀ (i : Nat) (y : Int × Int), ds[i]? = some y → x.1 ≤ y.1) ∧ ∀ (i : Nat) (y : Int × Int), i < k → ds[i]? = some y → x.1 < y.1
variable {rk : β → Int} {zs zs' : List (β × Nat)} {cnt : Nat} {ds : List (Int × Int)} {L : List (β × Nat × Int)}
theorem Cp.nil (rk : β → Int) : Cp rk [] 0 [] [] := ⟨.nil, rfl, .nil, (fun q h => by cases h), (fun i _ h => by simp at h)⟩
theorem Cp.len (h : Cp rk zs cnt ds L) : zs.length = L.length ∧ ds.length = L.length := by
  refine ⟨by have := h.perm.length_eq; simpa using this, by rw [h.doc]; simp⟩
theorem Cp.push (h : Cp rk zs cnt ds L) {x : β} (hp : zs'.Perm (zs ++ [(x, cnt)])) (hh : SWO (rlt rk) → Heap (ahd (rlt rk)) zs → Heap (ahd (rlt rk)) zs') (id : Int) : Cp rk zs' (cnt + 1) (ds ++ [(rk x, id)]) (L ++ [(x, cnt, id)]) := by
  refine ⟨?_, ?_, ?_, ?_, hh (swo rk) h.hp⟩
  · rw [List.map_append]
    exact hp.trans (h.perm.append_right _)
  · rw [List.map_append, h.doc]; rfl
  · rw [List.pairwise_append]
    refine ⟨h.up, by simp, fun a ha b hb => ?_⟩
    simp at hb
    subst hb
    exact h.lt a ha
  · intro q hq
    rw [List.mem_append] at hq
    rcases hq with hq | hq
    · have := h.lt q hq; omega
    · simp at hq; subst hq; simp
theorem Cp.pop (h : Cp rk zs cnt ds L) {z : β × Nat} {k : Nat} (hz : zs[0]? = some z) (hk : Fl ds k) : ∃ q, L[k]? = some q ∧ pr q = z ∧ ds[k]? = some (dr rk q) := by
  obtain ⟨x, hx, hmin, hfst⟩ := hk
  have hkl : k < L.length := by
    have := (List.getElem?_eq_some_iff.1 hx).1
    rw [h.len.2] at this
    exact this
  have hdk : ∀ i q, L[i]? = some q → ds[i]? = some (dr rk q) := fun i q hq => by rw [h.doc, List.getElem?_map, hq]; rfl
  obtain ⟨qk, hqk⟩ : ∃ q, L[k]? = some q := ⟨_, List.getElem?_eq_getElem hkl⟩
  have hxq : x = dr rk qk := by have := hdk k qk hqk; rw [hx] at this; exact Option.some.inj this
  have hzm : z ∈ L.map pr := h.perm.mem_iff.1 (List.mem_of_getElem? hz)
  obtain ⟨q', hq', hprq⟩ := List.mem_map.1 hzm
  obtain ⟨j, hj⟩ := List.getElem?_of_mem hq'
  have hroot := h.hp.root (swo_ahd (swo rk))
  have hqz : pr qk ∈ zs := h.perm.mem_iff.2 (List.mem_map.2 ⟨qk, List.mem_of_getElem? hqk, rfl⟩)
  obtain ⟨i, hi⟩ := List.getElem?_of_mem hqz
  have hn := hroot i _ _ hi hz
  have hle := hmin j _ (hdk j q' hj)
  have hn1 : ¬ rk qk.1 < rk q'.1 := fun g => by
    have := (ahd_iff (swo rk) (pr qk) z).2 (.inl (by rw [← hprq]; exact decide_eq_true g))
    rw [hn] at this
    cases this
  have hn2 : ¬ rk q'.1 < rk qk.1 → ¬ qk.2.1 < q'.2.1 := fun g1 g2 => by
    have := (ahd_iff (swo rk) (pr qk) z).2 (.inr (by rw [← hprq]; exact ⟨decide_eq_false g1, g2⟩))
    rw [hn] at this
    cases this
  rw [hxq] at hle hfst
  simp only [dr] at hle
  have ht : q'.2.1 ≤ qk.2.1 := by
    have := hn2 (by omega)
    omega
  have hjl : j < L.length := (List.getElem?_eq_some_iff.1 hj).1
  have ej : L[j] = q' := Option.some.inj (by rw [← List.getElem?_eq_getElem hjl]; exact hj)
  have ek : L[k] = qk := Option.some.inj (by rw [← List.getElem?_eq_getElem hkl]; exact hqk)
  have hjk : j = k := by
    rcases Nat.lt_trichotomy j k with g | g | g
    · have := hfst j _ g (hdk j q' hj)
      simp only [dr] at this
      omega
    · exact g
    · have := List.pairwise_iff_getElem.1 h.up k j hkl hjl g
      rw [ej, ek] at this
      omega
  rw [hjk] at hj
  exact ⟨q', hj, hprq, hdk k q' hj⟩
theorem Cp.out (h : Cp rk zs cnt ds L) {z : β × Nat} {k : Nat} {q : β × Nat × Int} (hq : L[k]? = some q) (hz : pr q = z) (hp : (z :: zs').Perm zs) (hh : SWO (rlt rk) → Heap (ahd (rlt rk)) zs → Heap (ahd (rlt rk)) zs') : Cp rk zs' cnt (ds.eraseIdx k) (L.eraseIdx k) := by
  have hkl := (List.getElem?_eq_some_iff.1 hq).1
  have ek : L[k] = q := (List.getElem?_eq_some_iff.1 hq).2
  refine ⟨?_, ?_, h.up.sublist (List.eraseIdx_sublist ..), fun q hq => h.lt q ((List.eraseIdx_sublist ..).mem hq), hh (swo rk) h.hp⟩
  · have h1 : (L.map pr).Perm (z :: (L.eraseIdx k).map pr) := by
      have e1 : L = L.take k ++ q :: L.drop (k + 1) := by
        have := List.take_append_drop k L
        rw [List.drop_eq_getElem_cons hkl, ek] at this
        exact this.symm
      have e2 : L.eraseIdx k = L.take k ++ L.drop (k + 1) := List.eraseIdx_eq_take_drop_succ L k
      rw [e2]
      have : L.Perm (q :: (L.take k ++ L.drop (k + 1))) := by
        conv => lhs; rw [e1]
        exact List.perm_middle
      have := this.map pr
      rw [List.map_cons, hz] at this
      exact this
    exact (List.perm_cons z).1 (hp.trans (h.perm.trans h1))
  · rw [h.doc]
    apply List.ext_getElem?
    intro i
    simp only [List.getElem?_map, List.getElem?_eraseIdx]
    split <;> rfl
end Th
end Go.Proofs.Ytddkdakelcohgaa
