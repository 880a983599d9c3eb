import Derived.Test.YtollaamlnddhcaaLns
set_option linter.unusedVariables false
set_option linter.unusedSimpArgs false
namespace Go.Proofs.Ytollaamlnddhcaa
open Go.RowKit Go.Maps
namespace Pl
open U
/-- the places at which a text stands in a list, counted from n on -/
def plcR : Nat → List ByteArray → ByteArray → List Int
  | _, [], _ => []
  | n, a :: al, k => (if a = k then [(n : Int)] else []) ++ plcR (n + 1) al k
theorem plcR_snoc (n : Nat) (al : List ByteArray) (a k : ByteArray) : plcR n (al ++ [a]) k = plcR n al k ++ (if a = k then [((n + al.length : Nat) : Int)] else []) := by
  induction al generalizing n with
  | nil => simp [plcR]
  | cons b al ih =>
    have e : n + 1 + al.length = n + (b :: al).length := by simp; omega
    rw [List.cons_append, plcR, plcR, ih, e, List.append_assoc]
def plc (al : List ByteArray) (k : ByteArray) : List Int := plcR 0 al k
theorem plc_yes {al : List ByteArray} {k : ByteArray} : plc (al ++ [k]) k = plc al k ++ [(al.length : Int)] := by unfold plc; rw [plcR_snoc, if_pos rfl, Nat.zero_add]
theorem plc_no {al : List ByteArray} {a k : ByteArray} (h : ¬ a = k) : plc (al ++ [a]) k = plc al k := by unfold plc; rw [plcR_snoc, if_neg h, List.append_nil]
theorem plcR_len (n : Nat) (al : List ByteArray) (k : ByteArray) : (plcR n al k).length ≤ al.length := by
  induction al generalizing n with
  | nil => simp [plcR]
  | cons b al ih => rw [plcR, List.length_append]; have := ih (n + 1); split <;> simp <;> omega
theorem plc_len (al : List ByteArray) (k : ByteArray) : (plc al k).length ≤ al.length := plcR_len 0 al k
theorem mem_plcR (n : Nat) (al : List ByteArray) (k : ByteArray) (z : Int) : z ∈ plcR n al k ↔ ∃ i, al[i]? = some k ∧ z = ((n + i : Nat) : Int) := by
  induction al generalizing n with
  | nil => simp [plcR]
  | cons b al ih =>
    rw [plcR, List.mem_append, ih]
    constructor
    · rintro (h | ⟨i, h1, h2⟩)
      · split at h
        · rename_i e; exact ⟨0, by simp [e], by simpa using h⟩
        · cases h
      · exact ⟨i + 1, by simpa using h1, by rw [h2]; congr 1; omega⟩
    · rintro ⟨i, h1, h2⟩
      cases i with
      | zero => left; simp at h1; rw [if_pos h1]; simpa using h2
      | succ i => right; exact ⟨i, by simpa using h1, by rw [h2]; congr 1; omega⟩
theorem mem_plc (al : List ByteArray) (k : ByteArray) (z : Int) : z ∈ plc al k ↔ ∃ i : Nat, al[i]? = some k ∧ z = (i : Int) := by unfold plc; rw [mem_plcR]; simp
theorem zeroI (w : World) : (zeroValue 101).run Try.prog w = .ok (.slice none 0 0) w := by kernel_rfl
/-- the block of a list -/
def Bl (f : ByteArray → Option V3) (j : Nat) : Prop := ∃ k v, f k = some v ∧ j = v.1
/-- BLOCK bm IS A MAP of texts to the places at which they stand in a list -/
structure Lm (bm B : Nat) (qs : List ByteArray) (f : ByteArray → Option V3) (w : World) : Prop where
  map : ∃ D, w.ownsMap Try.prog 9 sE bm qs.length D ∧ ∀ k, S.okk k → D.atKey (S.lit k) (.agg []) = dat (f k)
  bB : B ≤ bm
  each : ∀ k g l c, f k = some (g, l, c) → l = (plc qs k).length ∧ I.RowI B (some ⟨g, 0, none⟩) c (plc qs k) w
  non : ∀ k, f k = none → plc qs k = []
  ap : ∀ k k' v v', f k = some v → f k' = some v' → k ≠ k' → v.1 ≠ v'.1
section
variable {bm B : Nat} {qs : List ByteArray} {f : ByteArray → Option V3} {w w' : World}
theorem Lm.made (w : World) (B : Nat) (hB : B ≤ w.heap.size) : Lm w.heap.size B [] (fun _ => none) (w.alloc (.map #[] 0)) :=
  ⟨⟨.map [], World.ownsMap_made w Try.prog 9 _, fun k _ => rfl⟩, hB, (fun k g l c h => by cases h), (fun k _ => rfl), (fun k k' v v' h => by cases h)⟩
theorem Lm.row (h : Lm bm B qs f w) (k : ByteArray) : ∃ ao l c, val (f k) = .slice ao l c ∧ l = (plc qs k).length ∧ I.RowI B ao c (plc qs k) w ∧ ((ao = none ∧ l = 0 ∧ c = 0 ∧ f k = none) ∨ ∃ g, ao = some ⟨g, 0, none⟩ ∧ f k = some (g, l, c)) := by
  cases e : f k with
  | none => exact ⟨none, 0, 0, rfl, by rw [h.non k e]; rfl, by rw [h.non k e]; exact I.RowI.nil _ _, .inl ⟨rfl, rfl, rfl, rfl⟩⟩
  | some v =>
    obtain ⟨g, l, c⟩ := v
    have := h.each k g l c e
    exact ⟨some ⟨g, 0, none⟩, l, c, rfl, this.1, this.2, .inr ⟨g, rfl, rfl⟩⟩
theorem Lm.lt (h : Lm bm B qs f w) {j : Nat} (q : Bl f j) : B ≤ j ∧ j < w.heap.size := by
  obtain ⟨k, ⟨g, l, c⟩, e, e2⟩ := q
  have e3 : j = g := e2
  rw [e3]
  exact (h.each k g l c e).2.lt g ⟨_, rfl, rfl⟩
theorem Lm.ltm (h : Lm bm B qs f w) : bm < w.heap.size := by obtain ⟨D, h1, _⟩ := h.map; exact h1.lt
theorem kindI {B : Nat} {no : Option Addr} {ncap : Nat} {zs : List Int} {w : World} (h : I.RowI B no ncap zs w) {j : Nat} (q : I.At no j) : ∃ cur, w.heap[j]? = some (.cells cur 3 (0, 0)) := by
  obtain ⟨a, e, rfl⟩ := q
  rcases h.2 with ⟨hv, _⟩ | ⟨g, c, cur, hv, _, hg, _⟩
  · rw [e] at hv; cases hv
  · simp only [Value.slice.injEq] at hv; rw [hv.1] at e; cases e; exact ⟨cur, hg⟩
theorem Lm.ne (h : Lm bm B qs f w) : ¬ Bl f bm := by
  rintro ⟨k, ⟨g, l, c⟩, e, e2⟩
  obtain ⟨cur, q⟩ := kindI (h.each k g l c e).2 ⟨_, rfl, rfl⟩
  obtain ⟨D, ⟨es, cl, hb, _⟩, _⟩ := h.map
  have e3 : bm = g := e2
  rw [e3] at hb
  have q' : w.heap[g]? = some (.cells cur 3 (0, 0)) := q
  rw [q'] at hb; cases hb
theorem Lm.turn {T : Nat → Prop} (h : Lm bm B qs f w) (t : Turn T w w') (hm : ¬ T bm) (hT : ∀ j, Bl f j → ¬ T j) : Lm bm B qs f w' := by
  obtain ⟨D, h1, h2⟩ := h.map
  refine ⟨⟨D, t.map h1 hm, h2⟩, h.bB, fun k g l c e => ⟨(h.each k g l c e).1, (h.each k g l c e).2.turn t (fun j q => ?_)⟩, h.non, h.ap⟩
  obtain ⟨a, e2, rfl⟩ := q
  cases e2
  exact hT g ⟨k, _, e, rfl⟩
theorem Lm.below (h : Lm bm B qs f w) (t : Below w.heap.size w w') : Lm bm B qs f w' := h.turn (turn_below (S := fun _ => False) t) id (fun _ _ => id)
/-- 'm[k]' -/
theorem Lm.run (h : Lm bm B qs f w) {k : ByteArray} (hk : S.okk k) : (Instr.lookup 85 (.map (some bm)) (.string k) false).run Try.prog w = .ok (val (f k)) w := by
  obtain ⟨D, h1, h2⟩ := h.map
  obtain ⟨v, ps, hrun, hv⟩ := h1.lookup S.law Try.underlying85 (zeroI w) (zd := .agg []) (zp := []) rfl (S.hkey hk)
  rw [h2 k hk] at hv
  rw [hrun, sE_inv hv]
/-- a pair more: its list has grown, and is put in -/
theorem Lm.put (h : Lm bm B qs f w) {q : ByteArray} (hok : S.okk q) {ao : Option Addr} {l c g2 c2 : Nat} (hv : val (f q) = .slice ao l c) {w1 w2 : World} (hr : I.RowI B (some ⟨g2, 0, none⟩) c2 (plc qs q ++ [(qs.length : Int)]) w1) (t1 : Turn (I.At ao) w w1) (hg : ao = some ⟨g2, 0, none⟩ ∨ w.heap.size ≤ g2) {D : DataW Unit} (hD : ∀ k, S.okk k → D.atKey (S.lit k) (.agg []) = dat (f k)) (hm : IsMap D)
    (ho : w2.ownsMap Try.prog 9 sE bm (qs.length + 1) (D.put (S.lit q) (dat (some (g2, l + 1, c2))))) (t2 : Turn (fun j => j = bm) w1 w2) (hl : l = (plc qs q).length) : Lm bm B (qs ++ [q]) (fun k => if k = q then some (g2, l + 1, c2) else f k) w2 := by
  have at' : ∀ {j}, I.At ao j → ∃ v, f q = some v ∧ j = v.1 := fun {j} r => by
    obtain ⟨a, e, rfl⟩ := r
    cases e2 : f q with
    | none => rw [e2] at hv; simp [val] at hv; rw [← hv.1] at e; cases e
    | some v => rw [e2] at hv; simp [val] at hv; rw [← hv.1] at e; cases e; exact ⟨v, rfl, rfl⟩
  have g2m : g2 ≠ bm := fun e => by
    rcases hg with r | r
    · obtain ⟨v, e3, e4⟩ := at' ⟨_, r, rfl⟩
      exact h.ne ⟨q, v, e3, by rw [← e4]; exact e.symm⟩
    · have := h.ltm; omega
  refine ⟨⟨D.put (S.lit q) (dat (some (g2, l + 1, c2))), by rw [List.length_append]; exact ho, fun k hk => ?_⟩, h.bB, fun k g l' c' e => ?_, fun k e => ?_, fun k k' v v' e e' hne => ?_⟩
  · by_cases e : k = q
    · subst e; rw [atKey_put_same hm (S.isKey hok), if_pos rfl]
    · have hne : S.lit k ≠ S.lit q := fun r => e (S.inj k q hk hok r)
      rw [atKey_put_other hne, if_neg e]; exact hD k hk
  · by_cases ek : k = q
    · subst ek
      rw [if_pos rfl] at e
      cases e
      rw [plc_yes]
      exact ⟨by rw [List.length_append, hl]; rfl, hr.turn t2 (fun j r e => by obtain ⟨a, e1, rfl⟩ := r; cases e1; exact g2m e)⟩
    · rw [if_neg ek] at e
      rw [plc_no (fun r => ek r.symm)]
      have hh := h.each k g l' c' e
      refine ⟨hh.1, (hh.2.turn t1 (fun j r s => ?_)).turn t2 (fun j r s => ?_)⟩
      · obtain ⟨a, e1, rfl⟩ := r; cases e1
        obtain ⟨v, e3, e4⟩ := at' s
        exact h.ap k q _ _ e e3 ek e4
      · obtain ⟨a, e1, rfl⟩ := r; cases e1
        exact h.ne ⟨k, _, e, s.symm⟩
  · by_cases ek : k = q
    · subst ek; rw [if_pos rfl] at e; cases e
    · rw [if_neg ek] at e
      rw [plc_no (fun r => ek r.symm)]
      exact h.non k e
  · by_cases ek : k = q <;> by_cases ek' : k' = q
    · exact absurd (ek.trans ek'.symm) hne
    · rw [if_pos ek] at e; rw [if_neg ek'] at e'
      cases e
      intro r
      rcases hg with s | s
      · obtain ⟨v0, e3, e4⟩ := at' ⟨_, s, rfl⟩
        exact h.ap q k' _ _ e3 e' (fun x => ek' x.symm) (by rw [← e4]; exact r)
      · have := (h.lt ⟨k', v', e', rfl⟩).2; have r' : g2 = v'.1 := r; omega
    · rw [if_neg ek] at e; rw [if_pos ek'] at e'
      cases e'
      intro r
      rcases hg with s | s
      · obtain ⟨v0, e3, e4⟩ := at' ⟨_, s, rfl⟩
        exact h.ap k q _ _ e e3 ek (by rw [← e4]; exact r)
      · have := (h.lt ⟨k, v, e, rfl⟩).2; have r' : v.1 = g2 := r; omega
    · rw [if_neg ek] at e; rw [if_neg ek'] at e'
      exact h.ap k k' v v' e e' hne
end
end Pl
end Go.Proofs.Ytollaamlnddhcaa
