import Derived.Test.YtollaamlnddhcaaRup
import Derived.Deep.RegionHeld3
set_option linter.unusedVariables false
set_option linter.unusedSimpArgs false
namespace Go.Proofs.Ytollaamlnddhcaa
open Go.RowKit Go.Maps
namespace U
abbrev K2 := ByteArray × ByteArray
/-- where a list lies: its block, its length, its room -/
abbrev V3 := Nat × Nat × Nat
def val : Option V3 → Value
  | some v => .slice (some ⟨v.1, 0, none⟩) v.2.1 v.2.2
  | none => .slice none 0 0
def dat : Option V3 → DataW Unit
  | some v => .agg [.lit (.int .i64 (v.1 : Int)), .lit (.int .i64 (v.2.1 : Int)), .lit (.int .i64 (v.2.2 : Int))]
  | none => .agg []
/-- how a slice in a map reads: by where it lies -/
def sE : Value → Option (DataW Unit × List MemPlace)
  | .slice none 0 0 => some (.agg [], [])
  | .slice (some ⟨b, 0, none⟩) l c => some (dat (some (b, l, c)), [])
  | _ => none
theorem sE_val (v : Option V3) : sE (val v) = some (dat v, []) := by cases v <;> rfl
theorem sE_inv {v : Value} {x : Option V3} {ps : List MemPlace} (h : sE v = some (dat x, ps)) : v = val x := by
  unfold sE at h
  split at h
  · cases x with
    | none => rfl
    | some x => simp [dat] at h
  · rename_i b l c
    cases x with
    | none => simp [dat] at h
    | some x =>
      obtain ⟨x1, x2, x3⟩ := x
      simp only [dat, Option.some.injEq, Prod.mk.injEq, DataW.agg.injEq, List.cons.injEq, DataW.lit.injEq, Lit.int.injEq, and_true, true_and] at h
      obtain ⟨⟨h1, h2, h3⟩, _⟩ := h
      have e1 : b = x1 := by omega
      have e2 : l = x2 := by omega
      have e3 : c = x3 := by omega
      subst e1 e2 e3
      rfl
  · cases h
theorem zeroS (w : World) : (zeroValue 22).run Try.prog w = .ok (.slice none 0 0) w := by kernel_rfl
/-- the block of a list -/
def Bl (f : ByteArray → Option V3) (j : Nat) : Prop := ∃ k v, f k = some v ∧ j = v.1
/-- BLOCK bm IS A MAP of texts to the lists of what stands behind them in pairs -/
structure Lm (bm B : Nat) (qs : List K2) (f : ByteArray → Option V3) (w : World) : Prop where
  map : ∃ D, w.ownsMap Try.prog 9 sE bm qs.length D ∧ ∀ k, S.okk k → D.atKey (S.lit k) (.agg []) = dat (f k)
  bB : B ≤ bm
  each : ∀ k g l c, f k = some (g, l, c) → l = (N.nxt qs k).length ∧ S.RowI B (some ⟨g, 0, none⟩) c (N.nxt qs k) w
  non : ∀ k, f k = none → N.nxt qs k = []
  ap : ∀ k k' v v', f k = some v → f k' = some v' → k ≠ k' → v.1 ≠ v'.1
section
variable {bm B : Nat} {qs : List K2} {f : ByteArray → Option V3} {w w' : World}
theorem Lm.made (w : World) (B : Nat) (hB : B ≤ w.heap.size) : Lm w.heap.size B [] (fun _ => none) (w.alloc (.map #[] 0)) :=
  ⟨⟨.map [], World.ownsMap_made w Try.prog 9 _, fun k _ => rfl⟩, hB, (fun k g l c h => by cases h), (fun k _ => rfl), (fun k k' v v' h => by cases h)⟩
theorem Lm.row (h : Lm bm B qs f w) (k : ByteArray) : ∃ ao l c, val (f k) = .slice ao l c ∧ l = (N.nxt qs k).length ∧ S.RowI B ao c (N.nxt qs k) w ∧ ((ao = none ∧ l = 0 ∧ c = 0 ∧ f k = none) ∨ ∃ g, ao = some ⟨g, 0, none⟩ ∧ f k = some (g, l, c)) := by
  cases e : f k with
  | none => exact ⟨none, 0, 0, rfl, by rw [h.non k e]; rfl, by rw [h.non k e]; exact S.RowI.nil _ _, .inl ⟨rfl, rfl, rfl, rfl⟩⟩
  | some v =>
    obtain ⟨g, l, c⟩ := v
    have := h.each k g l c e
    exact ⟨some ⟨g, 0, none⟩, l, c, rfl, this.1, this.2, .inr ⟨g, rfl, rfl⟩⟩
theorem Lm.lt (h : Lm bm B qs f w) {j : Nat} (q : Bl f j) : B ≤ j ∧ j < w.heap.size := by
  obtain ⟨k, ⟨g, l, c⟩, e, e2⟩ := q
  have e3 : j = g := e2
  rw [e3]
  exact (h.each k g l c e).2.lt g ⟨_, rfl, rfl⟩
theorem Lm.ltm (h : Lm bm B qs f w) : bm < w.heap.size := by obtain ⟨D, h1, _⟩ := h.map; exact h1.lt
theorem kindS {B : Nat} {no : Option Addr} {ncap : Nat} {zs : List ByteArray} {w : World} (h : S.RowI B no ncap zs w) {j : Nat} (q : S.At no j) : ∃ cur, w.heap[j]? = some (.cells cur 9 (0, 0)) := by
  obtain ⟨a, e, rfl⟩ := q
  rcases h.2 with ⟨hv, _⟩ | ⟨g, c, cur, hv, _, hg, _⟩
  · rw [e] at hv; cases hv
  · simp only [Value.slice.injEq] at hv; rw [hv.1] at e; cases e; exact ⟨cur, hg⟩
theorem Lm.ne (h : Lm bm B qs f w) : ¬ Bl f bm := by
  rintro ⟨k, ⟨g, l, c⟩, e, e2⟩
  obtain ⟨cur, q⟩ := kindS (h.each k g l c e).2 ⟨_, rfl, rfl⟩
  obtain ⟨D, ⟨es, cl, hb, _⟩, _⟩ := h.map
  have e3 : bm = g := e2
  rw [e3] at hb
  have q' : w.heap[g]? = some (.cells cur 9 (0, 0)) := q
  rw [q'] at hb; cases hb
theorem Lm.turn {T : Nat → Prop} (h : Lm bm B qs f w) (t : Turn T w w') (hm : ¬ T bm) (hT : ∀ j, Bl f j → ¬ T j) : Lm bm B qs f w' := by
  obtain ⟨D, h1, h2⟩ := h.map
  refine ⟨⟨D, t.map h1 hm, h2⟩, h.bB, fun k g l c e => ⟨(h.each k g l c e).1, (h.each k g l c e).2.turn t (fun j q => ?_)⟩, h.non, h.ap⟩
  obtain ⟨a, e2, rfl⟩ := q
  cases e2
  exact hT g ⟨k, _, e, rfl⟩
theorem Lm.below (h : Lm bm B qs f w) (t : Below w.heap.size w w') : Lm bm B qs f w' := h.turn (turn_below (S := fun _ => False) t) id (fun _ _ => id)
/-- 'm[k]' -/
theorem Lm.run (h : Lm bm B qs f w) {k : ByteArray} (hk : S.okk k) : (Instr.lookup 90 (.map (some bm)) (.string k) false).run Try.prog w = .ok (val (f k)) w := by
  obtain ⟨D, h1, h2⟩ := h.map
  obtain ⟨v, ps, hrun, hv⟩ := h1.lookup S.law Try.underlying90 (zeroS w) (zd := .agg []) (zp := []) rfl (S.hkey hk)
  rw [h2 k hk] at hv
  rw [hrun, sE_inv hv]
/-- a pair more: its list has grown, and is put in -/
theorem Lm.put (h : Lm bm B qs f w) {q : K2} (hok : S.okk q.1) {ao : Option Addr} {l c g2 c2 : Nat} (hv : val (f q.1) = .slice ao l c) {w1 w2 : World} (hr : S.RowI B (some ⟨g2, 0, none⟩) c2 (N.nxt qs q.1 ++ [q.2]) w1) (t1 : Turn (S.At ao) w w1) (hg : ao = some ⟨g2, 0, none⟩ ∨ w.heap.size ≤ g2) {D : DataW Unit} (hD : ∀ k, S.okk k → D.atKey (S.lit k) (.agg []) = dat (f k)) (hm : IsMap D)
    (ho : w2.ownsMap Try.prog 9 sE bm (qs.length + 1) (D.put (S.lit q.1) (dat (some (g2, l + 1, c2))))) (t2 : Turn (fun j => j = bm) w1 w2) (hl : l = (N.nxt qs q.1).length) : Lm bm B (qs ++ [q]) (fun k => if k = q.1 then some (g2, l + 1, c2) else f k) w2 := by
  have at' : ∀ {j}, S.At ao j → ∃ v, f q.1 = some v ∧ j = v.1 := fun {j} r => by
    obtain ⟨a, e, rfl⟩ := r
    cases e2 : f q.1 with
    | none => rw [e2] at hv; simp [val] at hv; rw [← hv.1] at e; cases e
    | some v => rw [e2] at hv; simp [val] at hv; rw [← hv.1] at e; cases e; exact ⟨v, rfl, rfl⟩
  have g2m : g2 ≠ bm := fun e => by
    rcases hg with r | r
    · obtain ⟨v, e3, e4⟩ := at' ⟨_, r, rfl⟩
      exact h.ne ⟨q.1, v, e3, by rw [← e4]; exact e.symm⟩
    · have := h.ltm; omega
  refine ⟨⟨D.put (S.lit q.1) (dat (some (g2, l + 1, c2))), by rw [List.length_append]; exact ho, fun k hk => ?_⟩, h.bB, fun k g l' c' e => ?_, fun k e => ?_, fun k k' v v' e e' hne => ?_⟩
  · by_cases e : k = q.1
    · subst e; rw [atKey_put_same hm (S.isKey hok), if_pos rfl]
    · have hne : S.lit k ≠ S.lit q.1 := fun r => e (S.inj k q.1 hk hok r)
      rw [atKey_put_other hne, if_neg e]; exact hD k hk
  · by_cases ek : k = q.1
    · subst ek
      rw [if_pos rfl] at e
      cases e
      rw [N.nxt_snoc_yes rfl]
      exact ⟨by rw [List.length_append, hl]; rfl, hr.turn t2 (fun j r e => by obtain ⟨a, e1, rfl⟩ := r; cases e1; exact g2m e)⟩
    · rw [if_neg ek] at e
      rw [N.nxt_snoc_no (fun r => ek r.symm)]
      have hh := h.each k g l' c' e
      refine ⟨hh.1, (hh.2.turn t1 (fun j r s => ?_)).turn t2 (fun j r s => ?_)⟩
      · obtain ⟨a, e1, rfl⟩ := r; cases e1
        obtain ⟨v, e3, e4⟩ := at' s
        exact h.ap k q.1 _ _ e e3 ek e4
      · obtain ⟨a, e1, rfl⟩ := r; cases e1
        exact h.ne ⟨k, _, e, s.symm⟩
  · by_cases ek : k = q.1
    · subst ek; rw [if_pos rfl] at e; cases e
    · rw [if_neg ek] at e
      rw [N.nxt_snoc_no (fun r => ek r.symm)]
      exact h.non k e
  · by_cases ek : k = q.1 <;> by_cases ek' : k' = q.1
    · exact absurd (ek.trans ek'.symm) hne
    · rw [if_pos ek] at e; rw [if_neg ek'] at e'
      cases e
      intro r
      rcases hg with s | s
      · obtain ⟨v0, e3, e4⟩ := at' ⟨_, s, rfl⟩
        exact h.ap q.1 k' _ _ e3 e' (fun x => ek' x.symm) (by rw [← e4]; exact r)
      · have := (h.lt ⟨k', v', e', rfl⟩).2; have r' : g2 = v'.1 := r; omega
    · rw [if_neg ek] at e; rw [if_pos ek'] at e'
      cases e'
      intro r
      rcases hg with s | s
      · obtain ⟨v0, e3, e4⟩ := at' ⟨_, s, rfl⟩
        exact h.ap k q.1 _ _ e e3 ek (by rw [← e4]; exact r)
      · have := (h.lt ⟨k, v, e, rfl⟩).2; have r' : v.1 = g2 := r; omega
    · rw [if_neg ek] at e; rw [if_neg ek'] at e'
      exact h.ap k k' v v' e e' hne
end
/-- 'm[k] = v' within a region that draws -/
theorem step_mapUpdate_own {H : Type} {P : Program} {w : World} {ops : Array Oper} {o : Oper} {a : Act} {K : Act → World → Prop} {Q : Exit → Act → World → Prop} {E : Prop} (hgd : o.guard = none) (m x v : Operand) (t : TypeId) (hop : o.op = Op.mapUpdate t m x v)
    (k e : TypeId) (Kd : Keyed P k) (ht : P.underlying t = some (.map k e)) (R : Value → Option (DataW H × List MemPlace)) (b n : Nat) (D : DataW H)
    (hm : a.eval m = .map (some b)) (hown : w.ownsMap P k R b n D) (hn : n < maxLen) (key val : Value) (kl : Lit) (hx : a.eval x = key) (hv : a.eval v = val) (hkey : keyOf P k key = some kl)
    (d : DataW H) (ps : List MemPlace) (hval : R val = some (d, ps))
    (hK : ∀ w', w'.ownsMap P k R b (n + 1) (D.put kl d) → w.grownBy w' (some b) → K (a.put o.dst undef) w') :
    if Region.wanted o (yielded ops a.tmps) = true then Oper.wp P o a w K Q else E := by
  have hw : Region.wanted o (yielded ops a.tmps) = true := by simp [Region.wanted, hgd]
  rw [if_pos hw]
  obtain ⟨w', hrun, r1, r2⟩ := hown.update Kd ht hn hkey hval
  unfold Oper.wp
  simp [execOp, hop, hm, hx, hv, hrun, Result.andThen]
  exact hK w' r1 r2
end U
end Go.Proofs.Ytollaamlnddhcaa
