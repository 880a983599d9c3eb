import Derived.Test.YtdhmommfmmiieaaLns
import Derived.Test.YtdhmommfmmiieaaKO
import Derived.ProofKit
import Derived.Deep.RegionLaw
import Derived.Test.YtdhmommfmmiieaaRmd
import Derived.Deep.RegionHeld3
set_option linter.unusedVariables false
set_option linter.unusedSimpArgs false
namespace Go.Proofs.Ytdhmommfmmiieaa
open Go.RowKit Go.Maps
namespace Pl
open U
/-- the places at which a text stands in a list, counted from n on -/
def plcR : Nat → List ByteArray → ByteArray → List Int
  | _, [], _ => []
  | n, a :: al, k => (if a = k then [(n : Int)] else []) ++ plcR (n + 1) al k
theorem plcR_snoc (n : Nat) (al : List ByteArray) (a k : ByteArray) : plcR n (al ++ [a]) k = plcR n al k ++ (if a = k then [((n + al.length : Nat) : Int)] else []) := by
  induction al generalizing n with
  | nil => simp [plcR]
  | cons b al ih =>
    have e : n + 1 + al.length = n + (b :: al).length := by simp; omega
    rw [List.cons_append, plcR, plcR, ih, e, List.append_assoc]
def plc (al : List ByteArray) (k : ByteArray) : List Int := plcR 0 al k
theorem plc_yes {al : List ByteArray} {k : ByteArray} : plc (al ++ [k]) k = plc al k ++ [(al.length : Int)] := by unfold plc; rw [plcR_snoc, if_pos rfl, Nat.zero_add]
theorem plc_no {al : List ByteArray} {a k : ByteArray} (h : ¬ a = k) : plc (al ++ [a]) k = plc al k := by unfold plc; rw [plcR_snoc, if_neg h, List.append_nil]
theorem plcR_len (n : Nat) (al : List ByteArray) (k : ByteArray) : (plcR n al k).length ≤ al.length := by
  induction al generalizing n with
  | nil => simp [plcR]
  | cons b al ih => rw [plcR, List.length_append]; have := ih (n + 1); split <;> simp <;> omega
theorem plc_len (al : List ByteArray) (k : ByteArray) : (plc al k).length ≤ al.length := plcR_len 0 al k
theorem mem_plcR (n : Nat) (al : List ByteArray) (k : ByteArray) (z : Int) : z ∈ plcR n al k ↔ ∃ i, al[i]? = some k ∧ z = ((n + i : Nat) : Int) := by
  induction al generalizing n with
  | nil => simp [plcR]
  | cons b al ih =>
    rw [plcR, List.mem_append, ih]
    constructor
    · rintro (h | ⟨i, h1, h2⟩)
      · split at h
        · rename_i e; exact ⟨0, by simp [e], by simpa using h⟩
        · cases h
      · exact ⟨i + 1, by simpa using h1, by rw [h2]; congr 1; omega⟩
    · rintro ⟨i, h1, h2⟩
      cases i with
      | zero => left; simp at h1; rw [if_pos h1]; simpa using h2
      | succ i => right; exact ⟨i, by simpa using h1, by rw [h2]; congr 1; omega⟩
theorem mem_plc (al : List ByteArray) (k : ByteArray) (z : Int) : z ∈ plc al k ↔ ∃ i : Nat, al[i]? = some k ∧ z = (i : Int) := by unfold plc; rw [mem_plcR]; simp
theorem zeroI (w : World) : (zeroValue 76).run Try.prog w = .ok (.slice none 0 0) w := by kernel_rfl
/-- the block of a list -/
def Bl (f : ByteArray → Option V3) (j : Nat) : Prop := ∃ k v, f k = some v ∧ j = v.1
/-- BLOCK bm IS A MAP of texts to the places at which they stand in a list -/
structure Lm (bm B : Nat) (qs : List ByteArray) (f : ByteArray → Option V3) (w : World) : Prop where
  map : ∃ D, w.ownsMap Try.prog 9 sE bm qs.length D ∧ ∀ k, S.okk k → D.atKey (S.lit k) (.agg []) = dat (f k)
  bB : B ≤ bm
  each : ∀ k g l c, f k = some (g, l, c) → l = (plc qs k).length ∧ I.RowI B (some ⟨g, 0, none⟩) c (plc qs k) w
  non : ∀ k, f k = none → plc qs k = []
  ap : ∀ k k' v v', f k = some v → f k' = some v' → k ≠ k' → v.1 ≠ v'.1
section
variable {bm B : Nat} {qs : List ByteArray} {f : ByteArray → Option V3} {w w' : World}
theorem Lm.made (w : World) (B : Nat) (hB : B ≤ w.heap.size) : Lm w.heap.size B [] (fun _ => none) (w.alloc (.map #[] 0)) :=
  ⟨⟨.map [], World.ownsMap_made w Try.prog 9 _, fun k _ => rfl⟩, hB, (fun k g l c h => by cases h), (fun k _ => rfl), (fun k k' v v' h => by cases h)⟩
theorem Lm.row (h : Lm bm B qs f w) (k : ByteArray) : ∃ ao l c, val (f k) = .slice ao l c ∧ l = (plc qs k).length ∧ I.RowI B ao c (plc qs k) w ∧ ((ao = none ∧ l = 0 ∧ c = 0 ∧ f k = none) ∨ ∃ g, ao = some ⟨g, 0, none⟩ ∧ f k = some (g, l, c)) := by
  cases e : f k with
  | none => exact ⟨none, 0, 0, rfl, by rw [h.non k e]; rfl, by rw [h.non k e]; exact I.RowI.nil _ _, .inl ⟨rfl, rfl, rfl, rfl⟩⟩
  | some v =>
    obtain ⟨g, l, c⟩ := v
    have := h.each k g l c e
    exact ⟨some ⟨g, 0, none⟩, l, c, rfl, this.1, this.2, .inr ⟨g, rfl, rfl⟩⟩
theorem Lm.lt (h : Lm bm B qs f w) {j : Nat} (q : Bl f j) : B ≤ j ∧ j < w.heap.size := by
  obtain ⟨k, ⟨g, l, c⟩, e, e2⟩ := q
  have e3 : j = g := e2
  rw [e3]
  exact (h.each k g l c e).2.lt g ⟨_, rfl, rfl⟩
theorem Lm.ltm (h : Lm bm B qs f w) : bm < w.heap.size := by obtain ⟨D, h1, _⟩ := h.map; exact h1.lt
theorem kindI {B : Nat} {no : Option Addr} {ncap : Nat} {zs : List Int} {w : World} (h : I.RowI B no ncap zs w) {j : Nat} (q : I.At no j) : ∃ cur, w.heap[j]? = some (.cells cur 3 (0, 0)) := by
  obtain ⟨a, e, rfl⟩ := q
  rcases h.2 with ⟨hv, _⟩ | ⟨g, c, cur, hv, _, hg, _⟩
  · rw [e] at hv; cases hv
  · simp only [Value.slice.injEq] at hv; rw [hv.1] at e; cases e; exact ⟨cur, hg⟩
theorem Lm.ne (h : Lm bm B qs f w) : ¬ Bl f bm := by
  rintro ⟨k, ⟨g, l, c⟩, e, e2⟩
  obtain ⟨cur, q⟩ := kindI (h.each k g l c e).2 ⟨_, rfl, rfl⟩
  obtain ⟨D, ⟨es, cl, hb, _⟩, _⟩ := h.map
  have e3 : bm = g := e2
  rw [e3] at hb
  have q' : w.heap[g]? = some (.cells cur 3 (0, 0)) := q
  rw [q'] at hb; cases hb
theorem Lm.turn {T : Nat → Prop} (h : Lm bm B qs f w) (t : Turn T w w') (hm : ¬ T bm) (hT : ∀ j, Bl f j → ¬ T j) : Lm bm B qs f w' := by
  obtain ⟨D, h1, h2⟩ := h.map
  refine ⟨⟨D, t.map h1 hm, h2⟩, h.bB, fun k g l c e => ⟨(h.each k g l c e).1, (h.each k g l c e).2.turn t (fun j q => ?_)⟩, h.non, h.ap⟩
  obtain ⟨a, e2, rfl⟩ := q
  cases e2
  exact hT g ⟨k, _, e, rfl⟩
theorem Lm.below (h : Lm bm B qs f w) (t : Below w.heap.size w w') : Lm bm B qs f w' := h.turn (turn_below (S := fun _ => False) t) id (fun _ _ => id)
/-- 'm[k]' -/
theorem Lm.run (h : Lm bm B qs f w) {k : ByteArray} (hk : S.okk k) : (Instr.lookup 81 (.map (some bm)) (.string k) false).run Try.prog w = .ok (val (f k)) w := by
  obtain ⟨D, h1, h2⟩ := h.map
  obtain ⟨v, ps, hrun, hv⟩ := h1.lookup S.law Try.underlying81 (zeroI w) (zd := .agg []) (zp := []) rfl (S.hkey hk)
  rw [h2 k hk] at hv
  rw [hrun, sE_inv hv]
/-- a pair more: its list has grown, and is put in -/
theorem Lm.put (h : Lm bm B qs f w) {q : ByteArray} (hok : S.okk q) {ao : Option Addr} {l c g2 c2 : Nat} (hv : val (f q) = .slice ao l c) {w1 w2 : World} (hr : I.RowI B (some ⟨g2, 0, none⟩) c2 (plc qs q ++ [(qs.length : Int)]) w1) (t1 : Turn (I.At ao) w w1) (hg : ao = some ⟨g2, 0, none⟩ ∨ w.heap.size ≤ g2) {D : DataW Unit} (hD : ∀ k, S.okk k → D.atKey (S.lit k) (.agg []) = dat (f k)) (hm : IsMap D)
    (ho : w2.ownsMap Try.prog 9 sE bm (qs.length + 1) (D.put (S.lit q) (dat (some (g2, l + 1, c2))))) (t2 : Turn (fun j => j = bm) w1 w2) (hl : l = (plc qs q).length) : Lm bm B (qs ++ [q]) (fun k => if k = q then some (g2, l + 1, c2) else f k) w2 := by
  have at' : ∀ {j}, I.At ao j → ∃ v, f q = some v ∧ j = v.1 := fun {j} r => by
    obtain ⟨a, e, rfl⟩ := r
    cases e2 : f q with
    | none => rw [e2] at hv; simp [val] at hv; rw [← hv.1] at e; cases e
    | some v => rw [e2] at hv; simp [val] at hv; rw [← hv.1] at e; cases e; exact ⟨v, rfl, rfl⟩
  have g2m : g2 ≠ bm := fun e => by
    rcases hg with r | r
    · obtain ⟨v, e3, e4⟩ := at' ⟨_, r, rfl⟩
      exact h.ne ⟨q, v, e3, by rw [← e4]; exact e.symm⟩
    · have := h.ltm; omega
  refine ⟨⟨D.put (S.lit q) (dat (some (g2, l + 1, c2))), by rw [List.length_append]; exact ho, fun k hk => ?_⟩, h.bB, fun k g l' c' e => ?_, fun k e => ?_, fun k k' v v' e e' hne => ?_⟩
  · by_cases e : k = q
    · subst e; rw [atKey_put_same hm (S.isKey hok), if_pos rfl]
    · have hne : S.lit k ≠ S.lit q := fun r => e (S.inj k q hk hok r)
      rw [atKey_put_other hne, if_neg e]; exact hD k hk
  · by_cases ek : k = q
    · subst ek
      rw [if_pos rfl] at e
      cases e
      rw [plc_yes]
      exact ⟨by rw [List.length_append, hl]; rfl, hr.turn t2 (fun j r e => by obtain ⟨a, e1, rfl⟩ := r; cases e1; exact g2m e)⟩
    · rw [if_neg ek] at e
      rw [plc_no (fun r => ek r.symm)]
      have hh := h.each k g l' c' e
      refine ⟨hh.1, (hh.2.turn t1 (fun j r s => ?_)).turn t2 (fun j r s => ?_)⟩
      · obtain ⟨a, e1, rfl⟩ := r; cases e1
        obtain ⟨v, e3, e4⟩ := at' s
        exact h.ap k q _ _ e e3 ek e4
      · obtain ⟨a, e1, rfl⟩ := r; cases e1
        exact h.ne ⟨k, _, e, s.symm⟩
  · by_cases ek : k = q
    · subst ek; rw [if_pos rfl] at e; cases e
    · rw [if_neg ek] at e
      rw [plc_no (fun r => ek r.symm)]
      exact h.non k e
  · by_cases ek : k = q <;> by_cases ek' : k' = q
    · exact absurd (ek.trans ek'.symm) hne
    · rw [if_pos ek] at e; rw [if_neg ek'] at e'
      cases e
      intro r
      rcases hg with s | s
      · obtain ⟨v0, e3, e4⟩ := at' ⟨_, s, rfl⟩
        exact h.ap q k' _ _ e3 e' (fun x => ek' x.symm) (by rw [← e4]; exact r)
      · have := (h.lt ⟨k', v', e', rfl⟩).2; have r' : g2 = v'.1 := r; omega
    · rw [if_neg ek] at e; rw [if_pos ek'] at e'
      cases e'
      intro r
      rcases hg with s | s
      · obtain ⟨v0, e3, e4⟩ := at' ⟨_, s, rfl⟩
        exact h.ap k q _ _ e e3 ek (by rw [← e4]; exact r)
      · have := (h.lt ⟨k, v, e, rfl⟩).2; have r' : v.1 = g2 := r; omega
    · rw [if_neg ek] at e; rw [if_neg ek'] at e'
      exact h.ap k k' v v' e e' hne
end
end Pl
end Go.Proofs.Ytdhmommfmmiieaa
set_option linter.unusedVariables false
set_option linter.unusedSimpArgs false
namespace Go.Proofs.Ytdhmommfmmiieaa
open Go.RowKit Go.Maps
namespace X
theorem laidOutX : laidOutB Try.prog = true := by kernel_rfl
theorem cells36 : Try.prog.cellsOf 36 = 3 := by kernel_rfl
theorem cells9 : Try.prog.cellsOf 9 = 1 := by kernel_rfl
theorem row36 : 36 < Try.prog.types.size := of_decide_eq_true (by kernel_rfl)
theorem wide36 : (match Try.prog.underlying 36 with | some (.array _ _) | some (.struct _) => true | _ => false) = true := by rw [Try.underlying36]
theorem deep36 : Try.prog.keyTypeAt (Try.prog.types.size + 1) 36 = true := by kernel_rfl
theorem formed36 {c0 c1 c2 : Value} : (Value.agg #[c0, c1, c2]).formed Try.prog 36 = true := by simp [Value.formed, Try.underlying36, cells36]
set_option maxRecDepth 100000 in
theorem law : Keyed Try.prog 36 := Keyed.of_law (deep_law_laid laidOutX (m := 3) (by omega) row36 (by kernel_rfl) wide36)
def okk (k : K3) : Prop := k.1.size ≤ maxLen ∧ k.2.1.size ≤ maxLen ∧ k.2.2.size ≤ maxLen
def lit (k : K3) : Lit := (DataW.agg [.lit (.string k.1.data.toList), .lit (.string k.2.1.data.toList), .lit (.string k.2.2.data.toList)] : DataW Unit).asKey
set_option maxRecDepth 100000 in
theorem hkey {k : K3} (h : okk k) : keyOf Try.prog 36 (.agg #[.string k.1, .string k.2.1, .string k.2.2]) = some (lit k) := by
  have hd : DataW.Trod (fun _ : TypeId × Value => ()) Try.prog default 0 (fun _ => true) true 36 (.agg #[.string k.1, .string k.2.1, .string k.2.2]) (.agg [.lit (.string k.1.data.toList), .lit (.string k.2.1.data.toList), .lit (.string k.2.2.data.toList)]) [] := by
    refine ⟨4, ?_⟩
    have hr : List.range 3 = [0, 1, 2] := rfl
    simp [DataW.trod, Try.underlying36, Try.underlying9, h.1, h.2.1, h.2.2, Value.cells, cells36, cells9, hr]
  exact (keyOf_asKey deep36 wide36 formed36 hd).1
theorem inj (j k : K3) (hj : okk j) (hk : okk k) (h : lit j = lit k) : j = k := by
  have a := hkey hj
  rw [h] at a
  have := law.inj a (hkey hk)
  simp at this
  exact Prod.ext this.1 (Prod.ext this.2.1 this.2.2)
theorem isKey {k : K3} (h : okk k) : WideAt.IsKeyLit (lit k) := law.key (hkey h)
theorem has_put {D : DataW Unit} {ms : List K3} (h : ∀ k, okk k → Maps.has D (lit k) = isIn ms k) (hm : IsMap D) {k : K3} (hok : okk k) : ∀ j, okk j → Maps.has (D.put (lit k) (.agg [])) (lit j) = isIn (ms ++ [k]) j := by
  intro j hj
  by_cases e : j = k
  · subst e; rw [has_put_same hm (isKey hok)]; simp [isIn]
  · rw [has_put_other (fun q => e (inj j k hj hok q)), h j hj]; simp [isIn, e]
/-- a map of triples: just ms -/
def Tset (xb : Nat) (ms : List K3) (w : World) : Prop := ∃ n D, n ≤ ms.length ∧ w.ownsMap Try.prog 36 unitElem xb n D ∧ ∀ k, okk k → Maps.has (D : DataW Unit) (lit k) = isIn ms k
theorem Tset.turn {xb : Nat} {ms : List K3} {w w' : World} {T : Nat → Prop} (h : Tset xb ms w) (t : Turn T w w') (hT : ¬ T xb) : Tset xb ms w' := by
  obtain ⟨n, D, h1, h2, h3⟩ := h
  exact ⟨n, D, h1, t.map h2 hT, h3⟩
theorem Tset.below {xb : Nat} {ms : List K3} {w w' : World} (h : Tset xb ms w) (t : Below w.heap.size w w') : Tset xb ms w' := h.turn (turn_below (S := fun _ => False) t) id
theorem Tset.lt {xb : Nat} {ms : List K3} {w : World} (h : Tset xb ms w) : xb < w.heap.size := by obtain ⟨n, D, _, h2, _⟩ := h; exact h2.lt
theorem Tset.made (w : World) : Tset w.heap.size [] (w.alloc (.map #[] 0)) := ⟨0, .map [], Nat.le_refl _, World.ownsMap_made w Try.prog 36 _, fun k _ => rfl⟩
theorem look_set {xb : Nat} {ms : List K3} {w : World} (h : Tset xb ms w) {k : K3} (hk : okk k) : (Instr.lookup 82 (.map (some xb)) (.agg #[.string k.1, .string k.2.1, .string k.2.2]) true).run Try.prog w = .ok (.tuple #[.agg #[], .bool (isIn ms k)]) w := by
  obtain ⟨n, D, _, h2, h3⟩ := h
  obtain ⟨v, ps, hrun, hv⟩ := h2.look_ok law Try.underlying82 (S.zeroE w) unitElem_mk (hkey hk)
  obtain ⟨rfl, _⟩ := unitElem_inv hv
  rw [hrun, h3 k hk]
theorem Tset.put {xb : Nat} {ms : List K3} {w : World} (h : Tset xb ms w) (hn : ms.length < maxLen) {k : K3} (hk : okk k) : ∃ w', (Instr.mapUpdate 82 (.map (some xb)) (.agg #[.string k.1, .string k.2.1, .string k.2.2]) (.agg #[])).run Try.prog w = .ok () w' ∧ Tset xb (ms ++ [k]) w' ∧ Turn (fun j => j = xb) w w' := by
  obtain ⟨n, D, h1, h2, h3⟩ := h
  obtain ⟨w', hrun, ho, hg⟩ := h2.update law Try.underlying82 (by omega) (hkey hk) unitElem_mk
  exact ⟨w', hrun, ⟨n + 1, _, by simp; omega, ho, has_put h3 h2.isMap hk⟩, ⟨hg.os, hg.tape, hg.output, hg.size, fun j hj hne => hg.block j hj (by simpa using hne)⟩⟩
end X
end Go.Proofs.Ytdhmommfmmiieaa
set_option linter.unusedVariables false
set_option linter.unusedSimpArgs false
namespace Go.Proofs.Ytdhmommfmmiieaa
open Go.RowKit Go.Maps
namespace U
/-- what stands while a policy is read -/
structure Rx (F : Pf) (ao : Option Addr) (ac : Nat) (al : List ByteArray) (q2 q4 q5 qp qx : Nat) (w V : World) : Prop where
  b : Below w.heap.size w V
  h2 : V.heap[q2]? = some (.cells #[.slice F.a.1 F.a.2.2.length F.a.2.1, .slice F.s.1 F.s.2.2.length F.s.2.1, .slice F.r.1 F.r.2.2.length F.r.2.1, .slice F.o.1 F.o.2.2.length F.o.2.1, .slice F.g.1 F.g.2.2.length F.g.2.1, .slice F.m.1 F.m.2.2.length F.m.2.1, .slice F.i.1 F.i.2.2.length F.i.2.1, .slice F.p.1 F.p.2.2.length F.p.2.1, .slice F.w.1 F.w.2.2.length F.w.2.1, .slice F.u.1 F.u.2.2.length F.u.2.1, .slice F.x.1 F.x.2.2.length F.x.2.1] 34 (0, 0))
  h4 : V.heap[q4]? = some (.cells #[.slice none 0 0, .map none, .slice none 0 0, .map none] 84 (0, 0))
  h5 : V.heap[q5]? = some (.cells #[.slice ao al.length ac, .map (some qp), .slice F.u.1 F.u.2.2.length F.u.2.1, .map (some qx)] 84 (0, 0))
theorem Rx.turn {F : Pf} {ao : Option Addr} {ac : Nat} {al : List ByteArray} {q2 q4 q5 qp qx : Nat} {w V V' : World} {T : Nat → Prop} (h : Rx F ao ac al q2 q4 q5 qp qx w V) (t : Turn T V V') (n2 : ¬ T q2) (n4 : ¬ T q4) (n5 : ¬ T q5) (hB : ∀ j, T j → w.heap.size ≤ j) : Rx F ao ac al q2 q4 q5 qp qx w V' :=
  ⟨h.b.trans (below_own t hB h.b.size), (t.block _ (lt_of_heap h.h2) n2).trans h.h2, (t.block _ (lt_of_heap h.h4) n4).trans h.h4, (t.block _ (lt_of_heap h.h5) n5).trans h.h5⟩
theorem cells_ne {w : World} {i j : Nat} {c c' : Array Value} {t t' : Nat} {r r' : Nat × Nat} (h : w.heap[i]? = some (.cells c t r)) (h' : w.heap[j]? = some (.cells c' t' r')) (n : t ≠ t') : i ≠ j := by
  rintro rfl
  rw [h] at h'
  cases h'
  exact n rfl
theorem map_ne {w : World} {i j : Nat} {c : Array Value} {t : Nat} {r : Nat × Nat} {P : Program} {k : TypeId} {R : Value → Option (DataW Unit × List MemPlace)} {n : Nat} {D : DataW Unit} (h : w.heap[i]? = some (.cells c t r)) (h' : w.ownsMap P k R j n D) : i ≠ j := by
  rintro rfl
  obtain ⟨es, cl, hb, _⟩ := h'
  rw [h] at hb
  cases hb
/-- what read tells -/
def ReadIs (F : Pf) (ao : Option Addr) (ac : Nat) (al : List ByteArray) (w : World) (e : Ending) (w' : World) : Prop := ∃ qp qx f, e = .returned (.agg #[.slice ao al.length ac, .map (some qp), .slice F.u.1 F.u.2.2.length F.u.2.1, .map (some qx)]) ∧ Pl.Lm qp w.heap.size al f w' ∧ X.Tset qx F.x.2.2 w' ∧ w.heap.size ≤ qx ∧ Below w.heap.size w w'
/-- four cells are written over -/
structure Sto4 (ty rb : Nat) (w : World) : Prop where
  c0 : ∃ a, w.cell? ⟨rb, 0, none⟩ = some a
  f0 : w.frozen? ⟨rb, 0, none⟩ = false
  c1 : ∀ u, ∃ a, (w.setCell ⟨rb, 0, none⟩ u).cell? ⟨rb, 1, none⟩ = some a
  f1 : ∀ u, (w.setCell ⟨rb, 0, none⟩ u).frozen? ⟨rb, 1, none⟩ = false
  c2 : ∀ u v, ∃ a, ((w.setCell ⟨rb, 0, none⟩ u).setCell ⟨rb, 1, none⟩ v).cell? ⟨rb, 2, none⟩ = some a
  f2 : ∀ u v, ((w.setCell ⟨rb, 0, none⟩ u).setCell ⟨rb, 1, none⟩ v).frozen? ⟨rb, 2, none⟩ = false
  c3 : ∀ u v x, ∃ a, (((w.setCell ⟨rb, 0, none⟩ u).setCell ⟨rb, 1, none⟩ v).setCell ⟨rb, 2, none⟩ x).cell? ⟨rb, 3, none⟩ = some a
  f3 : ∀ u v x, (((w.setCell ⟨rb, 0, none⟩ u).setCell ⟨rb, 1, none⟩ v).setCell ⟨rb, 2, none⟩ x).frozen? ⟨rb, 3, none⟩ = false
  fin : ∀ u v x y, ((((w.setCell ⟨rb, 0, none⟩ u).setCell ⟨rb, 1, none⟩ v).setCell ⟨rb, 2, none⟩ x).setCell ⟨rb, 3, none⟩ y).heap[rb]? = some (.cells #[u, v, x, y] ty (0, 0))
  tt : ∀ u v x y, Turn (fun j => j = rb) w ((((w.setCell ⟨rb, 0, none⟩ u).setCell ⟨rb, 1, none⟩ v).setCell ⟨rb, 2, none⟩ x).setCell ⟨rb, 3, none⟩ y)
theorem sto4 {ty rb : Nat} {w : World} {a0 a1 a2 a3 : Value} (h : w.heap[rb]? = some (.cells #[a0, a1, a2, a3] ty (0, 0))) : Sto4 ty rb w where
  c0 := ⟨a0, by rw [Lib.cell_of_heap h]; rfl⟩
  f0 := Lib.frozen_of_heap h 0
  c1 := fun u => ⟨a1, by rw [World.cell?_setCell_other _ _ _ _ (by simp), Lib.cell_of_heap h]; rfl⟩
  f1 := fun u => by rw [World.frozen?_setCell]; exact Lib.frozen_of_heap h 1
  c2 := fun u v => ⟨a2, by rw [World.cell?_setCell_other _ _ _ _ (by simp), World.cell?_setCell_other _ _ _ _ (by simp), Lib.cell_of_heap h]; rfl⟩
  f2 := fun u v => by rw [World.frozen?_setCell, World.frozen?_setCell]; exact Lib.frozen_of_heap h 2
  c3 := fun u v x => ⟨a3, by rw [World.cell?_setCell_other _ _ _ _ (by simp), World.cell?_setCell_other _ _ _ _ (by simp), World.cell?_setCell_other _ _ _ _ (by simp), Lib.cell_of_heap h]; rfl⟩
  f3 := fun u v x => by rw [World.frozen?_setCell, World.frozen?_setCell, World.frozen?_setCell]; exact Lib.frozen_of_heap h 3
  fin := fun u v x y => by simp [World.setCell, Array.getElem?_modify, h]
  tt := fun u v x y => ((((Turn.refl (fun j => j = rb) w).setCell (p := ⟨rb, 0, none⟩) (fun _ => rfl) _).setCell (p := ⟨rb, 1, none⟩) (fun _ => rfl) _).setCell (p := ⟨rb, 2, none⟩) (fun _ => rfl) _).setCell (p := ⟨rb, 3, none⟩) (fun _ => rfl) _
theorem grownI {B : Nat} {ao : Option Addr} {cap n : Nat} {zs : List Int} {k : Int} {w0 w1 : World} {ob : Obj} {g cap' : Nat} (h : I.RowI B ao cap zs w0) (hn : zs.length = n) (hrow1 : w1.ownsRow B 3 1 (.slice (some ⟨g, 0, none⟩) (n + 1) cap') (n + 1) (zs.flatMap I.cells ++ [.int .i64 k])) (hgrow : (w0.alloc ob).grownBy w1 (Value.slice ao n cap).ownBlock) (hat : (Value.slice ao n cap).ownBlock = some g ∨ g = w0.heap.size + 1) :
    I.RowI B (some ⟨g, 0, none⟩) cap' (zs ++ [k]) w1 ∧ Turn (I.At ao) w0 w1 ∧ (ao = some ⟨g, 0, none⟩ ∨ w0.heap.size ≤ g) := by
  subst hn
  refine ⟨by unfold I.RowI; rw [List.length_append, List.flatMap_append]; simpa [I.cells] using hrow1, ((Turn.refl _ w0).alloc _).grown hgrow (fun j hj _ => by
    cases ao with
    | none => cases hj
    | some ad => exact ⟨ad, rfl, by simpa [Value.ownBlock] using hj.symm⟩), ?_⟩
  rcases hat with q | q
  · cases ao with
    | none => cases q
    | some ad =>
      left
      rcases h.form with ⟨e, _⟩ | ⟨g', e, _⟩
      · cases e
      · cases e; simp only [Value.ownBlock, Option.some.injEq] at q; rw [q]
  · right; omega
theorem Rx.step {F : Pf} {ao : Option Addr} {ac : Nat} {al : List ByteArray} {q2 q4 q5 qp qx : Nat} {w V V1 V2 : World} {qs : List ByteArray} {f : ByteArray → Option V3} {xs : List X.K3} {bo : Option Addr} {c : Nat} {zs : List Int} (h : Rx F ao ac al q2 q4 q5 qp qx w V) (hM : Pl.Lm qp w.heap.size qs f V) (hX : X.Tset qx xs V) (hne : qp ≠ qx) (hr : I.RowI w.heap.size bo c zs V) (t1 : Turn (I.At bo) V V1) (t2 : Turn (fun j => j = qp) V1 V2) : Rx F ao ac al q2 q4 q5 qp qx w V2 ∧ X.Tset qx xs V2 := by
  obtain ⟨D, hm, _⟩ := hM.map
  obtain ⟨n, D2, _, hx, _⟩ := id hX
  have kd : ∀ j, I.At bo j → ∃ cur, V.heap[j]? = some (.cells cur 3 (0, 0)) := fun j r => Pl.kindI hr r
  have h1 : Rx F ao ac al q2 q4 q5 qp qx w V1 := h.turn t1 (fun r => by obtain ⟨cur, k⟩ := kd _ r; exact cells_ne h.h2 k (by decide) rfl) (fun r => by obtain ⟨cur, k⟩ := kd _ r; exact cells_ne h.h4 k (by decide) rfl) (fun r => by obtain ⟨cur, k⟩ := kd _ r; exact cells_ne h.h5 k (by decide) rfl) (fun j r => (hr.lt j r).1)
  refine ⟨h1.turn t2 (map_ne h.h2 hm) (map_ne h.h4 hm) (map_ne h.h5 hm) (fun j e => by rw [e]; exact hM.bB), (hX.turn t1 (fun r => ?_)).turn t2 (fun e => hne e.symm)⟩
  obtain ⟨cur, k⟩ := kd _ r
  exact map_ne k hx rfl
theorem Rx.start (F : Pf) (ao : Option Addr) (ac : Nat) (al : List ByteArray) (w : World) : Rx F ao ac al w.heap.size (w.heap.size + 1) (w.heap.size + 1 + 1 + 1 + 1) (w.heap.size + 1 + 1) (w.heap.size + 1 + 1 + 1) w (((((w.alloc (.cells #[.slice F.a.1 F.a.2.2.length F.a.2.1, .slice F.s.1 F.s.2.2.length F.s.2.1, .slice F.r.1 F.r.2.2.length F.r.2.1, .slice F.o.1 F.o.2.2.length F.o.2.1, .slice F.g.1 F.g.2.2.length F.g.2.1, .slice F.m.1 F.m.2.2.length F.m.2.1, .slice F.i.1 F.i.2.2.length F.i.2.1, .slice F.p.1 F.p.2.2.length F.p.2.1, .slice F.w.1 F.w.2.2.length F.w.2.1, .slice F.u.1 F.u.2.2.length F.u.2.1, .slice F.x.1 F.x.2.2.length F.x.2.1] 34)).alloc (.cells #[.slice none 0 0, .map none, .slice none 0 0, .map none] 84)).alloc (.map #[] 0)).alloc (.map #[] 0)).alloc (.cells #[.slice ao al.length ac, .map (some (w.heap.size + 1 + 1)), .slice F.u.1 F.u.2.2.length F.u.2.1, .map (some (w.heap.size + 1 + 1 + 1))] 84)) ∧ Pl.Lm (w.heap.size + 1 + 1) w.heap.size [] (fun _ => none) (((((w.alloc (.cells #[.slice F.a.1 F.a.2.2.length F.a.2.1, .slice F.s.1 F.s.2.2.length F.s.2.1, .slice F.r.1 F.r.2.2.length F.r.2.1, .slice F.o.1 F.o.2.2.length F.o.2.1, .slice F.g.1 F.g.2.2.length F.g.2.1, .slice F.m.1 F.m.2.2.length F.m.2.1, .slice F.i.1 F.i.2.2.length F.i.2.1, .slice F.p.1 F.p.2.2.length F.p.2.1, .slice F.w.1 F.w.2.2.length F.w.2.1, .slice F.u.1 F.u.2.2.length F.u.2.1, .slice F.x.1 F.x.2.2.length F.x.2.1] 34)).alloc (.cells #[.slice none 0 0, .map none, .slice none 0 0, .map none] 84)).alloc (.map #[] 0)).alloc (.map #[] 0)).alloc (.cells #[.slice ao al.length ac, .map (some (w.heap.size + 1 + 1)), .slice F.u.1 F.u.2.2.length F.u.2.1, .map (some (w.heap.size + 1 + 1 + 1))] 84)) ∧ X.Tset (w.heap.size + 1 + 1 + 1) [] (((((w.alloc (.cells #[.slice F.a.1 F.a.2.2.length F.a.2.1, .slice F.s.1 F.s.2.2.length F.s.2.1, .slice F.r.1 F.r.2.2.length F.r.2.1, .slice F.o.1 F.o.2.2.length F.o.2.1, .slice F.g.1 F.g.2.2.length F.g.2.1, .slice F.m.1 F.m.2.2.length F.m.2.1, .slice F.i.1 F.i.2.2.length F.i.2.1, .slice F.p.1 F.p.2.2.length F.p.2.1, .slice F.w.1 F.w.2.2.length F.w.2.1, .slice F.u.1 F.u.2.2.length F.u.2.1, .slice F.x.1 F.x.2.2.length F.x.2.1] 34)).alloc (.cells #[.slice none 0 0, .map none, .slice none 0 0, .map none] 84)).alloc (.map #[] 0)).alloc (.map #[] 0)).alloc (.cells #[.slice ao al.length ac, .map (some (w.heap.size + 1 + 1)), .slice F.u.1 F.u.2.2.length F.u.2.1, .map (some (w.heap.size + 1 + 1 + 1))] 84)) := by
  have b0 : Below w.heap.size w (w.alloc (.cells #[.slice F.a.1 F.a.2.2.length F.a.2.1, .slice F.s.1 F.s.2.2.length F.s.2.1, .slice F.r.1 F.r.2.2.length F.r.2.1, .slice F.o.1 F.o.2.2.length F.o.2.1, .slice F.g.1 F.g.2.2.length F.g.2.1, .slice F.m.1 F.m.2.2.length F.m.2.1, .slice F.i.1 F.i.2.2.length F.i.2.1, .slice F.p.1 F.p.2.2.length F.p.2.1, .slice F.w.1 F.w.2.2.length F.w.2.1, .slice F.u.1 F.u.2.2.length F.u.2.1, .slice F.x.1 F.x.2.2.length F.x.2.1] 34)) := (Below.refl _ _).alloc (Nat.le_refl _) _
  have b1 : Below w.heap.size w ((w.alloc (.cells #[.slice F.a.1 F.a.2.2.length F.a.2.1, .slice F.s.1 F.s.2.2.length F.s.2.1, .slice F.r.1 F.r.2.2.length F.r.2.1, .slice F.o.1 F.o.2.2.length F.o.2.1, .slice F.g.1 F.g.2.2.length F.g.2.1, .slice F.m.1 F.m.2.2.length F.m.2.1, .slice F.i.1 F.i.2.2.length F.i.2.1, .slice F.p.1 F.p.2.2.length F.p.2.1, .slice F.w.1 F.w.2.2.length F.w.2.1, .slice F.u.1 F.u.2.2.length F.u.2.1, .slice F.x.1 F.x.2.2.length F.x.2.1] 34)).alloc (.cells #[.slice none 0 0, .map none, .slice none 0 0, .map none] 84)) := b0.alloc (by simp) _
  have b2 : Below w.heap.size w (((w.alloc (.cells #[.slice F.a.1 F.a.2.2.length F.a.2.1, .slice F.s.1 F.s.2.2.length F.s.2.1, .slice F.r.1 F.r.2.2.length F.r.2.1, .slice F.o.1 F.o.2.2.length F.o.2.1, .slice F.g.1 F.g.2.2.length F.g.2.1, .slice F.m.1 F.m.2.2.length F.m.2.1, .slice F.i.1 F.i.2.2.length F.i.2.1, .slice F.p.1 F.p.2.2.length F.p.2.1, .slice F.w.1 F.w.2.2.length F.w.2.1, .slice F.u.1 F.u.2.2.length F.u.2.1, .slice F.x.1 F.x.2.2.length F.x.2.1] 34)).alloc (.cells #[.slice none 0 0, .map none, .slice none 0 0, .map none] 84)).alloc (.map #[] 0)) := b1.alloc (by simp; omega) _
  have b3 : Below w.heap.size w ((((w.alloc (.cells #[.slice F.a.1 F.a.2.2.length F.a.2.1, .slice F.s.1 F.s.2.2.length F.s.2.1, .slice F.r.1 F.r.2.2.length F.r.2.1, .slice F.o.1 F.o.2.2.length F.o.2.1, .slice F.g.1 F.g.2.2.length F.g.2.1, .slice F.m.1 F.m.2.2.length F.m.2.1, .slice F.i.1 F.i.2.2.length F.i.2.1, .slice F.p.1 F.p.2.2.length F.p.2.1, .slice F.w.1 F.w.2.2.length F.w.2.1, .slice F.u.1 F.u.2.2.length F.u.2.1, .slice F.x.1 F.x.2.2.length F.x.2.1] 34)).alloc (.cells #[.slice none 0 0, .map none, .slice none 0 0, .map none] 84)).alloc (.map #[] 0)).alloc (.map #[] 0)) := b2.alloc (by simp; omega) _
  have b4 : Below w.heap.size w (((((w.alloc (.cells #[.slice F.a.1 F.a.2.2.length F.a.2.1, .slice F.s.1 F.s.2.2.length F.s.2.1, .slice F.r.1 F.r.2.2.length F.r.2.1, .slice F.o.1 F.o.2.2.length F.o.2.1, .slice F.g.1 F.g.2.2.length F.g.2.1, .slice F.m.1 F.m.2.2.length F.m.2.1, .slice F.i.1 F.i.2.2.length F.i.2.1, .slice F.p.1 F.p.2.2.length F.p.2.1, .slice F.w.1 F.w.2.2.length F.w.2.1, .slice F.u.1 F.u.2.2.length F.u.2.1, .slice F.x.1 F.x.2.2.length F.x.2.1] 34)).alloc (.cells #[.slice none 0 0, .map none, .slice none 0 0, .map none] 84)).alloc (.map #[] 0)).alloc (.map #[] 0)).alloc (.cells #[.slice ao al.length ac, .map (some (w.heap.size + 1 + 1)), .slice F.u.1 F.u.2.2.length F.u.2.1, .map (some (w.heap.size + 1 + 1 + 1))] 84)) := b3.alloc (by simp; omega) _
  have z1 : (w.alloc (.cells #[.slice F.a.1 F.a.2.2.length F.a.2.1, .slice F.s.1 F.s.2.2.length F.s.2.1, .slice F.r.1 F.r.2.2.length F.r.2.1, .slice F.o.1 F.o.2.2.length F.o.2.1, .slice F.g.1 F.g.2.2.length F.g.2.1, .slice F.m.1 F.m.2.2.length F.m.2.1, .slice F.i.1 F.i.2.2.length F.i.2.1, .slice F.p.1 F.p.2.2.length F.p.2.1, .slice F.w.1 F.w.2.2.length F.w.2.1, .slice F.u.1 F.u.2.2.length F.u.2.1, .slice F.x.1 F.x.2.2.length F.x.2.1] 34)).heap.size = w.heap.size + 1 := by simp
  have z2 : ((w.alloc (.cells #[.slice F.a.1 F.a.2.2.length F.a.2.1, .slice F.s.1 F.s.2.2.length F.s.2.1, .slice F.r.1 F.r.2.2.length F.r.2.1, .slice F.o.1 F.o.2.2.length F.o.2.1, .slice F.g.1 F.g.2.2.length F.g.2.1, .slice F.m.1 F.m.2.2.length F.m.2.1, .slice F.i.1 F.i.2.2.length F.i.2.1, .slice F.p.1 F.p.2.2.length F.p.2.1, .slice F.w.1 F.w.2.2.length F.w.2.1, .slice F.u.1 F.u.2.2.length F.u.2.1, .slice F.x.1 F.x.2.2.length F.x.2.1] 34)).alloc (.cells #[.slice none 0 0, .map none, .slice none 0 0, .map none] 84)).heap.size = w.heap.size + 1 + 1 := by simp
  have z3 : (((w.alloc (.cells #[.slice F.a.1 F.a.2.2.length F.a.2.1, .slice F.s.1 F.s.2.2.length F.s.2.1, .slice F.r.1 F.r.2.2.length F.r.2.1, .slice F.o.1 F.o.2.2.length F.o.2.1, .slice F.g.1 F.g.2.2.length F.g.2.1, .slice F.m.1 F.m.2.2.length F.m.2.1, .slice F.i.1 F.i.2.2.length F.i.2.1, .slice F.p.1 F.p.2.2.length F.p.2.1, .slice F.w.1 F.w.2.2.length F.w.2.1, .slice F.u.1 F.u.2.2.length F.u.2.1, .slice F.x.1 F.x.2.2.length F.x.2.1] 34)).alloc (.cells #[.slice none 0 0, .map none, .slice none 0 0, .map none] 84)).alloc (.map #[] 0)).heap.size = w.heap.size + 1 + 1 + 1 := by simp
  have z4 : ((((w.alloc (.cells #[.slice F.a.1 F.a.2.2.length F.a.2.1, .slice F.s.1 F.s.2.2.length F.s.2.1, .slice F.r.1 F.r.2.2.length F.r.2.1, .slice F.o.1 F.o.2.2.length F.o.2.1, .slice F.g.1 F.g.2.2.length F.g.2.1, .slice F.m.1 F.m.2.2.length F.m.2.1, .slice F.i.1 F.i.2.2.length F.i.2.1, .slice F.p.1 F.p.2.2.length F.p.2.1, .slice F.w.1 F.w.2.2.length F.w.2.1, .slice F.u.1 F.u.2.2.length F.u.2.1, .slice F.x.1 F.x.2.2.length F.x.2.1] 34)).alloc (.cells #[.slice none 0 0, .map none, .slice none 0 0, .map none] 84)).alloc (.map #[] 0)).alloc (.map #[] 0)).heap.size = w.heap.size + 1 + 1 + 1 + 1 := by simp
  have a1 := heap_alloc_new w (.cells #[.slice F.a.1 F.a.2.2.length F.a.2.1, .slice F.s.1 F.s.2.2.length F.s.2.1, .slice F.r.1 F.r.2.2.length F.r.2.1, .slice F.o.1 F.o.2.2.length F.o.2.1, .slice F.g.1 F.g.2.2.length F.g.2.1, .slice F.m.1 F.m.2.2.length F.m.2.1, .slice F.i.1 F.i.2.2.length F.i.2.1, .slice F.p.1 F.p.2.2.length F.p.2.1, .slice F.w.1 F.w.2.2.length F.w.2.1, .slice F.u.1 F.u.2.2.length F.u.2.1, .slice F.x.1 F.x.2.2.length F.x.2.1] 34)
  have a2 := heap_alloc_new (w.alloc (.cells #[.slice F.a.1 F.a.2.2.length F.a.2.1, .slice F.s.1 F.s.2.2.length F.s.2.1, .slice F.r.1 F.r.2.2.length F.r.2.1, .slice F.o.1 F.o.2.2.length F.o.2.1, .slice F.g.1 F.g.2.2.length F.g.2.1, .slice F.m.1 F.m.2.2.length F.m.2.1, .slice F.i.1 F.i.2.2.length F.i.2.1, .slice F.p.1 F.p.2.2.length F.p.2.1, .slice F.w.1 F.w.2.2.length F.w.2.1, .slice F.u.1 F.u.2.2.length F.u.2.1, .slice F.x.1 F.x.2.2.length F.x.2.1] 34)) (.cells #[.slice none 0 0, .map none, .slice none 0 0, .map none] 84)
  have a5 := heap_alloc_new ((((w.alloc (.cells #[.slice F.a.1 F.a.2.2.length F.a.2.1, .slice F.s.1 F.s.2.2.length F.s.2.1, .slice F.r.1 F.r.2.2.length F.r.2.1, .slice F.o.1 F.o.2.2.length F.o.2.1, .slice F.g.1 F.g.2.2.length F.g.2.1, .slice F.m.1 F.m.2.2.length F.m.2.1, .slice F.i.1 F.i.2.2.length F.i.2.1, .slice F.p.1 F.p.2.2.length F.p.2.1, .slice F.w.1 F.w.2.2.length F.w.2.1, .slice F.u.1 F.u.2.2.length F.u.2.1, .slice F.x.1 F.x.2.2.length F.x.2.1] 34)).alloc (.cells #[.slice none 0 0, .map none, .slice none 0 0, .map none] 84)).alloc (.map #[] 0)).alloc (.map #[] 0)) (.cells #[.slice ao al.length ac, .map (some (w.heap.size + 1 + 1)), .slice F.u.1 F.u.2.2.length F.u.2.1, .map (some (w.heap.size + 1 + 1 + 1))] 84)
  have m3 := Pl.Lm.made ((w.alloc (.cells #[.slice F.a.1 F.a.2.2.length F.a.2.1, .slice F.s.1 F.s.2.2.length F.s.2.1, .slice F.r.1 F.r.2.2.length F.r.2.1, .slice F.o.1 F.o.2.2.length F.o.2.1, .slice F.g.1 F.g.2.2.length F.g.2.1, .slice F.m.1 F.m.2.2.length F.m.2.1, .slice F.i.1 F.i.2.2.length F.i.2.1, .slice F.p.1 F.p.2.2.length F.p.2.1, .slice F.w.1 F.w.2.2.length F.w.2.1, .slice F.u.1 F.u.2.2.length F.u.2.1, .slice F.x.1 F.x.2.2.length F.x.2.1] 34)).alloc (.cells #[.slice none 0 0, .map none, .slice none 0 0, .map none] 84)) w.heap.size (by rw [z2]; omega)
  have m4 := X.Tset.made (((w.alloc (.cells #[.slice F.a.1 F.a.2.2.length F.a.2.1, .slice F.s.1 F.s.2.2.length F.s.2.1, .slice F.r.1 F.r.2.2.length F.r.2.1, .slice F.o.1 F.o.2.2.length F.o.2.1, .slice F.g.1 F.g.2.2.length F.g.2.1, .slice F.m.1 F.m.2.2.length F.m.2.1, .slice F.i.1 F.i.2.2.length F.i.2.1, .slice F.p.1 F.p.2.2.length F.p.2.1, .slice F.w.1 F.w.2.2.length F.w.2.1, .slice F.u.1 F.u.2.2.length F.u.2.1, .slice F.x.1 F.x.2.2.length F.x.2.1] 34)).alloc (.cells #[.slice none 0 0, .map none, .slice none 0 0, .map none] 84)).alloc (.map #[] 0))
  have k34 : Below (((w.alloc (.cells #[.slice F.a.1 F.a.2.2.length F.a.2.1, .slice F.s.1 F.s.2.2.length F.s.2.1, .slice F.r.1 F.r.2.2.length F.r.2.1, .slice F.o.1 F.o.2.2.length F.o.2.1, .slice F.g.1 F.g.2.2.length F.g.2.1, .slice F.m.1 F.m.2.2.length F.m.2.1, .slice F.i.1 F.i.2.2.length F.i.2.1, .slice F.p.1 F.p.2.2.length F.p.2.1, .slice F.w.1 F.w.2.2.length F.w.2.1, .slice F.u.1 F.u.2.2.length F.u.2.1, .slice F.x.1 F.x.2.2.length F.x.2.1] 34)).alloc (.cells #[.slice none 0 0, .map none, .slice none 0 0, .map none] 84)).alloc (.map #[] 0)).heap.size (((w.alloc (.cells #[.slice F.a.1 F.a.2.2.length F.a.2.1, .slice F.s.1 F.s.2.2.length F.s.2.1, .slice F.r.1 F.r.2.2.length F.r.2.1, .slice F.o.1 F.o.2.2.length F.o.2.1, .slice F.g.1 F.g.2.2.length F.g.2.1, .slice F.m.1 F.m.2.2.length F.m.2.1, .slice F.i.1 F.i.2.2.length F.i.2.1, .slice F.p.1 F.p.2.2.length F.p.2.1, .slice F.w.1 F.w.2.2.length F.w.2.1, .slice F.u.1 F.u.2.2.length F.u.2.1, .slice F.x.1 F.x.2.2.length F.x.2.1] 34)).alloc (.cells #[.slice none 0 0, .map none, .slice none 0 0, .map none] 84)).alloc (.map #[] 0)) ((((w.alloc (.cells #[.slice F.a.1 F.a.2.2.length F.a.2.1, .slice F.s.1 F.s.2.2.length F.s.2.1, .slice F.r.1 F.r.2.2.length F.r.2.1, .slice F.o.1 F.o.2.2.length F.o.2.1, .slice F.g.1 F.g.2.2.length F.g.2.1, .slice F.m.1 F.m.2.2.length F.m.2.1, .slice F.i.1 F.i.2.2.length F.i.2.1, .slice F.p.1 F.p.2.2.length F.p.2.1, .slice F.w.1 F.w.2.2.length F.w.2.1, .slice F.u.1 F.u.2.2.length F.u.2.1, .slice F.x.1 F.x.2.2.length F.x.2.1] 34)).alloc (.cells #[.slice none 0 0, .map none, .slice none 0 0, .map none] 84)).alloc (.map #[] 0)).alloc (.map #[] 0)) := (Below.refl _ _).alloc (Nat.le_refl _) _
  have k45 : Below ((((w.alloc (.cells #[.slice F.a.1 F.a.2.2.length F.a.2.1, .slice F.s.1 F.s.2.2.length F.s.2.1, .slice F.r.1 F.r.2.2.length F.r.2.1, .slice F.o.1 F.o.2.2.length F.o.2.1, .slice F.g.1 F.g.2.2.length F.g.2.1, .slice F.m.1 F.m.2.2.length F.m.2.1, .slice F.i.1 F.i.2.2.length F.i.2.1, .slice F.p.1 F.p.2.2.length F.p.2.1, .slice F.w.1 F.w.2.2.length F.w.2.1, .slice F.u.1 F.u.2.2.length F.u.2.1, .slice F.x.1 F.x.2.2.length F.x.2.1] 34)).alloc (.cells #[.slice none 0 0, .map none, .slice none 0 0, .map none] 84)).alloc (.map #[] 0)).alloc (.map #[] 0)).heap.size ((((w.alloc (.cells #[.slice F.a.1 F.a.2.2.length F.a.2.1, .slice F.s.1 F.s.2.2.length F.s.2.1, .slice F.r.1 F.r.2.2.length F.r.2.1, .slice F.o.1 F.o.2.2.length F.o.2.1, .slice F.g.1 F.g.2.2.length F.g.2.1, .slice F.m.1 F.m.2.2.length F.m.2.1, .slice F.i.1 F.i.2.2.length F.i.2.1, .slice F.p.1 F.p.2.2.length F.p.2.1, .slice F.w.1 F.w.2.2.length F.w.2.1, .slice F.u.1 F.u.2.2.length F.u.2.1, .slice F.x.1 F.x.2.2.length F.x.2.1] 34)).alloc (.cells #[.slice none 0 0, .map none, .slice none 0 0, .map none] 84)).alloc (.map #[] 0)).alloc (.map #[] 0)) (((((w.alloc (.cells #[.slice F.a.1 F.a.2.2.length F.a.2.1, .slice F.s.1 F.s.2.2.length F.s.2.1, .slice F.r.1 F.r.2.2.length F.r.2.1, .slice F.o.1 F.o.2.2.length F.o.2.1, .slice F.g.1 F.g.2.2.length F.g.2.1, .slice F.m.1 F.m.2.2.length F.m.2.1, .slice F.i.1 F.i.2.2.length F.i.2.1, .slice F.p.1 F.p.2.2.length F.p.2.1, .slice F.w.1 F.w.2.2.length F.w.2.1, .slice F.u.1 F.u.2.2.length F.u.2.1, .slice F.x.1 F.x.2.2.length F.x.2.1] 34)).alloc (.cells #[.slice none 0 0, .map none, .slice none 0 0, .map none] 84)).alloc (.map #[] 0)).alloc (.map #[] 0)).alloc (.cells #[.slice ao al.length ac, .map (some (w.heap.size + 1 + 1)), .slice F.u.1 F.u.2.2.length F.u.2.1, .map (some (w.heap.size + 1 + 1 + 1))] 84)) := (Below.refl _ _).alloc (Nat.le_refl _) _
  have m3' := (m3.below k34).below k45
  have m4' := m4.below k45
  rw [z1] at a2
  rw [z4] at a5
  rw [z2] at m3'
  rw [z3] at m4'
  refine ⟨⟨b4, ?_, ?_, a5⟩, m3', m4'⟩
  · exact (Below.heap_alloc _ _ _ (by rw [z4]; omega)).trans ((Below.heap_alloc _ _ _ (by rw [z3]; omega)).trans ((Below.heap_alloc _ _ _ (by rw [z2]; omega)).trans ((Below.heap_alloc _ _ _ (by rw [z1]; omega)).trans a1)))
  · exact (Below.heap_alloc _ _ _ (by rw [z4]; omega)).trans ((Below.heap_alloc _ _ _ (by rw [z3]; omega)).trans ((Below.heap_alloc _ _ _ (by rw [z2]; omega)).trans a2))
set_option maxRecDepth 100000 in
set_option maxHeartbeats 4000000 in
theorem read_any (F : Pf) (ao : Option Addr) (ac : Nat) (al : List ByteArray) (w : World) (h : F.In w) (hs : F.Small) (ha : S.Ints ao al w) (hac : al.length ≤ ac) (hal : al.length ≤ 1048576) (hak : ∀ a ∈ al, S.okk a) (hxk : ∀ t ∈ F.x.2.2, X.okk t) : Calls Try.prog 62 #[.agg #[.slice F.a.1 F.a.2.2.length F.a.2.1, .slice F.s.1 F.s.2.2.length F.s.2.1, .slice F.r.1 F.r.2.2.length F.r.2.1, .slice F.o.1 F.o.2.2.length F.o.2.1, .slice F.g.1 F.g.2.2.length F.g.2.1, .slice F.m.1 F.m.2.2.length F.m.2.1, .slice F.i.1 F.i.2.2.length F.i.2.1, .slice F.p.1 F.p.2.2.length F.p.2.1, .slice F.w.1 F.w.2.2.length F.w.2.1, .slice F.u.1 F.u.2.2.length F.u.2.1, .slice F.x.1 F.x.2.2.length F.x.2.1], .slice ao al.length ac] w fun e w' => ReadIs F ao ac al w e w' := by
  have hmm := @run_makeMap Try.prog
  have H := hide' h
  have HA := hide' ha
  have HK := hide' hak
  have HX := hide' hxk
  have hal64 : (al.length : Int) ≤ 1048576 := by omega
  have hxl : (F.x.2.2.length : Int) ≤ 1048576 := by have := hs.x; omega
  have hx6 : F.x.2.2.length ≤ 1048576 := hs.x
  clear h hs ha hak hxk
  go_enter Try.func62, Try.ntmps62
  go_wp2_with fail
  have X0 : Hid ((Rx F ao ac al w.heap.size (w.heap.size + 1) (w.heap.size + 1 + 1 + 1 + 1) (w.heap.size + 1 + 1) (w.heap.size + 1 + 1 + 1) w (((((w.alloc (.cells #[.slice F.a.1 F.a.2.2.length F.a.2.1, .slice F.s.1 F.s.2.2.length F.s.2.1, .slice F.r.1 F.r.2.2.length F.r.2.1, .slice F.o.1 F.o.2.2.length F.o.2.1, .slice F.g.1 F.g.2.2.length F.g.2.1, .slice F.m.1 F.m.2.2.length F.m.2.1, .slice F.i.1 F.i.2.2.length F.i.2.1, .slice F.p.1 F.p.2.2.length F.p.2.1, .slice F.w.1 F.w.2.2.length F.w.2.1, .slice F.u.1 F.u.2.2.length F.u.2.1, .slice F.x.1 F.x.2.2.length F.x.2.1] 34)).alloc (.cells #[.slice none 0 0, .map none, .slice none 0 0, .map none] 84)).alloc (.map #[] 0)).alloc (.map #[] 0)).alloc (.cells #[.slice ao al.length ac, .map (some (w.heap.size + 1 + 1)), .slice F.u.1 F.u.2.2.length F.u.2.1, .map (some (w.heap.size + 1 + 1 + 1))] 84)) ∧ Pl.Lm (w.heap.size + 1 + 1) w.heap.size [] (fun _ => none) (((((w.alloc (.cells #[.slice F.a.1 F.a.2.2.length F.a.2.1, .slice F.s.1 F.s.2.2.length F.s.2.1, .slice F.r.1 F.r.2.2.length F.r.2.1, .slice F.o.1 F.o.2.2.length F.o.2.1, .slice F.g.1 F.g.2.2.length F.g.2.1, .slice F.m.1 F.m.2.2.length F.m.2.1, .slice F.i.1 F.i.2.2.length F.i.2.1, .slice F.p.1 F.p.2.2.length F.p.2.1, .slice F.w.1 F.w.2.2.length F.w.2.1, .slice F.u.1 F.u.2.2.length F.u.2.1, .slice F.x.1 F.x.2.2.length F.x.2.1] 34)).alloc (.cells #[.slice none 0 0, .map none, .slice none 0 0, .map none] 84)).alloc (.map #[] 0)).alloc (.map #[] 0)).alloc (.cells #[.slice ao al.length ac, .map (some (w.heap.size + 1 + 1)), .slice F.u.1 F.u.2.2.length F.u.2.1, .map (some (w.heap.size + 1 + 1 + 1))] 84)) ∧ X.Tset (w.heap.size + 1 + 1 + 1) [] (((((w.alloc (.cells #[.slice F.a.1 F.a.2.2.length F.a.2.1, .slice F.s.1 F.s.2.2.length F.s.2.1, .slice F.r.1 F.r.2.2.length F.r.2.1, .slice F.o.1 F.o.2.2.length F.o.2.1, .slice F.g.1 F.g.2.2.length F.g.2.1, .slice F.m.1 F.m.2.2.length F.m.2.1, .slice F.i.1 F.i.2.2.length F.i.2.1, .slice F.p.1 F.p.2.2.length F.p.2.1, .slice F.w.1 F.w.2.2.length F.w.2.1, .slice F.u.1 F.u.2.2.length F.u.2.1, .slice F.x.1 F.x.2.2.length F.x.2.1] 34)).alloc (.cells #[.slice none 0 0, .map none, .slice none 0 0, .map none] 84)).alloc (.map #[] 0)).alloc (.map #[] 0)).alloc (.cells #[.slice ao al.length ac, .map (some (w.heap.size + 1 + 1)), .slice F.u.1 F.u.2.2.length F.u.2.1, .map (some (w.heap.size + 1 + 1 + 1))] 84))) ∧ (w.heap.size + 1 + 1 ≠ w.heap.size + 1 + 1 + 1) ∧ w.heap.size ≤ w.heap.size + 1 ∧ w.heap.size ≤ w.heap.size + 1 + 1 + 1 ∧ w.heap.size + 1 ≠ w.heap.size + 1 + 1 + 1 + 1) := ⟨Rx.start F ao ac al w, by omega, by omega, by omega, by omega⟩
  generalize ((((w.alloc (.cells #[.slice F.a.1 F.a.2.2.length F.a.2.1, .slice F.s.1 F.s.2.2.length F.s.2.1, .slice F.r.1 F.r.2.2.length F.r.2.1, .slice F.o.1 F.o.2.2.length F.o.2.1, .slice F.g.1 F.g.2.2.length F.g.2.1, .slice F.m.1 F.m.2.2.length F.m.2.1, .slice F.i.1 F.i.2.2.length F.i.2.1, .slice F.p.1 F.p.2.2.length F.p.2.1, .slice F.w.1 F.w.2.2.length F.w.2.1, .slice F.u.1 F.u.2.2.length F.u.2.1, .slice F.x.1 F.x.2.2.length F.x.2.1] 34)).alloc (.cells #[.slice none 0 0, .map none, .slice none 0 0, .map none] 84)).alloc (.map #[] 0)).alloc (.map #[] 0)).alloc (.cells #[.slice ao al.length ac, .map (some (w.heap.size + 1 + 1)), .slice F.u.1 F.u.2.2.length F.u.2.1, .map (some (w.heap.size + 1 + 1 + 1))] 84) = V0 at *
  obtain ⟨q2, hq2⟩ : ∃ q2, q2 = w.heap.size := ⟨_, rfl⟩
  generalize w.heap.size + 1 + 1 + 1 + 1 = q5 at *
  generalize w.heap.size + 1 + 1 + 1 = qx at *
  generalize w.heap.size + 1 + 1 = qp at *
  generalize w.heap.size + 1 = q4 at *
  have X1 : Hid ((Rx F ao ac al q2 q4 q5 qp qx w V0 ∧ Pl.Lm qp w.heap.size [] (fun _ => none) V0 ∧ X.Tset qx [] V0) ∧ (qp ≠ qx) ∧ w.heap.size ≤ q4 ∧ w.heap.size ≤ qx ∧ q4 ≠ q5) := by rw [hq2]; exact X0
  clear X0
  rw [← hq2]
  clear hq2
  have HN := hide' X1.out.2
  go_loopw [18] (fun iv wx => ∃ (i : Nat) (f : ByteArray → Option V3), iv = .int .i64 (i : Int) ∧ i ≤ al.length ∧ Hid (Rx F ao ac al q2 q4 q5 qp qx w wx ∧ Pl.Lm qp w.heap.size (al.take i) f wx ∧ X.Tset qx [] wx)) (fun iv _ => al.length - (intOf iv).toNat)
  case atStart => exact ⟨0, _, rfl, Nat.zero_le _, X1.out.1⟩
  case round =>
    obtain ⟨i, f, rfl, hil, HM⟩ := hrel
    clear X1
    by_cases hlt : i < al.length
    · have hlt' : (i : Int) < (al.length : Int) := by omega
      obtain ⟨a, ha⟩ : ∃ a, al[i]? = some a := ⟨_, List.getElem?_eq_getElem hlt⟩
      obtain ⟨ab, off, hao, hab, x0⟩ := HA.out.at ha
      have d0 := (HM.out.1.b.cell (p := ⟨ab, off + i, none⟩) hab).trans x0
      have hak : Hid (S.okk a) := HK.out a (List.mem_of_getElem? ha)
      have htk : Hid (al.take (i + 1) = al.take i ++ [a]) := by show _ = _; rw [List.take_add_one, ha]; rfl
      have hqi : Hid ((al.take i).length = i) := by show _ = _; rw [List.length_take]; omega
      have c5 : wr.cell? ⟨q5, 1, none⟩ = some (.map (some qp)) := by rw [Lib.cell_of_heap HM.out.1.h5]; rfl
      have hq5 : q5 < wr.heap.size := lt_of_heap HM.out.1.h5
      have hwV : w.heap.size ≤ wr.heap.size := HM.out.1.b.size
      subst hao
      generalize al.take i = qs at *
      obtain ⟨bo, l, c, hval, hll, hrow0, hcase⟩ := HM.out.2.1.row a
      have hkd : ∀ j, I.At bo j → j ≠ q5 := fun j r => by obtain ⟨cur, k⟩ := Pl.kindI hrow0 r; exact cells_ne k HM.out.1.h5 (by decide)
      have hkp : Hid (∀ j, I.At bo j → j ≠ qp) := fun j r => by obtain ⟨cur, k⟩ := Pl.kindI hrow0 r; obtain ⟨D, hm, _⟩ := HM.out.2.1.map; exact map_ne k hm
      have hqp5 : q5 ≠ qp := by obtain ⟨D, hm, _⟩ := HM.out.2.1.map; exact map_ne HM.out.1.h5 hm
      obtain ⟨D, hown, hD⟩ := HM.out.2.1.map
      have HD := hide' (And.intro hown hD)
      have Hval := hide' hval
      have hrow : wr.ownsRow w.heap.size 3 1 (.slice bo l c) l ((Pl.plc qs a).flatMap I.cells) := by have r := hrow0; unfold I.RowI at r; rw [← hll] at r; exact r
      have Hrow := hide' hrow0
      have hl6 : Hid (l ≤ 1048576) := by have := Pl.plc_len qs a; have := hqi.out; show _ ≤ _; omega
      have B1 : Hid (l + 1 ≤ maxLen) := by have := hl6.out; show _ ≤ _; unfold maxLen; omega
      have B2 : Hid ((l + 1) * 8 ≤ 140737488355328) := by have := hl6.out; show _ ≤ _; omega
      have hqn : Hid (qs.length < maxLen) := by have := hqi.out; show _ < _; unfold maxLen; omega
      have r0 := HM.out.2.1.run hak.out
      have r1 : (Instr.lookup 81 (.map (some qp)) (.string a) false).run Try.prog wr.drew = .ok (val (f a)) wr.drew := (HM.out.2.1.turn ((Turn.refl (fun _ => False) wr).drew) id (fun _ _ => id)).run hak.out
      have r2a : ∀ o, (Instr.lookup 81 (.map (some qp)) (.string a) false).run Try.prog (wr.alloc o).drew = .ok (val (f a)) (wr.alloc o).drew := fun o => (HM.out.2.1.turn (((Turn.refl (fun _ => False) wr).alloc o).drew) id (fun _ _ => id)).run hak.out
      rw [hval] at r0 r1
      have r2 : ∀ o, (Instr.lookup 81 (.map (some qp)) (.string a) false).run Try.prog (wr.alloc o).drew = .ok (.slice bo l c) (wr.alloc o).drew := fun o => by rw [← hval]; exact r2a o
      clear r2a
      obtain ⟨i0, hi, hz0, hz1, hz2⟩ := info_parts I.infoE
      have Hll := hide' hll
      clear hown hD hval hrow0 hcase hll ha x0 hab
      go_wp2_with fail
      go_region_held3 (fun w' => w'.cell? ⟨q5, 1, none⟩ = some (.map (some qp))) (first | go_keep | exact k30 | exact k20) (first
        | (refine step_append_lies _ (by rfl) _ _ 76 (by rfl) w.heap.size 3 i0 (.int .i64 0) 1 8 Try.underlying76 hi hz0 hz1 hz2 rfl (by decide) _ l ((Pl.plc qs a).flatMap I.cells) (by rfl) (by exact (World.ownsRow.alloc hrow _)) ⟨wr.heap.size, 0, none⟩ 1 1 [.int .i64 (i : Int)] (by rfl) (by rfl) (by exact cell_one_new _ _ _) (by simp [Value.oneCell']) (by decide) B1.out B2.out (by simp; omega) (wr.heap.size + 1) (by simp) ?_; intro g2 cap2 w2 hrow1 hgrow0 hat1 hlt1; have hgrow : (wr.alloc (.cells #[.int .i64 (i : Int)] 3)).grownBy w2 (Value.slice bo l c).ownBlock := ⟨hgrow0.os, hgrow0.tape, hgrow0.output, hgrow0.size, hgrow0.block⟩; clear hgrow0; have gr := grownI Hrow.out Hll.out.symm hrow1 hgrow hat1; have k20 : w2.cell? ⟨q5, 1, none⟩ = some (.map (some qp)) := (gr.2.1.cell (p := ⟨q5, 1, none⟩) hq5 (fun r => hkd _ r rfl)).trans c5; have hown2 : w2.ownsMap Try.prog 9 sE qp qs.length D := gr.2.1.map HD.out.1 (fun r => hkp.out _ r rfl); have hq52 : q5 < w2.heap.size := Nat.lt_of_lt_of_le hq5 gr.2.1.size; have G2 := hide' gr; clear hrow1 hgrow hat1 hlt1 gr; obtain ⟨w3, hrun3, hown3, hg3⟩ := hown2.update S.law Try.underlying81 hqn.out (S.hkey hak.out) (show sE (.slice (some ⟨g2, 0, none⟩) (l + 1) cap2) = some (dat (some (g2, l + 1, cap2)), []) from rfl); have t3 : Turn (fun j => j = qp) w2 w3 := ⟨hg3.os, hg3.tape, hg3.output, hg3.size, fun k hk hne => hg3.block k hk (by simpa using hne)⟩; have k30 : w3.cell? ⟨q5, 1, none⟩ = some (.map (some qp)) := (t3.cell (p := ⟨q5, 1, none⟩) hq52 hqp5).trans k20; have G3 := hide' (And.intro hown3 t3); clear hown3 hg3 t3 hown2))
      all_goals go_wp2_with fail
      all_goals
        have hput := HM.out.2.1.put hak.out Hval.out (by rw [hqi.out]; exact G2.out.1) G2.out.2.1 G2.out.2.2 HD.out.2 HD.out.1.isMap G3.out.1 G3.out.2 Hll.out
        have hst := HM.out.1.step HM.out.2.1 HM.out.2.2 HN.out.1 Hrow.out G2.out.2.1 G3.out.2
        exact ⟨⟨i + 1, _, by go_num, by omega, hst.1, by rw [htk.out]; exact hput, hst.2⟩, by simp [intOf]; omega⟩
    · have hin : al.length = i := by omega
      have hlt' : ¬ (i : Int) < (al.length : Int) := by omega
      subst hin
      have HM2 : Hid (Rx F ao ac al q2 q4 q5 qp qx w wr ∧ Pl.Lm qp w.heap.size al f wr ∧ X.Tset qx [] wr) := by have q := HM.out; rw [List.take_length] at q; exact q
      clear HM
      have IN := hide' (H.out.below HM2.out.1.b)
      have cx := IN.out.x.2.1
      have e2 : wr.cell? ⟨q2, 10, none⟩ = some (.slice F.x.1 F.x.2.2.length F.x.2.1) := by rw [Lib.cell_of_heap HM2.out.1.h2]; rfl
      go_wp2_with fail
      go_loopw [37] (fun jv wx => ∃ (j : Nat), jv = .int .i64 (j : Int) ∧ j ≤ F.x.2.2.length ∧ Hid (Rx F ao ac al q2 q4 q5 qp qx w wx ∧ Pl.Lm qp w.heap.size al f wx ∧ X.Tset qx (F.x.2.2.take j) wx)) (fun jv _ => F.x.2.2.length - (intOf jv).toNat)
      case atStart => exact ⟨0, rfl, Nat.zero_le _, HM2⟩
      case round =>
        obtain ⟨j, rfl, hjl, HM⟩ := hrel
        clear HM2 IN e2
        by_cases hjt : j < F.x.2.2.length
        · have hjt' : (j : Int) < (F.x.2.2.length : Int) := by omega
          obtain ⟨z, hz⟩ : ∃ z, F.x.2.2[j]? = some z := ⟨_, List.getElem?_eq_getElem hjt⟩
          obtain ⟨y, off, hy, _, d1, d2, d3⟩ := (H.out.below HM.out.1.b).x.1.at hz
          have hzk : Hid (X.okk z) := HX.out z (List.mem_of_getElem? hz)
          have htk : Hid (F.x.2.2.take (j + 1) = F.x.2.2.take j ++ [z]) := by show _ = _; rw [List.take_add_one, hz]; rfl
          have hzl : Hid ((F.x.2.2.take j).length < maxLen) := by show _ < _; rw [List.length_take]; unfold maxLen; omega
          obtain ⟨z1, z2, z3⟩ := z
          simp only at d1 d2 d3
          have hbV : Below wr.heap.size wr (wr.alloc (.cells #[.string z1, .string z2, .string z3] 36)) := (Below.refl _ _).alloc (Nat.le_refl _) _
          have TT := turn_below (S := fun _ => False) hbV
          have MV : Hid (Rx F ao ac al q2 q4 q5 qp qx w (wr.alloc (.cells #[.string z1, .string z2, .string z3] 36)) ∧ Pl.Lm qp w.heap.size al f (wr.alloc (.cells #[.string z1, .string z2, .string z3] 36)) ∧ X.Tset qx (F.x.2.2.take j) (wr.alloc (.cells #[.string z1, .string z2, .string z3] 36))) := ⟨HM.out.1.turn TT id id id (fun _ q => q.elim), HM.out.2.1.below hbV, HM.out.2.2.below hbV⟩
          have e5 : (wr.alloc (.cells #[.string z1, .string z2, .string z3] 36)).cell? ⟨q5, 3, none⟩ = some (.map (some qx)) := by rw [Lib.cell_of_heap MV.out.1.h5]; rfl
          have e0 : (wr.alloc (.cells #[.string z1, .string z2, .string z3] 36)).cell? ⟨wr.heap.size, 0, none⟩ = some (.string z1) := by rw [Lib.cell_of_heap (heap_alloc_new wr _)]; rfl
          have e1 : (wr.alloc (.cells #[.string z1, .string z2, .string z3] 36)).cell? ⟨wr.heap.size, 1, none⟩ = some (.string z2) := by rw [Lib.cell_of_heap (heap_alloc_new wr _)]; rfl
          have e2 : (wr.alloc (.cells #[.string z1, .string z2, .string z3] 36)).cell? ⟨wr.heap.size, 2, none⟩ = some (.string z3) := by rw [Lib.cell_of_heap (heap_alloc_new wr _)]; rfl
          rw [hy]
          obtain ⟨n, D, hn, hown, hh⟩ := id MV.out.2.2
          have hput := hide' (X.has_put hh hown.isMap hzk.out)
          have Hown := hide' hown
          have hnm : Hid (n < maxLen) := by have := hzl.out; show _ < _; omega
          have Hn := hide' hn
          clear hh hown hn hbV TT HM hy hz
          go_wp2_with (at_mapUpdate; refine wpList_mapUpdate_own _ rfl _ _ _ 82 rfl 36 107 X.law Try.underlying82 unitElem qx n D rfl Hown.out hnm.out _ _ _ rfl rfl (X.hkey hzk.out) _ [] unitElem_mk ?_; intro w6 hown6 hg6; have G6 := hide' (And.intro hown6 hg6); clear hown6 hg6)
          have t6 : Turn (fun q => q = qx) (wr.alloc (.cells #[.string z1, .string z2, .string z3] 36)) w6 := ⟨G6.out.2.os, G6.out.2.tape, G6.out.2.output, G6.out.2.size, fun k hk hne => G6.out.2.block k hk (by simpa using hne)⟩
          have hm1 : Rx F ao ac al q2 q4 q5 qp qx w w6 := MV.out.1.turn t6 (map_ne MV.out.1.h2 Hown.out) (map_ne MV.out.1.h4 Hown.out) (map_ne MV.out.1.h5 Hown.out) (fun j e => by rw [e]; exact HN.out.2.2.1)
          have hm2 : Pl.Lm qp w.heap.size al f w6 := MV.out.2.1.turn t6 HN.out.1 (fun j r e => by
            obtain ⟨k, ⟨g, l, c⟩, e1, e2⟩ := r
            obtain ⟨cur, kk⟩ := Pl.kindI (MV.out.2.1.each k g l c e1).2 ⟨_, rfl, rfl⟩
            exact map_ne kk Hown.out (e2.symm.trans e))
          exact ⟨⟨j + 1, by go_num, by omega, hm1, hm2, n + 1, _, by rw [htk.out, List.length_append]; exact Nat.add_le_add Hn.out (Nat.le_refl 1), G6.out.1, by rw [htk.out]; exact hput.out⟩, by simp [intOf]; omega⟩
        · have hjn : F.x.2.2.length = j := by omega
          have hjt' : ¬ (j : Int) < (F.x.2.2.length : Int) := by omega
          subst hjn
          have HM3 : Hid (Rx F ao ac al q2 q4 q5 qp qx w wr ∧ Pl.Lm qp w.heap.size al f wr ∧ X.Tset qx F.x.2.2 wr) := by have q := HM.out; rw [List.take_length] at q; exact q
          clear HM
          have SS := hide' (sto4 HM3.out.1.h4)
          obtain ⟨a0, c0⟩ := SS.out.c0
          have g0 := SS.out.f0
          obtain ⟨a1, c1⟩ := SS.out.c1 (.slice ao al.length ac)
          have g1 := SS.out.f1 (.slice ao al.length ac)
          obtain ⟨a2, c2⟩ := SS.out.c2 (.slice ao al.length ac) (.map (some qp))
          have g2 := SS.out.f2 (.slice ao al.length ac) (.map (some qp))
          obtain ⟨a3, c3⟩ := SS.out.c3 (.slice ao al.length ac) (.map (some qp)) (.slice F.u.1 F.u.2.2.length F.u.2.1)
          have g3 := SS.out.f3 (.slice ao al.length ac) (.map (some qp)) (.slice F.u.1 F.u.2.2.length F.u.2.1)
          have tH := SS.out.fin (.slice ao al.length ac) (.map (some qp)) (.slice F.u.1 F.u.2.2.length F.u.2.1) (.map (some qx))
          have tT := SS.out.tt (.slice ao al.length ac) (.map (some qp)) (.slice F.u.1 F.u.2.2.length F.u.2.1) (.map (some qx))
          have s0 : wr.cell? ⟨q5, 0, none⟩ = some (.slice ao al.length ac) := by rw [Lib.cell_of_heap HM3.out.1.h5]; rfl
          have s1 : wr.cell? ⟨q5, 1, none⟩ = some (.map (some qp)) := by rw [Lib.cell_of_heap HM3.out.1.h5]; rfl
          have s2 : wr.cell? ⟨q5, 2, none⟩ = some (.slice F.u.1 F.u.2.2.length F.u.2.1) := by rw [Lib.cell_of_heap HM3.out.1.h5]; rfl
          have s3 : wr.cell? ⟨q5, 3, none⟩ = some (.map (some qx)) := by rw [Lib.cell_of_heap HM3.out.1.h5]; rfl
          have hfin : Hid (ReadIs F ao ac al w (.returned (.agg #[.slice ao al.length ac, .map (some qp), .slice F.u.1 F.u.2.2.length F.u.2.1, .map (some qx)])) ((((wr.setCell ⟨q4, 0, none⟩ (.slice ao al.length ac)).setCell ⟨q4, 1, none⟩ (.map (some qp))).setCell ⟨q4, 2, none⟩ (.slice F.u.1 F.u.2.2.length F.u.2.1)).setCell ⟨q4, 3, none⟩ (.map (some qx)))) := by
            obtain ⟨D, hm, _⟩ := HM3.out.2.1.map
            obtain ⟨n, D2, _, hx, _⟩ := id HM3.out.2.2
            refine ⟨qp, qx, f, rfl, HM3.out.2.1.turn tT (fun e => map_ne HM3.out.1.h4 hm e.symm) (fun j r e => ?_), HM3.out.2.2.turn tT (fun e => map_ne HM3.out.1.h4 hx e.symm), HN.out.2.2.1, HM3.out.1.b.trans (below_own tT (fun j e => by rw [e]; exact HN.out.2.1) HM3.out.1.b.size)⟩
            obtain ⟨k, ⟨g, l, c⟩, e1, e2⟩ := r
            obtain ⟨cur, kk⟩ := Pl.kindI (HM3.out.2.1.each k g l c e1).2 ⟨_, rfl, rfl⟩
            exact cells_ne kk HM3.out.1.h4 (by decide) (e2.symm.trans e)
          clear SS tT HM3
          go_wp2_with fail
          (try simp only [Exit.inBlock, Exit.then])
          refine bodyPost_ret (results_cell_row rfl _ _ q4 84 #[.slice ao al.length ac, .map (some qp), .slice F.u.1 F.u.2.2.length F.u.2.1, .map (some qx)] (0, 0) _ rfl tH Try.underlying84 rfl (by kernel_rfl)) rfl ?_
          exact hfin.out
end U
end Go.Proofs.Ytdhmommfmmiieaa
