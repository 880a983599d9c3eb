import Derived.Test.YtollaamlnddhcaaPlm
import Derived.Test.YtollaamlnddhcaaXrw
import Derived.ProofKit
import Derived.Deep.RegionLaw
set_option linter.unusedVariables false
set_option linter.unusedSimpArgs false
namespace Go.Proofs.Ytollaamlnddhcaa
open Go.RowKit Go.Maps
namespace X
theorem laidOutX : laidOutB Try.prog = true := by kernel_rfl
theorem cells36 : Try.prog.cellsOf 42 = 3 := by kernel_rfl
theorem cells9 : Try.prog.cellsOf 9 = 1 := by kernel_rfl
theorem row36 : 42 < Try.prog.types.size := of_decide_eq_true (by kernel_rfl)
theorem wide36 : (match Try.prog.underlying 42 with | some (.array _ _) | some (.struct _) => true | _ => false) = true := by rw [Try.underlying42]
theorem deep36 : Try.prog.keyTypeAt (Try.prog.types.size + 1) 42 = true := by kernel_rfl
theorem formed36 {c0 c1 c2 : Value} : (Value.agg #[c0, c1, c2]).formed Try.prog 42 = true := by simp [Value.formed, Try.underlying42, cells36]
set_option maxRecDepth 100000 in
theorem law : Keyed Try.prog 42 := Keyed.of_law (deep_law_laid laidOutX (m := 3) (by omega) row36 (by kernel_rfl) wide36)
def okk (k : K3) : Prop := k.1.size ≤ maxLen ∧ k.2.1.size ≤ maxLen ∧ k.2.2.size ≤ maxLen
def lit (k : K3) : Lit := (DataW.agg [.lit (.string k.1.data.toList), .lit (.string k.2.1.data.toList), .lit (.string k.2.2.data.toList)] : DataW Unit).asKey
set_option maxRecDepth 100000 in
theorem hkey {k : K3} (h : okk k) : keyOf Try.prog 42 (.agg #[.string k.1, .string k.2.1, .string k.2.2]) = some (lit k) := by
  have hd : DataW.Trod (fun _ : TypeId × Value => ()) Try.prog default 0 (fun _ => true) true 42 (.agg #[.string k.1, .string k.2.1, .string k.2.2]) (.agg [.lit (.string k.1.data.toList), .lit (.string k.2.1.data.toList), .lit (.string k.2.2.data.toList)]) [] := by
    refine ⟨4, ?_⟩
    have hr : List.range 3 = [0, 1, 2] := rfl
    simp [DataW.trod, Try.underlying42, Try.underlying9, h.1, h.2.1, h.2.2, Value.cells, cells36, cells9, hr]
  exact (keyOf_asKey deep36 wide36 formed36 hd).1
theorem inj (j k : K3) (hj : okk j) (hk : okk k) (h : lit j = lit k) : j = k := by
  have a := hkey hj
  rw [h] at a
  have := law.inj a (hkey hk)
  simp at this
  exact Prod.ext this.1 (Prod.ext this.2.1 this.2.2)
theorem isKey {k : K3} (h : okk k) : WideAt.IsKeyLit (lit k) := law.key (hkey h)
theorem has_put {D : DataW Unit} {ms : List K3} (h : ∀ k, okk k → Maps.has D (lit k) = isIn ms k) (hm : IsMap D) {k : K3} (hok : okk k) : ∀ j, okk j → Maps.has (D.put (lit k) (.agg [])) (lit j) = isIn (ms ++ [k]) j := by
  intro j hj
  by_cases e : j = k
  · subst e; rw [has_put_same hm (isKey hok)]; simp [isIn]
  · rw [has_put_other (fun q => e (inj j k hj hok q)), h j hj]; simp [isIn, e]
/-- a map of triples: just ms -/
def Tset (xb : Nat) (ms : List K3) (w : World) : Prop := ∃ n D, n ≤ ms.length ∧ w.ownsMap Try.prog 42 unitElem xb n D ∧ ∀ k, okk k → Maps.has (D : DataW Unit) (lit k) = isIn ms k
theorem Tset.turn {xb : Nat} {ms : List K3} {w w' : World} {T : Nat → Prop} (h : Tset xb ms w) (t : Turn T w w') (hT : ¬ T xb) : Tset xb ms w' := by
  obtain ⟨n, D, h1, h2, h3⟩ := h
  exact ⟨n, D, h1, t.map h2 hT, h3⟩
theorem Tset.below {xb : Nat} {ms : List K3} {w w' : World} (h : Tset xb ms w) (t : Below w.heap.size w w') : Tset xb ms w' := h.turn (turn_below (S := fun _ => False) t) id
theorem Tset.lt {xb : Nat} {ms : List K3} {w : World} (h : Tset xb ms w) : xb < w.heap.size := by obtain ⟨n, D, _, h2, _⟩ := h; exact h2.lt
theorem Tset.made (w : World) : Tset w.heap.size [] (w.alloc (.map #[] 0)) := ⟨0, .map [], Nat.le_refl _, World.ownsMap_made w Try.prog 42 _, fun k _ => rfl⟩
theorem look_set {xb : Nat} {ms : List K3} {w : World} (h : Tset xb ms w) {k : K3} (hk : okk k) : (Instr.lookup 74 (.map (some xb)) (.agg #[.string k.1, .string k.2.1, .string k.2.2]) true).run Try.prog w = .ok (.tuple #[.agg #[], .bool (isIn ms k)]) w := by
  obtain ⟨n, D, _, h2, h3⟩ := h
  obtain ⟨v, ps, hrun, hv⟩ := h2.look_ok law Try.underlying74 (S.zeroE w) unitElem_mk (hkey hk)
  obtain ⟨rfl, _⟩ := unitElem_inv hv
  rw [hrun, h3 k hk]
theorem Tset.put {xb : Nat} {ms : List K3} {w : World} (h : Tset xb ms w) (hn : ms.length < maxLen) {k : K3} (hk : okk k) : ∃ w', (Instr.mapUpdate 74 (.map (some xb)) (.agg #[.string k.1, .string k.2.1, .string k.2.2]) (.agg #[])).run Try.prog w = .ok () w' ∧ Tset xb (ms ++ [k]) w' ∧ Turn (fun j => j = xb) w w' := by
  obtain ⟨n, D, h1, h2, h3⟩ := h
  obtain ⟨w', hrun, ho, hg⟩ := h2.update law Try.underlying74 (by omega) (hkey hk) unitElem_mk
  exact ⟨w', hrun, ⟨n + 1, _, by simp; omega, ho, has_put h3 h2.isMap hk⟩, ⟨hg.os, hg.tape, hg.output, hg.size, fun j hj hne => hg.block j hj (by simpa using hne)⟩⟩
end X
end Go.Proofs.Ytollaamlnddhcaa
