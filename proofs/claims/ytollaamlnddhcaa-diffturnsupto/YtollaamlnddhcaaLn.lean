import Derived.Test.YtollaamlnddhcaaTurn
import Derived.Test.YtollaamlnddhcaaBfP
import Derived.Test.YtollaamlnddhcaaProg
import Derived.WalkKit
import Derived.WalkLawsBesides
import Derived.WalkSpells
import Derived.Outline
import Derived.BigQuiet
import Derived.OwnWalk
import Derived.Recover
import Derived.Defers
set_option linter.unusedVariables false
set_option linter.unusedSimpArgs false
namespace Go.Proofs.Ytollaamlnddhcaa
open Go.RowKit Go.Maps
theorem hide' {p : Prop} (h : p) : Hid p := h
theorem turn_below {S : Nat → Prop} {w w' : World} (b : Below w.heap.size w w') : Turn S w w' := ⟨b.os, b.tape, b.output, b.size, fun k hk _ => b.block k hk⟩
theorem lt_of_heap {w : World} {b : Nat} {o : Obj} (h : w.heap[b]? = some o) : b < w.heap.size := (Array.getElem?_eq_some_iff.1 h).1
section
variable {κ : Type} [DecidableEq κ]
/-- BLOCK x IS A LINE: its things zs lie in a row of its own; its map (block bm) has just ms. -/
structure Ln (P : Program) (T K e size : Nat) (cells : κ → List Value) (lit : κ → Lit) (ok : κ → Prop) (B x bm : Nat) (ao : Option Addr) (cap : Nat) (zs ms : List κ) (w : World) : Prop where
  hx : B ≤ x
  hm : B ≤ bm
  ne : x ≠ bm
  hb : w.heap[x]? = some (.cells #[.slice ao zs.length cap, .map (some bm)] T (0, 0))
  row : w.ownsRow B e size (.slice ao zs.length cap) zs.length (zs.flatMap cells)
  oks : ∀ z ∈ zs, ok z
  map : ∃ n D, n ≤ ms.length ∧ w.ownsMap P K unitElem bm n D ∧ ∀ k, ok k → Maps.has (D : DataW Unit) (lit k) = isIn ms k
variable {P : Program} {T K e size : Nat} {cells : κ → List Value} {lit : κ → Lit} {ok : κ → Prop} {B x bm : Nat} {ao : Option Addr} {cap : Nat} {zs ms : List κ} {w w' : World}
theorem Ln.kept {S : Nat → Prop} (h : Ln P T K e size cells lit ok B x bm ao cap zs ms w) (t : Turn S w w') (h1 : ¬ S x) (h2 : ¬ S bm) (h3 : ∀ a, ao = some a → ¬ S a.block) : Ln P T K e size cells lit ok B x bm ao cap zs ms w' := by
  obtain ⟨n, D, hn, hown, hh⟩ := h.map
  exact ⟨h.hx, h.hm, h.ne, (t.block x (lt_of_heap h.hb) h1).trans h.hb, t.row h.row (fun g hg => by cases ao with | none => cases hg | some a => cases hg; exact h3 a rfl), h.oks, n, D, hn, t.map hown h2, hh⟩
theorem Ln.lt (h : Ln P T K e size cells lit ok B x bm ao cap zs ms w) : x < w.heap.size := lt_of_heap h.hb
theorem Ln.ltm (h : Ln P T K e size cells lit ok B x bm ao cap zs ms w) : bm < w.heap.size := by
  obtain ⟨n, D, hn, hown, hh⟩ := h.map
  exact hown.lt
theorem Ln.c0 (h : Ln P T K e size cells lit ok B x bm ao cap zs ms w) : w.cell? ⟨x, 0, none⟩ = some (.slice ao zs.length cap) := by rw [Lib.cell_of_heap h.hb]; rfl
theorem Ln.c1 (h : Ln P T K e size cells lit ok B x bm ao cap zs ms w) : w.cell? ⟨x, 1, none⟩ = some (.map (some bm)) := by rw [Lib.cell_of_heap h.hb]; rfl
theorem Ln.f0 (h : Ln P T K e size cells lit ok B x bm ao cap zs ms w) : w.frozen? ⟨x, 0, none⟩ = false := Lib.frozen_of_heap h.hb 0
/-- the line's row is no block of its head and no map -/
theorem Ln.apart (h : Ln P T K e size cells lit ok B x bm ao cap zs ms w) (hT : T ≠ e) : ∀ a, ao = some a → a.block ≠ x ∧ a.block ≠ bm ∧ B ≤ a.block ∧ a.block < w.heap.size := by
  intro a ha
  obtain ⟨n, D, hn, hown, hh⟩ := h.map
  obtain ⟨es, clock, hbm, _⟩ := hown
  rcases h.row.2 with ⟨hv, _⟩ | ⟨g, cap', cur, hv, hb, hg, _⟩
  · rw [ha] at hv; cases hv
  · rw [ha] at hv
    simp only [Value.slice.injEq, Option.some.injEq] at hv
    obtain ⟨rfl, _, _⟩ := hv
    refine ⟨fun q => ?_, fun q => ?_, hb, lt_of_heap hg⟩
    · have := h.hb; rw [← q] at this; rw [show w.heap[g]? = _ from hg] at this; cases this; exact hT rfl
    · rw [← q] at hbm; rw [show w.heap[g]? = _ from hg] at hbm; cases hbm
theorem Ln.addr (h : Ln P T K e size cells lit ok B x bm ao cap zs ms w) : ∀ a, ao = some a → a = ⟨a.block, 0, none⟩ := by
  intro a ha
  rcases h.row.2 with ⟨hv, _⟩ | ⟨g, cap', cur, hv, hb, hg, _⟩
  · rw [ha] at hv; cases hv
  · rw [ha] at hv
    simp only [Value.slice.injEq, Option.some.injEq] at hv
    obtain ⟨rfl, _, _⟩ := hv
    rfl
/-- what a line's growing may turn: its head, its map, its row -/
def Own (x bm : Nat) (ao : Option Addr) (j : Nat) : Prop := j = x ∨ j = bm ∨ ∃ a, ao = some a ∧ j = a.block
end
namespace I
theorem zeroE (w : World) : (zeroValue 114).run Try.prog w = .ok (.agg #[]) w := by kernel_rfl
def okk (k : Int) : Prop := (Lit.int .i64 k).wf = true
def lit (k : Int) : Lit := .int .i64 k
def cells (k : Int) : List Value := [.int .i64 k]
theorem law : Keyed Try.prog 3 := int_keyed Try.underlying3
theorem hkey {k : Int} (h : okk k) : keyOf Try.prog 3 (.int .i64 k) = some (lit k) := keyOf_int_mk Try.underlying3 h
theorem inj (j k : Int) (hj : okk j) (hk : okk k) (h : lit j = lit k) : j = k := by
  have a := hkey hj
  rw [h] at a
  have := law.inj a (hkey hk)
  simpa using this
theorem isKey {k : Int} (h : okk k) : WideAt.IsKeyLit (lit k) := law.key (hkey h)
theorem has_put {D : DataW Unit} {ms : List Int} (h : ∀ k, okk k → Maps.has D (lit k) = isIn ms k) (hm : IsMap D) {k : Int} (hok : okk k) : ∀ j, okk j → Maps.has (D.put (lit k) (.agg [])) (lit j) = isIn (ms ++ [k]) j := by
  intro j hj
  by_cases e : j = k
  · subst e; rw [has_put_same hm (isKey hok)]; simp [isIn]
  · rw [has_put_other (fun q => e (inj j k hj hok q)), h j hj]; simp [isIn, e]
end I
end Go.Proofs.Ytollaamlnddhcaa
