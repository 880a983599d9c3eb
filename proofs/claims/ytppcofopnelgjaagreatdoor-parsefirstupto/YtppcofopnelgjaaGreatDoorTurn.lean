import Derived.Below
import Derived.Maps.OwnSet
import Derived.Maps.OwnOps
import Derived.Deep.AppendLies
import Derived.Lib.Builder
import Derived.WalkKit
import Derived.WalkSmall
set_option linter.unusedVariables false
set_option linter.unusedSimpArgs false
namespace Go.Proofs.YtppcofopnelgjaaGreatDoor
open Go.RowKit Go.Maps

/-- WHAT MAY HAVE TURNED BETWEEN TWO WORLDS: the blocks of S, and new ones; nothing else. -/
structure Turn (S : Nat → Prop) (w w' : World) : Prop where
  os : w'.os = w.os
  tape : w'.tape = w.tape
  output : w'.output = w.output
  size : w.heap.size ≤ w'.heap.size
  block : ∀ k, k < w.heap.size → ¬ S k → w'.heap[k]? = w.heap[k]?
theorem Turn.refl (S : Nat → Prop) (w : World) : Turn S w w := ⟨rfl, rfl, rfl, Nat.le_refl _, fun _ _ _ => rfl⟩
theorem Turn.trans {S : Nat → Prop} {a b c : World} (h : Turn S a b) (k : Turn S b c) : Turn S a c :=
  ⟨k.os.trans h.os, k.tape.trans h.tape, k.output.trans h.output, Nat.le_trans h.size k.size, fun i hi hS => (k.block i (Nat.lt_of_lt_of_le hi h.size) hS).trans (h.block i hi hS)⟩
theorem Turn.mono {S S' : Nat → Prop} {a b : World} (h : Turn S a b) (hS : ∀ k, k < a.heap.size → S k → S' k) : Turn S' a b :=
  ⟨h.os, h.tape, h.output, h.size, fun i hi hn => h.block i hi (fun k => hn (hS i hi k))⟩
/-- two steps, of which the second may turn what the first has made -/
theorem Turn.then {S S' : Nat → Prop} {a b c : World} (h : Turn S a b) (k : Turn S' b c) (hS : ∀ i, i < a.heap.size → S' i → S i) : Turn S a c :=
  ⟨k.os.trans h.os, k.tape.trans h.tape, k.output.trans h.output, Nat.le_trans h.size k.size, fun i hi hn => (k.block i (Nat.lt_of_lt_of_le hi h.size) (fun q => hn (hS i hi q))).trans (h.block i hi hn)⟩
theorem Turn.alloc {S : Nat → Prop} {a w : World} (h : Turn S a w) (o : Obj) : Turn S a (w.alloc o) :=
  h.trans ⟨rfl, rfl, rfl, by simp, fun k hk _ => Below.heap_alloc _ _ _ hk⟩
theorem Turn.drew {S : Nat → Prop} {a w : World} (h : Turn S a w) : Turn S a w.drew := ⟨h.os, h.tape, h.output, h.size, h.block⟩
theorem Turn.drewN {S : Nat → Prop} {a w : World} (h : Turn S a w) (n : Nat) : Turn S a (w.drewN n) := h.trans ⟨rfl, rfl, rfl, Nat.le_refl _, fun _ _ _ => rfl⟩
theorem Turn.setCell {S : Nat → Prop} {a w : World} (h : Turn S a w) {p : Addr} (hp : p.block < a.heap.size → S p.block) (u : Value) : Turn S a (w.setCell p u) :=
  ⟨h.os, h.tape, h.output, by have := h.size; simpa [World.setCell] using this, fun k hk hn => (Below.heap_setCell _ _ _ _ (fun e => hn (by rw [e] at hk ⊢; exact hp hk))).trans (h.block k hk hn)⟩
theorem Turn.grown {S : Nat → Prop} {a w w' : World} {row : Option Nat} (h : Turn S a w) (hg : w.grownBy w' row) (hr : ∀ k, row = some k → k < a.heap.size → S k) : Turn S a w' :=
  ⟨hg.os.trans h.os, hg.tape.trans h.tape, hg.output.trans h.output, Nat.le_trans h.size hg.size, fun i hi hn => (hg.block i (Nat.lt_of_lt_of_le hi h.size) (fun e => hn (hr i e.symm hi))).trans (h.block i hi hn)⟩
theorem Turn.below {S : Nat → Prop} {B : Nat} {w w' : World} (h : Turn S w w') (hS : ∀ k, S k → B ≤ k) (hB : B ≤ w.heap.size) : Below B w w' :=
  ⟨h.os, h.tape, h.output, h.size, fun k hk => h.block k (by omega) (fun q => by have := hS k q; omega)⟩
theorem Turn.cell {S : Nat → Prop} {w w' : World} (h : Turn S w w') {p : Addr} (hl : p.block < w.heap.size) (hp : ¬ S p.block) : w'.cell? p = w.cell? p := World.cell?_of_block (w := w) (h.block p.block hl hp)
theorem Turn.row {S : Nat → Prop} {w w' : World} (h : Turn S w w') {B : Nat} {e : TypeId} {size : Nat} {v : Value} {n : Nat} {xs : List Value} (r : w.ownsRow B e size v n xs) (hn : ∀ g, v.ownBlock = some g → ¬ S g) : w'.ownsRow B e size v n xs := by
  obtain ⟨h1, h2⟩ := r
  refine ⟨h1, ?_⟩
  rcases h2 with h2 | ⟨g, cap, cur, rfl, hb, hg, rest⟩
  · exact .inl h2
  · have hlt : g < w.heap.size := (Array.getElem?_eq_some_iff.1 hg).1
    exact .inr ⟨g, cap, cur, rfl, hb, (h.block g hlt (hn g rfl)).trans hg, rest⟩
theorem Turn.map {S : Nat → Prop} {w w' : World} (h : Turn S w w') {P : Program} {k : TypeId} {R : Value → Option (DataW Unit × List MemPlace)} {b n : Nat} {D : DataW Unit} (r : w.ownsMap P k R b n D) (hn : ¬ S b) : w'.ownsMap P k R b n D := by
  have hlt := r.lt
  obtain ⟨es, clock, hb, rest⟩ := r
  exact ⟨es, clock, (h.block b hlt hn).trans hb, rest⟩

section
variable {κ : Type} [DecidableEq κ]
/-- a thing's number among the things; 0: it has none -/
def num (zs : List κ) (k : κ) : Nat := if k ∈ zs then zs.idxOf k + 1 else 0
/-- has it a number? -/
def isIn (zs : List κ) (k : κ) : Bool := decide (k ∈ zs)
theorem isIn_yes {zs : List κ} {k : κ} (h : k ∈ zs) : isIn zs k = true := by simpa [isIn] using h
theorem isIn_no {zs : List κ} {k : κ} (h : k ∉ zs) : isIn zs k = false := by simpa [isIn] using h
theorem num_nil (k : κ) : num [] k = 0 := by simp [num]
theorem num_new {zs : List κ} {k : κ} (h : k ∉ zs) : num (zs ++ [k]) k = zs.length + 1 := by
  simp [num, List.idxOf_append, h]
theorem num_other {zs : List κ} {k j : κ} (h : j ≠ k) : num (zs ++ [k]) j = num zs j := by
  unfold num
  by_cases hj : j ∈ zs
  · simp [hj, List.idxOf_append]
  · simp [hj, h]
theorem num_le (zs : List κ) (k : κ) : num zs k ≤ zs.length := by
  unfold num
  split
  · have := List.idxOf_lt_length_of_mem (by assumption : k ∈ zs); omega
  · omega
theorem num_pos {zs : List κ} {k : κ} (h : k ∈ zs) : 1 ≤ num zs k := by simp [num, h]
theorem num_zero {zs : List κ} {k : κ} (h : k ∉ zs) : num zs k = 0 := by simp [num, h]
theorem num_at {zs : List κ} {k : κ} (h : k ∈ zs) : zs[num zs k - 1]? = some k := by
  have hl := List.idxOf_lt_length_of_mem h
  simp only [num, h, if_true, Nat.add_sub_cancel]
  rw [List.getElem?_eq_getElem hl, List.getElem_idxOf]

/-- what the map holds of the things -/
def Holds (lit : κ → Lit) (ok : κ → Prop) (D : DataW Unit) (zs : List κ) : Prop :=
  ∀ k, ok k → Maps.has D (lit k) = isIn zs k ∧ D.atKey (lit k) (.lit (.int .i64 0)) = .lit (.int .i64 (num zs k : Nat))
theorem Holds.empty (lit : κ → Lit) (ok : κ → Prop) : Holds lit ok (.map []) [] := fun k _ => ⟨by simp [Maps.has, isIn], by simp [DataW.atKey, num_nil]⟩
theorem Holds.put {lit : κ → Lit} {ok : κ → Prop} {D : DataW Unit} {zs : List κ} (h : Holds lit ok D zs) (hm : IsMap D) {k : κ} (hk : k ∉ zs) (hok : ok k) (hl : WideAt.IsKeyLit (lit k)) (inj : ∀ j, ok j → lit j = lit k → j = k) :
    Holds lit ok (D.put (lit k) (.lit (.int .i64 (zs.length + 1 : Nat)))) (zs ++ [k]) := by
  intro j hj
  by_cases e : j = k
  · subst e
    exact ⟨by rw [has_put_same hm hl]; simp [isIn], by rw [atKey_put_same hm hl, num_new hk]⟩
  · have hne : lit j ≠ lit k := fun q => e (inj j hj q)
    obtain ⟨h1, h2⟩ := h j hj
    exact ⟨by rw [has_put_other hne, h1]; simp [isIn, e], by rw [atKey_put_other hne, h2, num_other e]⟩

/-- BLOCK x IS AN INDEX THAT HOLDS THE THINGS zs: its map is block bm, its things lie in a row of their own. -/
structure Ix (P : Program) (T K E e size : Nat) (cells : κ → List Value) (lit : κ → Lit) (ok : κ → Prop) (B x bm : Nat) (ao : Option Addr) (cap : Nat) (zs : List κ) (w : World) : Prop where
  hx : B ≤ x
  hm : B ≤ bm
  ne : x ≠ bm
  hb : w.heap[x]? = some (.cells #[.slice ao zs.length cap, .map (some bm)] T (0, 0))
  row : w.ownsRow B e size (.slice ao zs.length cap) zs.length (zs.flatMap cells)
  oks : ∀ z ∈ zs, ok z
  map : ∃ n D, n ≤ zs.length ∧ w.ownsMap P K (plainElem P E) bm n D ∧ Holds lit ok D zs
variable {P : Program} {T K E e size : Nat} {cells : κ → List Value} {lit : κ → Lit} {ok : κ → Prop} {B x bm : Nat} {ao : Option Addr} {cap : Nat} {zs : List κ} {w w' : World}
theorem Ix.kept {S : Nat → Prop} (h : Ix P T K E e size cells lit ok B x bm ao cap zs w) (t : Turn S w w') (h1 : ¬ S x) (h2 : ¬ S bm) (h3 : ∀ a, ao = some a → ¬ S a.block) : Ix P T K E e size cells lit ok B x bm ao cap zs w' := by
  obtain ⟨n, D, hn, hown, hh⟩ := h.map
  have hlt : x < w.heap.size := (Array.getElem?_eq_some_iff.1 h.hb).1
  exact ⟨h.hx, h.hm, h.ne, (t.block x hlt h1).trans h.hb, t.row h.row (fun g hg => by cases ao with | none => cases hg | some a => cases hg; exact h3 a rfl), h.oks, n, D, hn, t.map hown h2, hh⟩
theorem Ix.lt (h : Ix P T K E e size cells lit ok B x bm ao cap zs w) : x < w.heap.size := (Array.getElem?_eq_some_iff.1 h.hb).1
theorem Ix.ltm (h : Ix P T K E e size cells lit ok B x bm ao cap zs w) : bm < w.heap.size := by
  obtain ⟨n, D, hn, hown, hh⟩ := h.map
  exact hown.lt
theorem Ix.c0 (h : Ix P T K E e size cells lit ok B x bm ao cap zs w) : w.cell? ⟨x, 0, none⟩ = some (.slice ao zs.length cap) := by rw [Lib.cell_of_heap h.hb]; rfl
theorem Ix.c1 (h : Ix P T K E e size cells lit ok B x bm ao cap zs w) : w.cell? ⟨x, 1, none⟩ = some (.map (some bm)) := by rw [Lib.cell_of_heap h.hb]; rfl
theorem Ix.f0 (h : Ix P T K E e size cells lit ok B x bm ao cap zs w) : w.frozen? ⟨x, 0, none⟩ = false := Lib.frozen_of_heap h.hb 0
/-- the index's row is no block of its head and no map -/
theorem Ix.apart (h : Ix P T K E e size cells lit ok B x bm ao cap zs w) (hT : T ≠ e) : ∀ a, ao = some a → a.block ≠ x ∧ a.block ≠ bm ∧ B ≤ a.block ∧ a.block < w.heap.size := by
  intro a ha
  obtain ⟨n, D, hn, hown, hh⟩ := h.map
  obtain ⟨es, clock, hbm, _⟩ := hown
  rcases h.row.2 with ⟨hv, _⟩ | ⟨g, cap', cur, hv, hb, hg, _⟩
  · rw [ha] at hv; cases hv
  · rw [ha] at hv
    simp only [Value.slice.injEq, Option.some.injEq] at hv
    obtain ⟨rfl, _, _⟩ := hv
    refine ⟨fun q => ?_, fun q => ?_, hb, (Array.getElem?_eq_some_iff.1 hg).1⟩
    · have := h.hb; rw [← q] at this; rw [show w.heap[g]? = _ from hg] at this; cases this; exact hT rfl
    · rw [← q] at hbm; rw [show w.heap[g]? = _ from hg] at hbm; cases hbm
end
end Go.Proofs.YtppcofopnelgjaaGreatDoor
