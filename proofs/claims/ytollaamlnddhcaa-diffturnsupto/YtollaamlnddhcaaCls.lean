import Derived.Test.YtollaamlnddhcaaLnP
set_option linter.unusedVariables false
set_option linter.unusedSimpArgs false
namespace Go.Proofs.Ytollaamlnddhcaa
open Go.RowKit Go.Maps
namespace I
/-- what Close leaves: a list in a row of its own -/
def ClosedIs (B : Nat) (ys : List Int) (w' : World) (e : Ending) : Prop := ∃ ao cap, e = .returned (.slice ao ys.length cap) ∧ w'.ownsRow B 3 1 (.slice ao ys.length cap) ys.length (ys.flatMap cells)
theorem made_not {fo : Option Addr} {fr : List Int} {w : World} (h : Ints fo fr w) : fr ≠ [] → ∀ b off, fo = some ⟨b, off, none⟩ → ¬ Own (w.heap.size + 1) w.heap.size none b := fun hn b off q => by
  rcases h with h | ⟨b', off', h1, h2, _⟩
  · exact absurd h hn
  · rw [q] at h1; cases h1
    rintro (e | e | ⟨a, e, _⟩)
    · omega
    · omega
    · cases e
/-- what the function value nf with its boxes caps tells of a thing's turn -/
def NextIs (F : Int → List Int) (B : Nat) (A : Nat → Prop) (O : List Int → Option Nat → World → Prop) (pre : List Int) (ag : Option Nat) (k : Int) (wx : World) (e : Ending) (w' : World) : Prop :=
  ∃ to tcap ag', e = .returned (.slice to (F k).length tcap) ∧ (F k).length ≤ tcap ∧ Ints to (F k) w' ∧ O (pre ++ [k]) ag' w' ∧ Turn (fun j => A j ∨ some j = ag) wx w' ∧ (ag' = ag ∨ ∃ g, ag' = some g ∧ wx.heap.size ≤ g) ∧ (F k ≠ [] → ∀ b off, to = some ⟨b, off, none⟩ → b < B ∨ wx.heap.size ≤ b)
structure Nxt (nf : Nat) (caps : Array Value) (F : Int → List Int) (u : List Int) (B : Nat) (A : Nat → Prop) (O : List Int → Option Nat → World → Prop) : Prop where
  enters : ∀ args w, (callFunc nf args).run Try.prog w = .ok (.enter nf args) w
  low : ∀ j, A j → j < B
  lt : ∀ pre ag w, O pre ag w → ∀ j, ag = some j → j < w.heap.size
  keep : ∀ pre ag wx wy S, O pre ag wx → Turn S wx wy → (∀ j, j < wx.heap.size → S j → B ≤ j ∧ some j ≠ ag) → O pre ag wy
  call : ∀ pre ag k wx, k ∈ u → O pre ag wx → B ≤ wx.heap.size → pre.length < u.length → Calls Try.prog nf (#[.int .i64 k] ++ caps) wx fun e w' => NextIs F B A O pre ag k wx e w'
/-- what Close leaves -/
def CloseIs (F : Int → List Int) (fr : List Int) (B : Nat) (A : Nat → Prop) (O : List Int → Option Nat → World → Prop) (ag : Option Nat) (w : World) (e : Ending) (w' : World) : Prop :=
  ∃ n ao cap ag', (Bf.st F fr n).length = n ∧ e = .returned (.slice ao n cap) ∧ w'.ownsRow B 3 1 (.slice ao n cap) n ((Bf.st F fr n).flatMap cells) ∧ O (Bf.st F fr n) ag' w' ∧ Turn (fun j => A j ∨ some j = ag) w w' ∧ (ag' = ag ∨ ∃ g, ag' = some g ∧ B ≤ g) ∧ (∀ a, ao = some a → some a.block ≠ ag')
theorem flat_len (zs : List Int) : (zs.flatMap cells).length = zs.length := by
  induction zs with
  | nil => rfl
  | cons a r ih => simp [cells, ih]
theorem flat_at (zs : List Int) (j : Nat) : (zs.flatMap cells)[j]? = (zs[j]?).map (fun k => .int .i64 k) := by
  induction zs generalizing j with
  | nil => simp
  | cons a r ih => cases j with
    | zero => simp [cells]
    | succ j => simpa [cells] using ih j
theorem row_at {B : Nat} {ao : Option Addr} {cap : Nat} {zs : List Int} {w : World} (h : w.ownsRow B 3 1 (.slice ao zs.length cap) zs.length (zs.flatMap cells)) {j : Nat} {k : Int} (hj : zs[j]? = some k) : ∃ g, ao = some ⟨g, 0, none⟩ ∧ w.cell? ⟨g, j, none⟩ = some (.int .i64 k) ∧ zs.length ≤ cap ∧ B ≤ g ∧ g < w.heap.size := by
  rcases h.2 with ⟨hv, h0⟩ | ⟨g, cap', cur, hv, hb, hg, h1, h2, h3, h4⟩
  · exfalso
    have hl := (List.getElem?_eq_some_iff.1 hj).1
    omega
  · simp only [Value.slice.injEq] at hv
    obtain ⟨rfl, _, rfl⟩ := hv
    refine ⟨g, rfl, ?_, by omega, hb, lt_of_heap hg⟩
    rw [Lib.cell_of_heap hg]
    have hl := (List.getElem?_eq_some_iff.1 hj).1
    have e1 := flat_at zs j
    rw [hj, ← h4, List.getElem?_take_of_lt (by omega), Array.getElem?_toList] at e1
    exact e1
end I
end Go.Proofs.Ytollaamlnddhcaa
