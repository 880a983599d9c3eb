import Derived.Test.YtmdkgiglibfihaaQLnP
set_option linter.unusedVariables false
set_option linter.unusedSimpArgs false
namespace Go.Proofs.Ytmdkgiglibfihaa
open Go.RowKit Go.Maps
namespace Q
theorem zeroL : (zeroValue 97).run Try.prog = fun w => .ok (.agg #[.slice none 0 0, .map none]) w := by kernel_rfl
theorem made (w : World) : LnI w.heap.size (w.heap.size + 1) w.heap.size none 0 [] [] ((w.alloc (.map #[] 0)).alloc (.cells #[.slice none 0 0, .map (some w.heap.size)] 97)) := by
  refine ⟨by omega, by omega, by omega, ?_, World.ownsRow_nil _ _ _ _, by simp, 0, .map [], by simp, (World.ownsMap_made w Try.prog 31 _).alloc _, fun k _ => by simp [Maps.has, isIn]⟩
  have := heap_alloc_new (w.alloc (.map #[] 0)) (.cells #[.slice none 0 0, .map (some w.heap.size)] 97)
  simpa using this
/-- what Close leaves: a list in a row of its own -/
def ClosedIs (B : Nat) (ys : List K2) (w' : World) (e : Ending) : Prop := ∃ ao cap, e = .returned (.slice ao ys.length cap) ∧ w'.ownsRow B 31 2 (.slice ao ys.length cap) ys.length (ys.flatMap cells)
theorem made_not {fo : Option Addr} {fr : List K2} {w : World} (h : Ints fo fr w) : fr ≠ [] → ∀ b off, fo = some ⟨b, off, none⟩ → ¬ Own (w.heap.size + 1) w.heap.size none b := fun hn b off q => by
  rcases h with h | ⟨b', off', h1, h2, _⟩
  · exact absurd h hn
  · rw [q] at h1; cases h1
    rintro (e | e | ⟨a, e, _⟩)
    · omega
    · omega
    · cases e
theorem made_turn (w : World) (S : Nat → Prop) : Turn S w ((w.alloc (.map #[] 0)).alloc (.cells #[.slice none 0 0, .map (some w.heap.size)] 97)) := ((Turn.refl _ w).alloc _).alloc _
theorem eq_nil (w : World) : (binOp .eql 61 .nilFunc .nilFunc).run Try.prog w = .ok (.bool true) w := by kernel_rfl
theorem eq_func (fn : Fn) (a b : Array Value) (w : World) : (binOp .eql 61 (.func fn a b) .nilFunc).run Try.prog w = .ok (.bool false) w := by kernel_rfl
/-- what the function value nf with its boxes caps tells of a thing's turn -/
def NextIs (F : K2 → List K2) (B : Nat) (A : Nat → Prop) (O : List K2 → Option Nat → World → Prop) (pre : List K2) (ag : Option Nat) (k : K2) (wx : World) (e : Ending) (w' : World) : Prop :=
  ∃ to tcap ag', e = .returned (.slice to (F k).length tcap) ∧ (F k).length ≤ tcap ∧ Ints to (F k) w' ∧ O (pre ++ [k]) ag' w' ∧ Turn (fun j => A j ∨ some j = ag) wx w' ∧ (ag' = ag ∨ ∃ g, ag' = some g ∧ wx.heap.size ≤ g) ∧ (F k ≠ [] → ∀ b off, to = some ⟨b, off, none⟩ → b < B ∨ wx.heap.size ≤ b)
structure Nxt (nf : Nat) (caps : Array Value) (F : K2 → List K2) (u : List K2) (B : Nat) (A : Nat → Prop) (O : List K2 → Option Nat → World → Prop) : Prop where
  enters : ∀ args w, (callFunc nf args).run Try.prog w = .ok (.enter nf args) w
  low : ∀ j, A j → j < B
  lt : ∀ pre ag w, O pre ag w → ∀ j, ag = some j → j < w.heap.size
  keep : ∀ pre ag wx wy S, O pre ag wx → Turn S wx wy → (∀ j, j < wx.heap.size → S j → B ≤ j ∧ some j ≠ ag) → O pre ag wy
  call : ∀ pre ag k wx, k ∈ u → O pre ag wx → B ≤ wx.heap.size → pre.length < u.length → Calls Try.prog nf (#[.agg #[.string k.1, .string k.2]] ++ caps) wx fun e w' => NextIs F B A O pre ag k wx e w'
/-- what Close leaves -/
def CloseIs (F : K2 → List K2) (fr : List K2) (B : Nat) (A : Nat → Prop) (O : List K2 → Option Nat → World → Prop) (ag : Option Nat) (w : World) (e : Ending) (w' : World) : Prop :=
  ∃ n ao cap ag', (Bf.st F fr n).length = n ∧ e = .returned (.slice ao n cap) ∧ w'.ownsRow B 31 2 (.slice ao n cap) n ((Bf.st F fr n).flatMap cells) ∧ O (Bf.st F fr n) ag' w' ∧ Turn (fun j => A j ∨ some j = ag) w w' ∧ (ag' = ag ∨ ∃ g, ag' = some g ∧ B ≤ g) ∧ (∀ a, ao = some a → some a.block ≠ ag')
/-- the loop's state -/
def Mid (F : K2 → List K2) (fr : List K2) (B x bm : Nat) (A : Nat → Prop) (O : List K2 → Option Nat → World → Prop) (ag : Option Nat) (w : World) (n : Nat) (wx : World) (ao : Option Addr) (cap : Nat) (ag' : Option Nat) : Prop :=
  LnI B x bm ao cap (Bf.st F fr n) (Bf.st F fr n) wx ∧ O ((Bf.st F fr n).take n) ag' wx ∧ Turn (fun j => A j ∨ some j = ag) w wx ∧ (ag' = ag ∨ ∃ g, ag' = some g ∧ B ≤ g) ∧ (∀ j, ag' = some j → ¬ Own x bm ao j) ∧ n ≤ (Bf.st F fr n).length
theorem flat_len (zs : List K2) : (zs.flatMap cells).length = zs.length * 2 := by
  induction zs with
  | nil => rfl
  | cons a r ih => simp [cells, ih]; omega
theorem flat_at (zs : List K2) (j : Nat) {k : K2} (h : zs[j]? = some k) : (zs.flatMap cells)[j * 2]? = some (.string k.1) ∧ (zs.flatMap cells)[j * 2 + 1]? = some (.string k.2) := by
  induction zs generalizing j with
  | nil => simp at h
  | cons a r ih => cases j with
    | zero => simp at h; subst h; exact ⟨rfl, rfl⟩
    | succ j =>
      obtain ⟨h1, h2⟩ := ih j (by simpa using h)
      constructor
      · rw [show (j + 1) * 2 = j * 2 + 1 + 1 by omega]; simpa [cells] using h1
      · rw [show (j + 1) * 2 + 1 = j * 2 + 1 + 1 + 1 by omega]; simpa [cells] using h2
theorem row_at {B : Nat} {ao : Option Addr} {cap : Nat} {zs : List K2} {w : World} (h : w.ownsRow B 31 2 (.slice ao zs.length cap) zs.length (zs.flatMap cells)) {j : Nat} {k : K2} (hj : zs[j]? = some k) : ∃ g, ao = some ⟨g, 0, none⟩ ∧ (w.cell? ⟨g, j * 2, none⟩ = some (.string k.1) ∧ w.cell? ⟨g, j * 2 + 1, none⟩ = some (.string k.2)) ∧ zs.length ≤ cap ∧ B ≤ g ∧ g < w.heap.size := by
  rcases h.2 with ⟨hv, h0⟩ | ⟨g, cap', cur, hv, hb, hg, h1, h2, h3, h4⟩
  · exfalso
    have hl := (List.getElem?_eq_some_iff.1 hj).1
    omega
  · simp only [Value.slice.injEq] at hv
    obtain ⟨rfl, _, rfl⟩ := hv
    have hl := (List.getElem?_eq_some_iff.1 hj).1
    obtain ⟨e1, e2⟩ := flat_at zs j hj
    refine ⟨g, rfl, ⟨?_, ?_⟩, by omega, hb, lt_of_heap hg⟩
    · rw [Lib.cell_of_heap hg]
      rw [← h4, List.getElem?_take_of_lt (by omega), Array.getElem?_toList] at e1
      exact e1
    · rw [Lib.cell_of_heap hg]
      rw [← h4, List.getElem?_take_of_lt (by omega), Array.getElem?_toList] at e2
      exact e2
end Q
end Go.Proofs.Ytmdkgiglibfihaa
