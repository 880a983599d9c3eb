import Derived.Test.YtollaamlnddhcaaSLnP
set_option linter.unusedVariables false
set_option linter.unusedSimpArgs false
namespace Go.Proofs.Ytollaamlnddhcaa
open Go.RowKit Go.Maps
namespace S
theorem zeroL : (zeroValue 132).run Try.prog = fun w => .ok (.agg #[.slice none 0 0, .map none]) w := by kernel_rfl
theorem made (w : World) : LnI w.heap.size (w.heap.size + 1) w.heap.size none 0 [] [] ((w.alloc (.map #[] 0)).alloc (.cells #[.slice none 0 0, .map (some w.heap.size)] 132)) := by
  refine ⟨by omega, by omega, by omega, ?_, World.ownsRow_nil _ _ _ _, by simp, 0, .map [], by simp, (World.ownsMap_made w Try.prog 9 _).alloc _, fun k _ => by simp [Maps.has, isIn]⟩
  have := heap_alloc_new (w.alloc (.map #[] 0)) (.cells #[.slice none 0 0, .map (some w.heap.size)] 132)
  simpa using this
/-- what Close leaves: a list in a row of its own -/
def ClosedIs (B : Nat) (ys : List ByteArray) (w' : World) (e : Ending) : Prop := ∃ ao cap, e = .returned (.slice ao ys.length cap) ∧ w'.ownsRow B 9 1 (.slice ao ys.length cap) ys.length (ys.flatMap cells)
theorem made_not {fo : Option Addr} {fr : List ByteArray} {w : World} (h : Ints fo fr w) : fr ≠ [] → ∀ b off, fo = some ⟨b, off, none⟩ → ¬ Own (w.heap.size + 1) w.heap.size none b := fun hn b off q => by
  rcases h with h | ⟨b', off', h1, h2, _⟩
  · exact absurd h hn
  · rw [q] at h1; cases h1
    rintro (e | e | ⟨a, e, _⟩)
    · omega
    · omega
    · cases e
theorem made_turn (w : World) (S : Nat → Prop) : Turn S w ((w.alloc (.map #[] 0)).alloc (.cells #[.slice none 0 0, .map (some w.heap.size)] 132)) := ((Turn.refl _ w).alloc _).alloc _
theorem eq_nil (w : World) : (binOp .eql 120 .nilFunc .nilFunc).run Try.prog w = .ok (.bool true) w := by kernel_rfl
theorem eq_func (fn : Fn) (a b : Array Value) (w : World) : (binOp .eql 120 (.func fn a b) .nilFunc).run Try.prog w = .ok (.bool false) w := by kernel_rfl
set_option maxRecDepth 100000 in
set_option maxHeartbeats 8000000 in
theorem close_nil (fo : Option Addr) (fcap : Nat) (fr : List ByteArray) (w : World) (hx : Ints fo fr w) (hok : ∀ k ∈ fr, okk k) (hc : fr.length ≤ fcap) (hlen : Hid (fr.length ≤ 1099511627776)) :
    Calls Try.prog 66 #[.slice fo fr.length fcap, .nilFunc] w fun e w' => ClosedIs w.heap.size (Bf.add [] fr) w' e ∧ Below w.heap.size w w' := by
  have hmm := @run_makeMap Try.prog
  have heq := eq_nil
  have HP := hide' (put_any w.heap.size (w.heap.size + 1) w.heap.size none 0 [] fr fo fcap _ (made w) (hx.turn (made_turn w (fun _ => False)) (fun _ _ _ _ q => q)) (made_not hx) hok hc (by show [].length + _ ≤ _; simpa using hlen.out))
  have Ht := hide' (made_turn w (fun j => w.heap.size ≤ j))
  clear hx hok hc
  go_enter Try.func66, Try.ntmps66
  go_wp2_with fail
  refine HP.out.mono ?_
  rintro e w1 ⟨rfl, ao, cap, hL, t1, _⟩
  have c0 := hL.c0
  have K : Hid (ClosedIs w.heap.size (Bf.add [] fr) w1 (.returned (.slice ao (Bf.add [] fr).length cap)) ∧ Below w.heap.size w w1) :=
    ⟨⟨ao, cap, rfl, hL.row⟩, (Ht.out.then t1 (fun j hj q => by
      rcases q with q | q | ⟨a, e, _⟩
      · omega
      · omega
      · cases e) |>.below (fun _ q => q) (Nat.le_refl _))⟩
  clear hL t1 HP
  go_wp2
  go_ret
  exact K.out
/-- what the function value nf with its boxes caps tells of a thing's turn -/
def NextIs (F : ByteArray → List ByteArray) (B : Nat) (A : Nat → Prop) (O : List ByteArray → Option Nat → World → Prop) (pre : List ByteArray) (ag : Option Nat) (k : ByteArray) (wx : World) (e : Ending) (w' : World) : Prop :=
  ∃ to tcap ag', e = .returned (.slice to (F k).length tcap) ∧ (F k).length ≤ tcap ∧ Ints to (F k) w' ∧ O (pre ++ [k]) ag' w' ∧ Turn (fun j => A j ∨ some j = ag) wx w' ∧ (ag' = ag ∨ ∃ g, ag' = some g ∧ wx.heap.size ≤ g) ∧ (F k ≠ [] → ∀ b off, to = some ⟨b, off, none⟩ → b < B ∨ wx.heap.size ≤ b)
structure Nxt (nf : Nat) (caps : Array Value) (F : ByteArray → List ByteArray) (u : List ByteArray) (B : Nat) (A : Nat → Prop) (O : List ByteArray → Option Nat → World → Prop) : Prop where
  enters : ∀ args w, (callFunc nf args).run Try.prog w = .ok (.enter nf args) w
  low : ∀ j, A j → j < B
  lt : ∀ pre ag w, O pre ag w → ∀ j, ag = some j → j < w.heap.size
  keep : ∀ pre ag wx wy S, O pre ag wx → Turn S wx wy → (∀ j, j < wx.heap.size → S j → B ≤ j ∧ some j ≠ ag) → O pre ag wy
  call : ∀ pre ag k wx, k ∈ u → O pre ag wx → B ≤ wx.heap.size → pre.length < u.length → Calls Try.prog nf (#[.string k] ++ caps) wx fun e w' => NextIs F B A O pre ag k wx e w'
/-- what Close leaves -/
def CloseIs (F : ByteArray → List ByteArray) (fr : List ByteArray) (B : Nat) (A : Nat → Prop) (O : List ByteArray → Option Nat → World → Prop) (ag : Option Nat) (w : World) (e : Ending) (w' : World) : Prop :=
  ∃ n ao cap ag', (Bf.st F fr n).length = n ∧ e = .returned (.slice ao n cap) ∧ w'.ownsRow B 9 1 (.slice ao n cap) n ((Bf.st F fr n).flatMap cells) ∧ O (Bf.st F fr n) ag' w' ∧ Turn (fun j => A j ∨ some j = ag) w w' ∧ (ag' = ag ∨ ∃ g, ag' = some g ∧ B ≤ g) ∧ (∀ a, ao = some a → some a.block ≠ ag')
/-- the loop's state -/
def Mid (F : ByteArray → List ByteArray) (fr : List ByteArray) (B x bm : Nat) (A : Nat → Prop) (O : List ByteArray → Option Nat → World → Prop) (ag : Option Nat) (w : World) (n : Nat) (wx : World) (ao : Option Addr) (cap : Nat) (ag' : Option Nat) : Prop :=
  LnI B x bm ao cap (Bf.st F fr n) (Bf.st F fr n) wx ∧ O ((Bf.st F fr n).take n) ag' wx ∧ Turn (fun j => A j ∨ some j = ag) w wx ∧ (ag' = ag ∨ ∃ g, ag' = some g ∧ B ≤ g) ∧ (∀ j, ag' = some j → ¬ Own x bm ao j) ∧ n ≤ (Bf.st F fr n).length
theorem flat_len (zs : List ByteArray) : (zs.flatMap cells).length = zs.length := by
  induction zs with
  | nil => rfl
  | cons a r ih => simp [cells, ih]
theorem flat_at (zs : List ByteArray) (j : Nat) : (zs.flatMap cells)[j]? = (zs[j]?).map (fun k => Value.string k) := by
  induction zs generalizing j with
  | nil => simp
  | cons a r ih => cases j with
    | zero => simp [cells]
    | succ j => simpa [cells] using ih j
theorem row_at {B : Nat} {ao : Option Addr} {cap : Nat} {zs : List ByteArray} {w : World} (h : w.ownsRow B 9 1 (.slice ao zs.length cap) zs.length (zs.flatMap cells)) {j : Nat} {k : ByteArray} (hj : zs[j]? = some k) : ∃ g, ao = some ⟨g, 0, none⟩ ∧ w.cell? ⟨g, j, none⟩ = some (.string k) ∧ zs.length ≤ cap ∧ B ≤ g ∧ g < w.heap.size := by
  rcases h.2 with ⟨hv, h0⟩ | ⟨g, cap', cur, hv, hb, hg, h1, h2, h3, h4⟩
  · exfalso
    have hl := (List.getElem?_eq_some_iff.1 hj).1
    omega
  · simp only [Value.slice.injEq] at hv
    obtain ⟨rfl, _, rfl⟩ := hv
    refine ⟨g, rfl, ?_, by omega, hb, lt_of_heap hg⟩
    rw [Lib.cell_of_heap hg]
    have hl := (List.getElem?_eq_some_iff.1 hj).1
    have e1 := flat_at zs j
    rw [hj, ← h4, List.getElem?_take_of_lt (by omega), Array.getElem?_toList] at e1
    exact e1
end S
end Go.Proofs.Ytollaamlnddhcaa
