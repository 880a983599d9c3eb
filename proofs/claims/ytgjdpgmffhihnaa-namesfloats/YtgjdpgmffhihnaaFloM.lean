import Derived.Test.YtgjdpgmffhihnaaFloIx
import Derived.Test.YtgjdpgmffhihnaaQuietR
import Derived.LoopTactic
import Derived.Deep.QuietTactic
import Derived.OneCell
set_option linter.unusedVariables false
set_option linter.unusedSimpArgs false
namespace Go.Proofs.Ytgjdpgmffhihnaa
open Go.RowKit Go.Maps
namespace F
set_option maxRecDepth 100000 in
set_option maxHeartbeats 1000000 in
theorem first_any (a0 : Option Addr) (len cap N : Nat) (w : World) (hlc : len ≤ cap) (hcm : cap ≤ maxLen) (hN : N = min len 1000) :
    Calls Try.prog 23 #[.slice a0 len cap] w fun e w' => e = .returned (.slice a0 N cap) ∧ w' = w := by
  unfold maxLen at hcm
  by_cases hle : len ≤ 1000
  · have e1 : (len : Int) ≤ 1000 := by omega
    have e2 : N = len := by omega
    clear hN
    subst e2
    go_enter Try.func23, Try.ntmps23
    go_wp2
    go_ret
    exact ⟨rfl, rfl⟩
  · have e1 : ¬ (len : Int) ≤ 1000 := by omega
    have e3 : (1000 : Int) < (len : Int) := by omega
    have e2 : N = 1000 := by omega
    clear hN
    subst e2
    go_enter Try.func23, Try.ntmps23
    go_wp2
    go_ret
    exact ⟨rfl, rfl⟩

/-- the law's own state between two steps: the index, the list beside it in its box, the result's box -/
structure FS (B : Nat) (ao : Option Addr) (cp : Nat) (lo : Option Addr) (lc : Nat) (zs : List Nat) (w w' : World) : Prop where
  ix : FI (B + 1) (B + 1 + 1) (B + 1) ao cp zs w'
  lbx : w'.heap[B + 1 + 2]? = some (.cells #[.slice lo zs.length lc] 48 (0, 0))
  lrow : w'.ownsRow (B + 1) 39 1 (.slice lo zs.length lc) zs.length (zs.flatMap cells)
  apart : ∀ a c, ao = some a → lo = some c → a.block ≠ c.block
  rbx : w'.heap[B]? = some (.cells #[.bool false] 4 (0, 0))
  bel : Below B w w'
  sz : B + 4 ≤ w'.heap.size
section
variable {B : Nat} {ao : Option Addr} {cp : Nat} {lo : Option Addr} {lc : Nat} {zs : List Nat} {w w' w'' : World}
theorem FS.lc0 (h : FS B ao cp lo lc zs w w') : w'.cell? ⟨B + 1 + 2, 0, none⟩ = some (.slice lo zs.length lc) := Lib.cell_of_heap h.lbx 0
/-- the list's row is no block of the index, of the list's box, of the result's -/
theorem FS.lapart (h : FS B ao cp lo lc zs w w') : ∀ a, lo = some a → a.block ≠ B + 1 + 1 ∧ a.block ≠ B + 1 ∧ a.block ≠ B + 1 + 2 ∧ B + 1 ≤ a.block ∧ a.block < w'.heap.size := by
  intro a ha
  obtain ⟨es, clock, hbm, _⟩ := h.ix.map
  rcases h.lrow.2 with ⟨hv, _⟩ | ⟨g, cap', cur, hv, hb, hg, _⟩
  · rw [ha] at hv; cases hv
  · rw [ha] at hv
    simp only [Value.slice.injEq, Option.some.injEq] at hv
    obtain ⟨rfl, _, _⟩ := hv
    have hg' : w'.heap[g]? = some (.cells cur 39 (0, 0)) := hg
    refine ⟨fun q => ?_, fun q => ?_, fun q => ?_, hb, (Array.getElem?_eq_some_iff.1 hg).1⟩
    · have := h.ix.hb; rw [← (show g = B + 1 + 1 from q), hg'] at this; cases this
    · rw [← (show g = B + 1 from q), hg'] at hbm; cases hbm
    · have := h.lbx; rw [← (show g = B + 1 + 2 from q), hg'] at this; cases this
theorem FS.far (h : FS B ao cp lo lc zs w w') (t : Turn (fun _ => False) w' w'') : FS B ao cp lo lc zs w w'' := by
  have hB : B < w'.heap.size := by have := h.sz; omega
  exact ⟨h.ix.kept t (fun q => q) (fun q => q) (fun _ _ q => q), (t.block _ (by have := h.sz; omega) (fun q => q)).trans h.lbx, t.row h.lrow (fun _ _ q => q), h.apart, (t.block _ hB (fun q => q)).trans h.rbx, h.bel.trans (t.below (fun _ q => q.elim) (by omega)), Nat.le_trans h.sz t.size⟩
end
theorem row_ne_box {w : World} {B n : Nat} {a : Addr} {cap : Nat} {xs : List Value} {j : Nat} {c : Array Value} {z : Nat × Nat} (h : w.ownsRow B 39 1 (.slice (some a) n cap) n xs) (hj : w.heap[j]? = some (.cells c 48 z)) : a.block ≠ j := by
  rcases h.2 with ⟨hv, _⟩ | ⟨g, cap', cur, hv, hb, hg, _⟩
  · cases hv
  · simp only [Value.slice.injEq, Option.some.injEq] at hv
    obtain ⟨rfl, _, _⟩ := hv
    rintro rfl
    have hg' : w.heap[g]? = some (.cells cur 39 (0, 0)) := hg
    rw [show (⟨g, 0, none⟩ : Addr).block = g from rfl, hg'] at hj
    cases hj
/-- in the midst of an Of: the list is longer already, the index not yet -/
structure FM (B : Nat) (ao : Option Addr) (cp g lc : Nat) (zs : List Nat) (k : Nat) (w w' : World) : Prop where
  ix : FI (B + 1) (B + 1 + 1) (B + 1) ao cp zs w'
  lbx : w'.heap[B + 1 + 2]? = some (.cells #[.slice (some ⟨g, 0, none⟩) (zs.length + 1) lc] 48 (0, 0))
  lrow : w'.ownsRow (B + 1) 39 1 (.slice (some ⟨g, 0, none⟩) (zs.length + 1) lc) (zs.length + 1) (zs.flatMap cells ++ [.float .f64 k])
  apart : ∀ a, ao = some a → a.block ≠ g
  rbx : w'.heap[B]? = some (.cells #[.bool false] 4 (0, 0))
  bel : Below B w w'
  sz : B + 4 ≤ w'.heap.size
  lg : g < w'.heap.size
  g1 : g ≠ B + 1 + 1
  g2 : g ≠ B + 1
theorem FS.lown {B : Nat} {ao : Option Addr} {cp : Nat} {lo : Option Addr} {lc : Nat} {zs : List Nat} {w w' : World} (h : FS B ao cp lo lc zs w w') : ∀ j, (Value.slice lo zs.length lc).ownBlock = some j → j ≠ B + 1 + 1 ∧ j ≠ B + 1 ∧ j ≠ B + 1 + 2 ∧ B + 1 ≤ j ∧ j < w'.heap.size ∧ (∀ a, ao = some a → a.block ≠ j) := by
  intro j hj
  cases lo with
  | none => cases hj
  | some a =>
    simp only [Value.ownBlock, Option.some.injEq] at hj
    subst hj
    have q := h.lapart a rfl
    exact ⟨q.1, q.2.1, q.2.2.1, q.2.2.2.1, q.2.2.2.2, fun c hc => h.apart c a hc rfl⟩
theorem FS.mid {B : Nat} {ao : Option Addr} {cp : Nat} {lo : Option Addr} {lc : Nat} {zs : List Nat} {w w' : World} (h : FS B ao cp lo lc zs w w') {ob : Obj} {w3 : World} {g lc' : Nat} {k : Nat}
    (hg : (w'.alloc ob).grownBy w3 (Value.slice lo zs.length lc).ownBlock) (hr : w3.ownsRow (B + 1) 39 1 (.slice (some ⟨g, 0, none⟩) (zs.length + 1) lc') (zs.length + 1) (zs.flatMap cells ++ [.float .f64 k]))
    (hat : (Value.slice lo zs.length lc).ownBlock = some g ∨ g = w'.heap.size + 1) : FM B ao cp g lc' zs k w (w3.setCell ⟨B + 1 + 2, 0, none⟩ (.slice (some ⟨g, 0, none⟩) (zs.length + 1) lc')) := by
  have lo' := h.lown
  have hsz := h.sz
  have t1 : Turn (fun j => (Value.slice lo zs.length lc).ownBlock = some j) w' w3 := ((Turn.refl _ w').alloc ob).grown hg (fun j hj _ => hj)
  have hgs : w'.heap.size + 1 ≤ w3.heap.size := by have := hg.size; simpa using this
  have ap := h.ix.apart
  have gg : g ≠ B + 1 + 1 ∧ g ≠ B + 1 ∧ g ≠ B + 1 + 2 ∧ B + 1 ≤ g ∧ (∀ a, ao = some a → a.block ≠ g) := by
    rcases hat with q | q
    · obtain ⟨a1, a2, a3, a4, _, a6⟩ := lo' g q
      exact ⟨a1, a2, a3, a4, a6⟩
    · refine ⟨by omega, by omega, by omega, by omega, fun a ha => ?_⟩
      have := (ap a ha).2.2.2
      omega
  have hix3 : FI (B + 1) (B + 1 + 1) (B + 1) ao cp zs w3 := h.ix.kept t1 (fun q => (lo' _ q).1 rfl) (fun q => (lo' _ q).2.1 rfl) (fun a ha q => (lo' _ q).2.2.2.2.2 a ha rfl)
  have hbx3 : w3.heap[B + 1 + 2]? = some (.cells #[.slice lo zs.length lc] 48 (0, 0)) := (t1.block _ (by omega) (fun q => (lo' _ q).2.2.1 rfl)).trans h.lbx
  have t2 : Turn (fun j => j = B + 1 + 2) w3 (w3.setCell ⟨B + 1 + 2, 0, none⟩ (.slice (some ⟨g, 0, none⟩) (zs.length + 1) lc')) := (Turn.refl (fun j => j = B + 1 + 2) w3).setCell (p := ⟨B + 1 + 2, 0, none⟩) (fun _ => rfl) _
  have lg3 : g < w3.heap.size := by
    rcases hr.2 with ⟨hv, _⟩ | ⟨g', cap', cur, hv, hb, hg', _⟩
    · cases hv
    · simp only [Value.slice.injEq, Option.some.injEq, Addr.mk.injEq] at hv
      obtain ⟨⟨rfl, _⟩, _⟩ := hv
      exact (Array.getElem?_eq_some_iff.1 hg').1
  refine ⟨?_, ?_, t2.row hr ?_, gg.2.2.2.2, ?_, ?_, ?_, ?_, gg.1, gg.2.1⟩
  · refine hix3.kept t2 (by omega) (by omega) ?_
    intro a ha q
    subst ha
    exact row_ne_box hix3.row hbx3 q
  · exact one_setCell hbx3
  · intro j hj q
    simp only [Value.ownBlock, Option.some.injEq] at hj
    exact gg.2.2.1 (hj.trans q)
  · exact (t2.block _ (by omega) (by omega)).trans ((t1.block _ (by omega) (fun q => by have := (lo' _ q).2.2.2.1; omega)).trans h.rbx)
  · exact (h.bel.trans (t1.below (B := B) (fun j q => by have := (lo' _ q).2.2.2.1; omega) (by omega))).trans (t2.below (fun j q => by omega) (by omega))
  · have := t2.size; omega
  · have := t2.size; omega
theorem FM.done {B : Nat} {ao : Option Addr} {cp g lc : Nat} {zs : List Nat} {k : Nat} {w w' w5 : World} (h : FM B ao cp g lc zs k w w') {g2 cp2 : Nat} 
    (hx : FI (B + 1) (B + 1 + 1) (B + 1) (some ⟨g2, 0, none⟩) cp2 (zs ++ [k]) w5) (ht : Turn (Own (B + 1 + 1) (B + 1) ao) w' w5) (ho : ao = some ⟨g2, 0, none⟩ ∨ w'.heap.size ≤ g2) :
    FS B (some ⟨g2, 0, none⟩) cp2 (some ⟨g, 0, none⟩) lc (zs ++ [k]) w w5 := by
  have hsz := h.sz
  have lg := h.lg
  have g1 := h.g1
  have g2' := h.g2
  have ap := h.ix.apart
  have abx : ∀ a, ao = some a → a.block ≠ B + 1 + 2 ∧ B + 1 ≤ a.block := by
    intro a ha
    refine ⟨?_, (ap a ha).2.2.1⟩
    subst ha
    exact row_ne_box h.ix.row h.lbx
  refine ⟨hx, ?_, ?_, ?_, ?_, ?_, ?_⟩
  · rw [List.length_append]
    refine (ht.block _ (by omega) ?_).trans h.lbx
    rintro (q | q | ⟨a, ha, q⟩)
    · omega
    · omega
    · exact (abx a ha).1 q.symm
  · have hr : w5.ownsRow (B + 1) 39 1 (.slice (some ⟨g, 0, none⟩) (zs.length + 1) lc) (zs.length + 1) (zs.flatMap cells ++ [.float .f64 k]) := by
      refine ht.row h.lrow ?_
      intro j hj
      simp only [Value.ownBlock, Option.some.injEq] at hj
      subst hj
      rintro (q | q | ⟨a, ha, q⟩)
      · exact g1 q
      · exact g2' q
      · exact h.apart a ha q.symm
    have e : (zs ++ [k]).flatMap cells = zs.flatMap cells ++ [.float .f64 k] := by simp [cells]
    rw [e, List.length_append]
    exact hr
  · intro a c ha hc
    simp only [Option.some.injEq] at ha hc
    subst ha hc
    rcases ho with q | q
    · exact h.apart _ q
    · show g2 ≠ g
      omega
  · refine (ht.block _ (by omega) ?_).trans h.rbx
    rintro (q | q | ⟨a, ha, q⟩)
    · omega
    · omega
    · have := (abx a ha).2; omega
  · refine h.bel.trans (ht.below ?_ (by omega))
    rintro j (q | q | ⟨a, ha, q⟩)
    · omega
    · omega
    · have := (abx a ha).2; omega
  · have := ht.size; omega
end F
end Go.Proofs.Ytgjdpgmffhihnaa
