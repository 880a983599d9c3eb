import Derived.Test.YtahjhnikckmneaaApk
import Derived.Deep.RegionHeld3
import Derived.Deep.RegionLaw
set_option linter.unusedVariables false
set_option linter.unusedSimpArgs false
namespace Go.Proofs.Ytahjhnikckmneaa
open Go.RowKit Go.Maps
namespace L
abbrev A2 := Option Addr × Nat
def ME : ByteArray := ⟨#[109, 97, 114, 107]⟩
def MO : ByteArray := ⟨#[109, 111, 114, 101]⟩
/-- lists in a row of slices, each in a row of its own -/
structure Gt (gg : Nat) (us : List A2) (C : Nat → List ByteArray) (w : World) : Prop where
  lt : gg < w.heap.size
  cell : ∀ (i : Nat) (a : A2), us[i]? = some a → w.cell? ⟨gg, i, none⟩ = some (.slice a.1 (C i).length a.2)
  each : ∀ (i : Nat) (a : A2), us[i]? = some a → S.RowI 0 a.1 a.2 (C i) w
  rr : ∀ (i j : Nat) (a b : A2), us[i]? = some a → us[j]? = some b → i ≠ j → ∀ k, S.At a.1 k → ¬ S.At b.1 k
  out : ∀ (i : Nat) (a : A2), us[i]? = some a → ¬ S.At a.1 gg
/-- the blocks of the lists -/
def Ls (us : List A2) (j : Nat) : Prop := ∃ (i : Nat) (a : A2), us[i]? = some a ∧ S.At a.1 j
theorem Gt.turn {gg : Nat} {us : List A2} {C : Nat → List ByteArray} {w w' : World} {T : Nat → Prop} (h : Gt gg us C w) (t : Turn T w w') (hg : ¬ T gg) (hT : ∀ j, Ls us j → ¬ T j) : Gt gg us C w' :=
  ⟨Nat.lt_of_lt_of_le h.lt t.size, fun i a q => (t.cell (p := ⟨gg, i, none⟩) h.lt hg).trans (h.cell i a q), fun i a q => (h.each i a q).turn t (fun j r => hT j ⟨i, a, q, r⟩), h.rr, h.out⟩
theorem Gt.drewN {gg : Nat} {us : List A2} {C : Nat → List ByteArray} {w : World} (h : Gt gg us C w) (n : Nat) : Gt gg us C (w.drewN n) := h.turn ((Turn.refl (fun _ => False) w).drewN n) id (fun _ _ => id)
theorem Gt.below {gg : Nat} {us : List A2} {C : Nat → List ByteArray} {w w' : World} (h : Gt gg us C w) (b : Below w.heap.size w w') : Gt gg us C w' := h.turn (turn_below (S := fun _ => False) b) id (fun _ _ => id)
theorem Gt.put {gg : Nat} {us : List A2} {C : Nat → List ByteArray} {w : World} {i g cap : Nat} (h : Gt gg us C w) (hi : us[i]? = some (some ⟨g, 0, none⟩, cap)) (k : Nat) (s : ByteArray) (hk : k < (C i).length) : Gt gg us (fun j => if j = i then (C i).set k s else C j) (w.setCell ⟨g, k, none⟩ (.string s)) := by
  have t : Turn (fun j => j = g) w (w.setCell ⟨g, k, none⟩ (.string s)) := (Turn.refl (fun j => j = g) w).setCell (p := ⟨g, k, none⟩) (fun _ => rfl) _
  have hgg : ¬ gg = g := fun e => h.out i _ hi ⟨_, rfl, e⟩
  refine ⟨Nat.lt_of_lt_of_le h.lt t.size, fun j a q => ?_, fun j a q => ?_, h.rr, h.out⟩
  · rw [(t.cell (p := ⟨gg, j, none⟩) h.lt hgg), h.cell j a q]
    by_cases e : j = i
    · subst e; simp
    · simp [e]
  · by_cases e : j = i
    · subst e
      rw [hi] at q; cases q
      simp only [if_true]
      exact (h.each j _ hi).put k s hk
    · simp only [e, if_false]
      exact (h.each j a q).turn t (fun b r e2 => by subst e2; exact h.rr j i a _ q hi e b r ⟨_, rfl, rfl⟩)
/-- what must be: lists that can be read, none of them in a block of P -/
def Wt (wo : Option Addr) (ls : List (List ByteArray)) (P : Nat → Prop) (w : World) : Prop := ls = [] ∨ ∃ b off, wo = some ⟨b, off, none⟩ ∧ b < w.heap.size ∧ ¬ P b ∧ ∀ i l, ls[i]? = some l → ∃ ro rc, w.cell? ⟨b, off + i, none⟩ = some (.slice ro l.length rc) ∧ l.length ≤ rc ∧ S.Ints ro l w ∧ (l ≠ [] → ∀ b off, ro = some ⟨b, off, none⟩ → ¬ P b ∧ b < w.heap.size)
theorem Wt.turn {wo : Option Addr} {ls : List (List ByteArray)} {P T : Nat → Prop} {w w' : World} (h : Wt wo ls P w) (t : Turn T w w') (hT : ∀ j, j < w.heap.size → T j → P j) : Wt wo ls P w' := by
  rcases h with h | ⟨b, off, h1, h2, h3, h4⟩
  · exact .inl h
  · refine .inr ⟨b, off, h1, Nat.lt_of_lt_of_le h2 t.size, h3, fun i l q => ?_⟩
    obtain ⟨ro, rc, c, hl, hI, hn⟩ := h4 i l q
    exact ⟨ro, rc, (t.cell (p := ⟨b, off + i, none⟩) h2 (fun q => h3 (hT b h2 q))).trans c, hl, hI.turn t (fun hne b off e q => (hn hne b off e).1 (hT b (hn hne b off e).2 q)), fun hne b off e => ⟨(hn hne b off e).1, Nat.lt_of_lt_of_le (hn hne b off e).2 t.size⟩⟩
theorem Wt.wide {wo : Option Addr} {ls : List (List ByteArray)} {P : Nat → Prop} {w : World} (h : Wt wo ls P w) : Wt wo ls (fun j => P j ∨ w.heap.size ≤ j) w := by
  rcases h with h | ⟨b, off, h1, h2, h3, h4⟩
  · exact .inl h
  · refine .inr ⟨b, off, h1, h2, fun q => ?_, fun i l q => ?_⟩
    · rcases q with q | q
      · exact h3 q
      · omega
    · obtain ⟨ro, rc, c, hl, hI, hn⟩ := h4 i l q
      refine ⟨ro, rc, c, hl, hI, fun hne b off e => ⟨fun q => ?_, (hn hne b off e).2⟩⟩
      rcases q with q | q
      · exact (hn hne b off e).1 q
      · have := (hn hne b off e).2; omega
theorem Wt.at {wo : Option Addr} {ls : List (List ByteArray)} {P : Nat → Prop} {w : World} (h : Wt wo ls P w) {i : Nat} {l : List ByteArray} (q : ls[i]? = some l) : ∃ b off ro rc, wo = some ⟨b, off, none⟩ ∧ b < w.heap.size ∧ ¬ P b ∧ w.cell? ⟨b, off + i, none⟩ = some (.slice ro l.length rc) ∧ l.length ≤ rc ∧ S.Ints ro l w := by
  rcases h with rfl | ⟨b, off, h1, h2, h3, h4⟩
  · simp at q
  · obtain ⟨ro, rc, c, hl, hI, hn⟩ := h4 i l q
    exact ⟨b, off, ro, rc, h1, h2, h3, c, hl, hI⟩
theorem fill_step (L : List ByteArray) (v : ByteArray) (k : Nat) (h : k < L.length) : (List.replicate k v ++ L.drop k).set k v = List.replicate (k + 1) v ++ L.drop (k + 1) := by
  rw [List.set_append_right _ _ (by simp), List.length_replicate, Nat.sub_self, List.drop_eq_getElem_cons h, List.set_cons_zero, List.replicate_succ', List.append_assoc]
  rfl
theorem fill_len (L : List ByteArray) (v : ByteArray) (k : Nat) (h : k ≤ L.length) : (List.replicate k v ++ L.drop k).length = L.length := by simp; omega
theorem frozenS {B : Nat} {g cap : Nat} {zs : List ByteArray} {w : World} (h : S.RowI B (some ⟨g, 0, none⟩) cap zs w) (i : Nat) : w.frozen? ⟨g, i, none⟩ = false := by
  rcases h.2 with ⟨hv, h0⟩ | ⟨g', cap', cur, hv, hb, hg, _⟩
  · cases hv
  · simp only [Value.slice.injEq, Option.some.injEq] at hv
    obtain ⟨he, _⟩ := hv
    cases he
    exact Lib.frozen_of_heap hg i
/-- the lists behind the writing of marks up to i -/
def C1 (C : Nat → List ByteArray) (i : Nat) (j : Nat) : List ByteArray := if j < i ∧ j % 2 = 0 then List.replicate (C j).length (mk j ME) else C j
def C2 (C : Nat → List ByteArray) (i k : Nat) (j : Nat) : List ByteArray := if j = i then List.replicate k (mk i ME) ++ (C i).drop k else C1 C i j
theorem C1_len (C : Nat → List ByteArray) (i j : Nat) : (C1 C i j).length = (C j).length := by unfold C1; split <;> simp
theorem C2_len (C : Nat → List ByteArray) (i k j : Nat) (h : k ≤ (C i).length) : (C2 C i k j).length = (C j).length := by
  unfold C2
  split
  · rename_i e; rw [e]; exact fill_len _ _ _ h
  · exact C1_len C i j
theorem C2_zero (C : Nat → List ByteArray) (i : Nat) : C2 C i 0 = C1 C i := by
  funext j
  unfold C2
  split
  · rename_i e; subst e; unfold C1; simp
  · rfl
theorem C2_step (C : Nat → List ByteArray) (i k : Nat) (h : k < (C i).length) : (fun j => if j = i then (C2 C i k i).set k (mk i ME) else C2 C i k j) = C2 C i (k + 1) := by
  funext j
  by_cases e : j = i
  · subst e
    simp only [if_true]
    unfold C2
    simp only [if_true]
    exact fill_step _ _ _ h
  · simp only [e, if_false]
    unfold C2
    simp only [e, if_false]
theorem C2_full (C : Nat → List ByteArray) (i : Nat) (hi : i % 2 = 0) : C2 C i (C i).length = C1 C (i + 2) := by
  funext j
  unfold C2 C1
  by_cases e : j = i
  · subst e
    simp [hi]
  · simp only [e, if_false]
    by_cases h1 : j < i ∧ j % 2 = 0
    · rw [if_pos h1, if_pos ⟨by omega, h1.2⟩]
    · rw [if_neg h1, if_neg (fun q => h1 ⟨by omega, q.2⟩)]
/-- all marks are written -/
def CM (C : Nat → List ByteArray) (j : Nat) : List ByteArray := if j % 2 = 0 then List.replicate (C j).length (mk j ME) else C j
theorem CM_len (C : Nat → List ByteArray) (j : Nat) : (CM C j).length = (C j).length := by unfold CM; split <;> simp
theorem Gt.congr {gg : Nat} {us : List A2} {C C' : Nat → List ByteArray} {w : World} (h : Gt gg us C w) (e : ∀ (i : Nat) (a : A2), us[i]? = some a → C i = C' i) : Gt gg us C' w :=
  ⟨h.lt, fun i a q => by rw [← e i a q]; exact h.cell i a q, fun i a q => by rw [← e i a q]; exact h.each i a q, h.rr, h.out⟩
/-- those that were gone on with -/
def DM (C : Nat → List ByteArray) (j : Nat) : List ByteArray := CM C j ++ (if j % 2 = 0 then List.replicate 12 (mk j MO) else [])
theorem infoR : (Try.prog.info? 23).map (fun i => (i.zero, i.size, i.bytes)) = some (some (.slice none 0 0), 1, 24) := by kernel_rfl
/-- append of one slice onto a row of slices of texts -/
theorem wpList_appR (w0 : World) {ops : Array Oper} {rest : List Oper} {o : Oper} {a : Act} {Q : Exit → Act → World → Prop} (hgd : o.guard = none) (s x : Operand)
    (ho : o.op = .call { callee := .builtin .append, args := #[s, x], argTypes := #[26, 26] }) (B : Nat) (ao : Option Addr) (cap n : Nat) (vs : List Value) (ro : Option Addr) (rl rc : Nat) (t : TypeId) (c : Nat) (hs : a.eval s = .slice ao n cap) (hrow : w0.ownsRow B 23 1 (.slice ao n cap) n vs)
    (hx : a.eval x = .slice (some ⟨w0.heap.size, 0, none⟩) 1 c) (hb : Hid (n < 1099511627776)) (hB : B ≤ w0.heap.size)
    (h : ∀ g cap' w', w'.ownsRow B 23 1 (.slice (some ⟨g, 0, none⟩) (n + 1) cap') (n + 1) (vs ++ [.slice ro rl rc]) → Turn (S.At ao) w0 w' → (ao = some ⟨g, 0, none⟩ ∨ w0.heap.size ≤ g) → g < w'.heap.size → wpList Try.prog ops Q rest (a.put o.dst (.slice (some ⟨g, 0, none⟩) (n + 1) cap')) w') :
    wpList Try.prog ops Q (o :: rest) a (w0.alloc (.cells #[.slice ro rl rc] t)) := by
  obtain ⟨i0, hi, hz0, hz1, hz2⟩ := info_parts infoR
  refine wpList_append_lies _ hgd s x 26 ho B 23 i0 (.slice none 0 0) 1 24 Try.underlying26 hi hz0 hz1 hz2 rfl (by decide) _ _ _ hs (World.ownsRow.alloc hrow _) ⟨w0.heap.size, 0, none⟩ 1 c [.slice ro rl rc] hx rfl (cell_one_new _ _ _) (by simp [Value.oneCell']) (by decide) (by have := hb.out; unfold maxLen; omega) (by have := hb.out; omega) (by simp; omega) (w0.heap.size + 1) (by simp) ?_
  intro g cap' w1 hrow1 hgrow hat hlt
  refine h g cap' w1 hrow1 (((Turn.refl _ w0).alloc _).grown hgrow (fun j hj _ => by
    cases ao with
    | none => cases hj
    | some ad => exact ⟨ad, rfl, by simpa [Value.ownBlock] using hj.symm⟩)) ?_ hlt
  rcases hat with q | q
  · cases ao with
    | none => cases q
    | some ad =>
      left
      rcases hrow.2 with ⟨e, _⟩ | ⟨g', cap'', cur, e, _⟩
      · cases e
      · cases e; simp only [Value.ownBlock, Option.some.injEq] at q; rw [q]
  · right; omega
/-- the lists gone on with, up to i: W0 is the heap's size where that begins -/
structure Lg (gg : Nat) (us : List A2) (C : Nat → List ByteArray) (i W0 : Nat) (lo : Option Addr) (lcap : Nat) (lf : Nat → A2) (w : World) : Prop where
  sz : W0 ≤ w.heap.size
  gl : gg < W0
  ul : ∀ (j : Nat) (a : A2), us[j]? = some a → ∀ b, S.At a.1 b → b < W0
  gcell : ∀ (j : Nat) (a : A2), us[j]? = some a → w.cell? ⟨gg, j, none⟩ = some (.slice a.1 (CM C j).length a.2)
  rows : ∀ (j : Nat) (a : A2), us[j]? = some a → i ≤ j → S.RowI 0 a.1 a.2 (CM C j) w
  ints : ∀ (j : Nat) (a : A2), us[j]? = some a → S.Ints a.1 (CM C j) w
  long : w.ownsRow W0 23 1 (.slice lo i lcap) i ((List.range i).map (fun j => Value.slice (lf j).1 (DM C j).length (lf j).2))
  lints : ∀ j, j < i → S.Ints (lf j).1 (DM C j) w ∧ (DM C j).length ≤ (lf j).2 ∧ ∀ b, S.At (lf j).1 b → ((∃ a, us[j]? = some a ∧ S.At a.1 b) ∨ W0 ≤ b) ∧ ¬ S.At lo b ∧ b < w.heap.size
end L
end Go.Proofs.Ytahjhnikckmneaa
