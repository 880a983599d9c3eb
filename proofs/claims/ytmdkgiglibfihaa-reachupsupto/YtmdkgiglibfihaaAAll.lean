import Derived.Test.YtmdkgiglibfihaaMrk
import Derived.Test.YtmdkgiglibfihaaLwP
import Derived.Deep.RegionHeld3
import Derived.Deep.RegionLaw
set_option linter.unusedVariables false
set_option linter.unusedSimpArgs false
namespace Go.Proofs.Ytmdkgiglibfihaa
open Go.RowKit Go.Maps
namespace S
theorem add_off (b off n : Nat) : (⟨b, off, none⟩ : Addr).add n = ⟨b, off + n, none⟩ := I.add_off b off n
theorem Ints.left {g : Nat} {xs ys : List ByteArray} {w : World} (h : Ints (some ⟨g, 0, none⟩) (xs ++ ys) w) : Ints (some ⟨g, 0, none⟩) xs w := by
  rcases h with h | ⟨b, off, e, h1, h2⟩
  · exact .inl (List.append_eq_nil_iff.1 h).1
  · cases e
    exact .inr ⟨g, 0, rfl, h1, fun i k q => h2 i k (by rw [List.getElem?_append_left (List.getElem?_eq_some_iff.1 q).1]; exact q)⟩
/-- append of one number: and what was there stays -/
theorem wpList_app1k (w0 : World) {ops : Array Oper} {rest : List Oper} {o : Oper} {a : Act} {Q : Exit → Act → World → Prop} (hgd : o.guard = none) (s x : Operand)
    (ho : o.op = .call { callee := .builtin .append, args := #[s, x], argTypes := #[23, 23] }) (B : Nat) (ao : Option Addr) (cap n : Nat) (zs : List ByteArray) (k : ByteArray) (t : TypeId) (c : Nat) (hzn : Hid (zs.length = n)) (hs : a.eval s = .slice ao n cap) (hrow : RowI B ao cap zs w0)
    (hx : a.eval x = .slice (some ⟨w0.heap.size, 0, none⟩) 1 c) (hb : Hid (zs.length < 4398046511104)) (hB : B ≤ w0.heap.size)
    (h : ∀ g cap' w', RowI B (some ⟨g, 0, none⟩) cap' (zs ++ [k]) w' → Turn (At ao) w0 w' → (ao = some ⟨g, 0, none⟩ ∨ w0.heap.size ≤ g) → Ints ao zs w' → wpList Try.prog ops Q rest (a.put o.dst (.slice (some ⟨g, 0, none⟩) (n + 1) cap')) w') :
    wpList Try.prog ops Q (o :: rest) a (w0.alloc (.cells #[.string k] t)) := by
  obtain ⟨i0, hi, hz0, hz1, hz2⟩ := info_parts infoE
  have hzn' := hzn.out
  subst hzn'
  rcases Nat.lt_or_ge cap (zs.length + 1) with hcap | hcap
  · have hi0 := hrow.ints.alloc (.cells #[.string k] t)
    refine wpList_append_grows _ hgd s x 23 ho 9 i0 (.string ByteArray.empty) 1 16 Try.underlying23 hi hz0 hz1 hz2 rfl (by decide) ao zs.length cap (zs.flatMap cells) hs (fun e => ?_) (by rw [flat_len, Nat.mul_one]) (fun ad q j u hj => ?_) ⟨w0.heap.size, 0, none⟩ 1 c [.string k] hx rfl (cell_one_new _ _ _) (by simp [Value.oneCell']) hcap (by have := hb.out; unfold maxLen; omega) (by have := hb.out; omega) ?_
    · rcases hrow.form with ⟨_, e1, e2⟩ | ⟨g, e', _⟩
      · rw [e1]; exact ⟨rfl, e2⟩
      · rw [e] at e'; cases e'
    · rw [flat_at] at hj
      cases hk : zs[j]? with
      | none => rw [hk] at hj; cases hj
      | some k' =>
        rw [hk] at hj
        obtain ⟨b, off, e, _, hc⟩ := hi0.at hk
        rw [q] at e; cases e
        rw [add_off, hc]; exact hj
    · intro v' w' r hg
      have r' : w'.ownsRow (w0.heap.size + 1) 9 1 v' (zs.length + 1) ((zs ++ [k]).flatMap cells) := by rw [List.flatMap_append]; simpa [cells] using r
      obtain ⟨g, cap', rfl, hg1, hg2⟩ := World.ownsRow.form r' (by omega)
      have t0 : Turn (fun _ => False) w0 w' := ((Turn.refl (fun _ => False) w0).alloc _).grown hg (fun j hj _ => by cases hj)
      refine h g cap' w' ?_ (t0.mono (fun _ _ q => q.elim)) (.inr (by omega)) (hrow.ints.turn t0 (fun _ _ _ _ q => q))
      have : RowI (w0.heap.size + 1) (some ⟨g, 0, none⟩) cap' (zs ++ [k]) w' := by unfold RowI; rw [List.length_append]; exact r'
      exact this.mono (by omega)
  · rcases hrow.form with ⟨_, e1, e2⟩ | ⟨g, rfl, hgB, hgl, _⟩
    · rw [e2] at hcap; omega
    · refine wpList_append_fits _ hgd s x 23 ho B 9 i0 1 Try.underlying23 hi hz1 g zs.length cap (zs.flatMap cells) hs (World.ownsRow.alloc hrow _) ⟨w0.heap.size, 0, none⟩ 1 c [.string k] hx rfl (cell_one_new _ _ _) (by simp [Value.oneCell']) hcap ?_
      intro w' r hg
      have r' : RowI B (some ⟨g, 0, none⟩) cap (zs ++ [k]) w' := by unfold RowI; rw [List.length_append, List.flatMap_append]; simpa [cells] using r
      exact h g cap w' r' (((Turn.refl _ w0).alloc _).grown hg (fun j hj _ => by cases hj; exact ⟨_, rfl, rfl⟩)) (.inl rfl) r'.ints.left
end S
end Go.Proofs.Ytmdkgiglibfihaa
set_option linter.unusedVariables false
set_option linter.unusedSimpArgs false
namespace Go.Proofs.Ytmdkgiglibfihaa
open Go.RowKit Go.Maps
namespace L
abbrev A2 := Option Addr × Nat
def ME : ByteArray := ⟨#[109, 97, 114, 107]⟩
def MO : ByteArray := ⟨#[109, 111, 114, 101]⟩
/-- lists in a row of slices, each in a row of its own -/
structure Gt (gg : Nat) (us : List A2) (C : Nat → List ByteArray) (w : World) : Prop where
  lt : gg < w.heap.size
  cell : ∀ (i : Nat) (a : A2), us[i]? = some a → w.cell? ⟨gg, i, none⟩ = some (.slice a.1 (C i).length a.2)
  each : ∀ (i : Nat) (a : A2), us[i]? = some a → S.RowI 0 a.1 a.2 (C i) w
  rr : ∀ (i j : Nat) (a b : A2), us[i]? = some a → us[j]? = some b → i ≠ j → ∀ k, S.At a.1 k → ¬ S.At b.1 k
  out : ∀ (i : Nat) (a : A2), us[i]? = some a → ¬ S.At a.1 gg
/-- the blocks of the lists -/
def Ls (us : List A2) (j : Nat) : Prop := ∃ (i : Nat) (a : A2), us[i]? = some a ∧ S.At a.1 j
theorem Gt.turn {gg : Nat} {us : List A2} {C : Nat → List ByteArray} {w w' : World} {T : Nat → Prop} (h : Gt gg us C w) (t : Turn T w w') (hg : ¬ T gg) (hT : ∀ j, Ls us j → ¬ T j) : Gt gg us C w' :=
  ⟨Nat.lt_of_lt_of_le h.lt t.size, fun i a q => (t.cell (p := ⟨gg, i, none⟩) h.lt hg).trans (h.cell i a q), fun i a q => (h.each i a q).turn t (fun j r => hT j ⟨i, a, q, r⟩), h.rr, h.out⟩
theorem Gt.drewN {gg : Nat} {us : List A2} {C : Nat → List ByteArray} {w : World} (h : Gt gg us C w) (n : Nat) : Gt gg us C (w.drewN n) := h.turn ((Turn.refl (fun _ => False) w).drewN n) id (fun _ _ => id)
theorem Gt.below {gg : Nat} {us : List A2} {C : Nat → List ByteArray} {w w' : World} (h : Gt gg us C w) (b : Below w.heap.size w w') : Gt gg us C w' := h.turn (turn_below (S := fun _ => False) b) id (fun _ _ => id)
theorem Gt.put {gg : Nat} {us : List A2} {C : Nat → List ByteArray} {w : World} {i g cap : Nat} (h : Gt gg us C w) (hi : us[i]? = some (some ⟨g, 0, none⟩, cap)) (k : Nat) (s : ByteArray) (hk : k < (C i).length) : Gt gg us (fun j => if j = i then (C i).set k s else C j) (w.setCell ⟨g, k, none⟩ (.string s)) := by
  have t : Turn (fun j => j = g) w (w.setCell ⟨g, k, none⟩ (.string s)) := (Turn.refl (fun j => j = g) w).setCell (p := ⟨g, k, none⟩) (fun _ => rfl) _
  have hgg : ¬ gg = g := fun e => h.out i _ hi ⟨_, rfl, e⟩
  refine ⟨Nat.lt_of_lt_of_le h.lt t.size, fun j a q => ?_, fun j a q => ?_, h.rr, h.out⟩
  · rw [(t.cell (p := ⟨gg, j, none⟩) h.lt hgg), h.cell j a q]
    by_cases e : j = i
    · subst e; simp
    · simp [e]
  · by_cases e : j = i
    · subst e
      rw [hi] at q; cases q
      simp only [if_true]
      exact (h.each j _ hi).put k s hk
    · simp only [e, if_false]
      exact (h.each j a q).turn t (fun b r e2 => by subst e2; exact h.rr j i a _ q hi e b r ⟨_, rfl, rfl⟩)
/-- what must be: lists that can be read, none of them in a block of P -/
def Wt (wo : Option Addr) (ls : List (List ByteArray)) (P : Nat → Prop) (w : World) : Prop := ls = [] ∨ ∃ b off, wo = some ⟨b, off, none⟩ ∧ b < w.heap.size ∧ ¬ P b ∧ ∀ i l, ls[i]? = some l → ∃ ro rc, w.cell? ⟨b, off + i, none⟩ = some (.slice ro l.length rc) ∧ l.length ≤ rc ∧ S.Ints ro l w ∧ (l ≠ [] → ∀ b off, ro = some ⟨b, off, none⟩ → ¬ P b ∧ b < w.heap.size)
theorem Wt.turn {wo : Option Addr} {ls : List (List ByteArray)} {P T : Nat → Prop} {w w' : World} (h : Wt wo ls P w) (t : Turn T w w') (hT : ∀ j, j < w.heap.size → T j → P j) : Wt wo ls P w' := by
  rcases h with h | ⟨b, off, h1, h2, h3, h4⟩
  · exact .inl h
  · refine .inr ⟨b, off, h1, Nat.lt_of_lt_of_le h2 t.size, h3, fun i l q => ?_⟩
    obtain ⟨ro, rc, c, hl, hI, hn⟩ := h4 i l q
    exact ⟨ro, rc, (t.cell (p := ⟨b, off + i, none⟩) h2 (fun q => h3 (hT b h2 q))).trans c, hl, hI.turn t (fun hne b off e q => (hn hne b off e).1 (hT b (hn hne b off e).2 q)), fun hne b off e => ⟨(hn hne b off e).1, Nat.lt_of_lt_of_le (hn hne b off e).2 t.size⟩⟩
theorem Wt.wide {wo : Option Addr} {ls : List (List ByteArray)} {P : Nat → Prop} {w : World} (h : Wt wo ls P w) : Wt wo ls (fun j => P j ∨ w.heap.size ≤ j) w := by
  rcases h with h | ⟨b, off, h1, h2, h3, h4⟩
  · exact .inl h
  · refine .inr ⟨b, off, h1, h2, fun q => ?_, fun i l q => ?_⟩
    · rcases q with q | q
      · exact h3 q
      · omega
    · obtain ⟨ro, rc, c, hl, hI, hn⟩ := h4 i l q
      refine ⟨ro, rc, c, hl, hI, fun hne b off e => ⟨fun q => ?_, (hn hne b off e).2⟩⟩
      rcases q with q | q
      · exact (hn hne b off e).1 q
      · have := (hn hne b off e).2; omega
theorem Wt.at {wo : Option Addr} {ls : List (List ByteArray)} {P : Nat → Prop} {w : World} (h : Wt wo ls P w) {i : Nat} {l : List ByteArray} (q : ls[i]? = some l) : ∃ b off ro rc, wo = some ⟨b, off, none⟩ ∧ b < w.heap.size ∧ ¬ P b ∧ w.cell? ⟨b, off + i, none⟩ = some (.slice ro l.length rc) ∧ l.length ≤ rc ∧ S.Ints ro l w := by
  rcases h with rfl | ⟨b, off, h1, h2, h3, h4⟩
  · simp at q
  · obtain ⟨ro, rc, c, hl, hI, hn⟩ := h4 i l q
    exact ⟨b, off, ro, rc, h1, h2, h3, c, hl, hI⟩
theorem fill_step (L : List ByteArray) (v : ByteArray) (k : Nat) (h : k < L.length) : (List.replicate k v ++ L.drop k).set k v = List.replicate (k + 1) v ++ L.drop (k + 1) := by
  rw [List.set_append_right _ _ (by simp), List.length_replicate, Nat.sub_self, List.drop_eq_getElem_cons h, List.set_cons_zero, List.replicate_succ', List.append_assoc]
  rfl
theorem fill_len (L : List ByteArray) (v : ByteArray) (k : Nat) (h : k ≤ L.length) : (List.replicate k v ++ L.drop k).length = L.length := by simp; omega
theorem frozenS {B : Nat} {g cap : Nat} {zs : List ByteArray} {w : World} (h : S.RowI B (some ⟨g, 0, none⟩) cap zs w) (i : Nat) : w.frozen? ⟨g, i, none⟩ = false := by
  rcases h.2 with ⟨hv, h0⟩ | ⟨g', cap', cur, hv, hb, hg, _⟩
  · cases hv
  · simp only [Value.slice.injEq, Option.some.injEq] at hv
    obtain ⟨he, _⟩ := hv
    cases he
    exact Lib.frozen_of_heap hg i
/-- the lists behind the writing of marks up to i -/
def C1 (C : Nat → List ByteArray) (i : Nat) (j : Nat) : List ByteArray := if j < i ∧ j % 2 = 0 then List.replicate (C j).length (mk j ME) else C j
def C2 (C : Nat → List ByteArray) (i k : Nat) (j : Nat) : List ByteArray := if j = i then List.replicate k (mk i ME) ++ (C i).drop k else C1 C i j
theorem C1_len (C : Nat → List ByteArray) (i j : Nat) : (C1 C i j).length = (C j).length := by unfold C1; split <;> simp
theorem C2_len (C : Nat → List ByteArray) (i k j : Nat) (h : k ≤ (C i).length) : (C2 C i k j).length = (C j).length := by
  unfold C2
  split
  · rename_i e; rw [e]; exact fill_len _ _ _ h
  · exact C1_len C i j
theorem C2_zero (C : Nat → List ByteArray) (i : Nat) : C2 C i 0 = C1 C i := by
  funext j
  unfold C2
  split
  · rename_i e; subst e; unfold C1; simp
  · rfl
theorem C2_step (C : Nat → List ByteArray) (i k : Nat) (h : k < (C i).length) : (fun j => if j = i then (C2 C i k i).set k (mk i ME) else C2 C i k j) = C2 C i (k + 1) := by
  funext j
  by_cases e : j = i
  · subst e
    simp only [if_true]
    unfold C2
    simp only [if_true]
    exact fill_step _ _ _ h
  · simp only [e, if_false]
    unfold C2
    simp only [e, if_false]
theorem C2_full (C : Nat → List ByteArray) (i : Nat) (hi : i % 2 = 0) : C2 C i (C i).length = C1 C (i + 2) := by
  funext j
  unfold C2 C1
  by_cases e : j = i
  · subst e
    simp [hi]
  · simp only [e, if_false]
    by_cases h1 : j < i ∧ j % 2 = 0
    · rw [if_pos h1, if_pos ⟨by omega, h1.2⟩]
    · rw [if_neg h1, if_neg (fun q => h1 ⟨by omega, q.2⟩)]
/-- all marks are written -/
def CM (C : Nat → List ByteArray) (j : Nat) : List ByteArray := if j % 2 = 0 then List.replicate (C j).length (mk j ME) else C j
theorem CM_len (C : Nat → List ByteArray) (j : Nat) : (CM C j).length = (C j).length := by unfold CM; split <;> simp
theorem Gt.congr {gg : Nat} {us : List A2} {C C' : Nat → List ByteArray} {w : World} (h : Gt gg us C w) (e : ∀ (i : Nat) (a : A2), us[i]? = some a → C i = C' i) : Gt gg us C' w :=
  ⟨h.lt, fun i a q => by rw [← e i a q]; exact h.cell i a q, fun i a q => by rw [← e i a q]; exact h.each i a q, h.rr, h.out⟩
/-- those that were gone on with -/
def DM (C : Nat → List ByteArray) (j : Nat) : List ByteArray := CM C j ++ (if j % 2 = 0 then List.replicate 12 (mk j MO) else [])
theorem infoR : (Try.prog.info? 23).map (fun i => (i.zero, i.size, i.bytes)) = some (some (.slice none 0 0), 1, 24) := by kernel_rfl
/-- append of one slice onto a row of slices of texts -/
theorem wpList_appR (w0 : World) {ops : Array Oper} {rest : List Oper} {o : Oper} {a : Act} {Q : Exit → Act → World → Prop} (hgd : o.guard = none) (s x : Operand)
    (ho : o.op = .call { callee := .builtin .append, args := #[s, x], argTypes := #[26, 26] }) (B : Nat) (ao : Option Addr) (cap n : Nat) (vs : List Value) (ro : Option Addr) (rl rc : Nat) (t : TypeId) (c : Nat) (hs : a.eval s = .slice ao n cap) (hrow : w0.ownsRow B 23 1 (.slice ao n cap) n vs)
    (hx : a.eval x = .slice (some ⟨w0.heap.size, 0, none⟩) 1 c) (hb : Hid (n < 1099511627776)) (hB : B ≤ w0.heap.size)
    (h : ∀ g cap' w', w'.ownsRow B 23 1 (.slice (some ⟨g, 0, none⟩) (n + 1) cap') (n + 1) (vs ++ [.slice ro rl rc]) → Turn (S.At ao) w0 w' → (ao = some ⟨g, 0, none⟩ ∨ w0.heap.size ≤ g) → g < w'.heap.size → wpList Try.prog ops Q rest (a.put o.dst (.slice (some ⟨g, 0, none⟩) (n + 1) cap')) w') :
    wpList Try.prog ops Q (o :: rest) a (w0.alloc (.cells #[.slice ro rl rc] t)) := by
  obtain ⟨i0, hi, hz0, hz1, hz2⟩ := info_parts infoR
  refine wpList_append_lies _ hgd s x 26 ho B 23 i0 (.slice none 0 0) 1 24 Try.underlying26 hi hz0 hz1 hz2 rfl (by decide) _ _ _ hs (World.ownsRow.alloc hrow _) ⟨w0.heap.size, 0, none⟩ 1 c [.slice ro rl rc] hx rfl (cell_one_new _ _ _) (by simp [Value.oneCell']) (by decide) (by have := hb.out; unfold maxLen; omega) (by have := hb.out; omega) (by simp; omega) (w0.heap.size + 1) (by simp) ?_
  intro g cap' w1 hrow1 hgrow hat hlt
  refine h g cap' w1 hrow1 (((Turn.refl _ w0).alloc _).grown hgrow (fun j hj _ => by
    cases ao with
    | none => cases hj
    | some ad => exact ⟨ad, rfl, by simpa [Value.ownBlock] using hj.symm⟩)) ?_ hlt
  rcases hat with q | q
  · cases ao with
    | none => cases q
    | some ad =>
      left
      rcases hrow.2 with ⟨e, _⟩ | ⟨g', cap'', cur, e, _⟩
      · cases e
      · cases e; simp only [Value.ownBlock, Option.some.injEq] at q; rw [q]
  · right; omega
/-- the lists gone on with, up to i: W0 is the heap's size where that begins -/
structure Lg (gg : Nat) (us : List A2) (C : Nat → List ByteArray) (i W0 : Nat) (lo : Option Addr) (lcap : Nat) (lf : Nat → A2) (w : World) : Prop where
  sz : W0 ≤ w.heap.size
  gl : gg < W0
  ul : ∀ (j : Nat) (a : A2), us[j]? = some a → ∀ b, S.At a.1 b → b < W0
  gcell : ∀ (j : Nat) (a : A2), us[j]? = some a → w.cell? ⟨gg, j, none⟩ = some (.slice a.1 (CM C j).length a.2)
  rows : ∀ (j : Nat) (a : A2), us[j]? = some a → i ≤ j → S.RowI 0 a.1 a.2 (CM C j) w
  ints : ∀ (j : Nat) (a : A2), us[j]? = some a → S.Ints a.1 (CM C j) w
  long : w.ownsRow W0 23 1 (.slice lo i lcap) i ((List.range i).map (fun j => Value.slice (lf j).1 (DM C j).length (lf j).2))
  lints : ∀ j, j < i → S.Ints (lf j).1 (DM C j) w ∧ (DM C j).length ≤ (lf j).2 ∧ ∀ b, S.At (lf j).1 b → ((∃ a, us[j]? = some a ∧ S.At a.1 b) ∨ W0 ≤ b) ∧ ¬ S.At lo b ∧ b < w.heap.size
end L
end Go.Proofs.Ytmdkgiglibfihaa
set_option linter.unusedVariables false
set_option linter.unusedSimpArgs false
namespace Go.Proofs.Ytmdkgiglibfihaa
open Go.RowKit Go.Maps
namespace L
theorem Lg.start {gg : Nat} {us : List A2} {C : Nat → List ByteArray} {w : World} (h : Gt gg us (CM C) w) : Lg gg us C 0 w.heap.size none 0 (fun _ => (none, 0)) w :=
  ⟨Nat.le_refl _, h.lt, fun j a q b r => ((h.each j a q).lt b r).2, h.cell, fun j a q _ => h.each j a q, fun j a q => (h.each j a q).ints, World.ownsRow_nil _ _ _ _, fun j hj => by omega⟩
theorem longLt {W0 n : Nat} {lo : Option Addr} {lcap : Nat} {vs : List Value} {w : World} (h : w.ownsRow W0 23 1 (.slice lo n lcap) n vs) : ∀ b, S.At lo b → W0 ≤ b ∧ b < w.heap.size := by
  rintro b ⟨a, e, rfl⟩
  rcases h.2 with ⟨hv, _⟩ | ⟨g, c, cur, hv, hb, hg, _⟩
  · rw [e] at hv; cases hv
  · simp only [Value.slice.injEq] at hv; rw [hv.1] at e; cases e; exact ⟨hb, lt_of_heap hg⟩
/-- a list stays while what was made of it goes on -/
theorem keepS {la a1 : Option Addr} {L Z : List ByteArray} {x y : World} {N W0 : Nat} (hr : la = a1 ∨ ∃ g, la = some ⟨g, 0, none⟩ ∧ N ≤ g) (hI : S.Ints a1 L x) (h0 : a1 = none ∨ ∃ g, a1 = some ⟨g, 0, none⟩) (t : Turn (S.At la) x y) (hk : S.Ints la (L ++ Z) y) (hul : ∀ b, S.At a1 b → b < W0) (hW : W0 ≤ N) : S.Ints a1 L y := by
  rcases hr with e | ⟨g, e, hg⟩
  · subst e
    rcases h0 with e | ⟨g, e⟩
    · subst e
      rcases hI with h | ⟨b, off, h, _⟩
      · exact .inl h
      · cases h
    · subst e; exact hk.left
  · refine hI.turn t (fun _ b off q r => ?_)
    obtain ⟨x', ex, rb⟩ := r
    rw [e] at ex; cases ex
    have := hul b ⟨_, q, rfl⟩
    simp at rb; omega
section
variable {gg : Nat} {us : List A2} {C : Nat → List ByteArray} {i W0 : Nat} {lo : Option Addr} {lcap : Nat} {lf : Nat → A2} {w1 w2 w3 : World} {a : A2}
theorem Lg.longAt (h : Lg gg us C i W0 lo lcap lf w1) (ha : us[i]? = some a) (t : Turn (fun j => S.At a.1 j ∨ w1.heap.size ≤ j) w1 w2) : w2.ownsRow W0 23 1 (.slice lo i lcap) i ((List.range i).map (fun j => Value.slice (lf j).1 (DM C j).length (lf j).2)) := by
  refine t.row h.long (fun g hg q => ?_)
  have hg' : S.At lo g := by
    cases lo with
    | none => cases hg
    | some x => exact ⟨x, rfl, by simpa [Value.ownBlock] using hg.symm⟩
  have hb := longLt h.long g hg'
  rcases q with q | q
  · have := h.ul i a ha g q; omega
  · omega
theorem Lg.next {la : Option Addr} {lc g cap' : Nat} (h : Lg gg us C i W0 lo lcap lf w1) (hrr : ∀ (i j : Nat) (a b : A2), us[i]? = some a → us[j]? = some b → i ≠ j → ∀ k, S.At a.1 k → ¬ S.At b.1 k) (hout : ∀ (i : Nat) (a : A2), us[i]? = some a → ¬ S.At a.1 gg) (ha : us[i]? = some a)
    (t : Turn (fun j => S.At a.1 j ∨ w1.heap.size ≤ j) w1 w2) (hI : S.Ints a.1 (CM C i) w2) (hl : S.Ints la (DM C i) w2) (hlc : (DM C i).length ≤ lc) (hla : ∀ b, S.At la b → (S.At a.1 b ∨ w1.heap.size ≤ b) ∧ b < w2.heap.size)
    (r3 : w3.ownsRow W0 23 1 (.slice (some ⟨g, 0, none⟩) (i + 1) cap') (i + 1) ((List.range i).map (fun j => Value.slice (lf j).1 (DM C j).length (lf j).2) ++ [.slice la (DM C i).length lc])) (t3 : Turn (S.At lo) w2 w3) (hg : lo = some ⟨g, 0, none⟩ ∨ w2.heap.size ≤ g) :
    Lg gg us C (i + 1) W0 (some ⟨g, 0, none⟩) cap' (fun j => if j = i then (la, lc) else lf j) w3 := by
  have s1 := h.sz
  have s2 := t.size
  have s3 := t3.size
  have hlo := longLt h.long
  have nT : ∀ (j : Nat) (b : A2), us[j]? = some b → j ≠ i → ∀ k, S.At b.1 k → ¬ (S.At a.1 k ∨ w1.heap.size ≤ k) := fun j b hb hj k q r => by
    rcases r with r | r
    · exact hrr j i b a hb ha hj k q r
    · have := h.ul j b hb k q; omega
  have n3 : ∀ (j : Nat) (b : A2), us[j]? = some b → ∀ k, S.At b.1 k → ¬ S.At lo k := fun j b hb k q r => by
    have := h.ul j b hb k q; have := (hlo k r).1; omega
  refine ⟨by omega, h.gl, h.ul, fun j b hb => ?_, fun j b hb hj => ?_, fun j b hb => ?_, ?_, fun j hj => ?_⟩
  · refine (t3.cell (p := ⟨gg, j, none⟩) (by have := h.gl; show gg < _; omega) (fun q => ?_)).trans ((t.cell (p := ⟨gg, j, none⟩) (by have := h.gl; show gg < _; omega) (fun q => ?_)).trans (h.gcell j b hb))
    · have := (hlo gg q).1; have := h.gl; omega
    · rcases q with q | q
      · exact hout i a ha q
      · have := h.gl; simp at q; omega
  · exact ((h.rows j b hb (by omega)).turn t (fun k q => nT j b hb (by omega) k q)).turn t3 (fun k q => n3 j b hb k q)
  · by_cases e : j = i
    · subst e
      rw [ha] at hb; cases hb
      exact hI.turn t3 (fun _ b' off e q => n3 j a ha b' ⟨_, e, rfl⟩ q)
    · exact ((h.ints j b hb).turn t (fun _ b' off e' q => nT j b hb e b' ⟨_, e', rfl⟩ q)).turn t3 (fun _ b' off e' q => n3 j b hb b' ⟨_, e', rfl⟩ q)
  · rw [List.range_succ, List.map_append]
    have e : (List.range i).map (fun j => Value.slice (if j = i then (la, lc) else lf j).1 (DM C j).length (if j = i then (la, lc) else lf j).2) = (List.range i).map (fun j => Value.slice (lf j).1 (DM C j).length (lf j).2) := List.map_congr_left (fun j hj => by
      have : j ≠ i := by have := List.mem_range.1 hj; omega
      simp only [this, if_false])
    rw [e]
    simpa using r3
  · by_cases e : j = i
    · subst e
      simp only [if_true]
      refine ⟨hl.turn t3 (fun _ b' off e q => ?_), hlc, fun b q => ⟨?_, fun r => ?_, by have := (hla b q).2; omega⟩⟩
      · have hb := hla b' ⟨_, e, rfl⟩
        have := hlo b' q
        rcases hb.1 with r | r
        · have := h.ul j a ha b' r; omega
        · omega
      · rcases (hla b q).1 with r | r
        · exact .inl ⟨a, ha, r⟩
        · exact .inr (by omega)
      · obtain ⟨x, ex, rfl⟩ := r; cases ex
        have hb := hla _ q
        rcases hg with e | e
        · have := hlo g ⟨_, e, rfl⟩
          rcases hb.1 with r | r
          · have := h.ul j a ha _ r; simp at this; omega
          · simp at r; omega
        · have := hb.2; simp at this; omega
    · simp only [e, if_false]
      obtain ⟨l1, l2, l3⟩ := h.lints j (by omega)
      refine ⟨(l1.turn t (fun _ b' off e' q => ?_)).turn t3 (fun _ b' off e' q => (l3 b' ⟨_, e', rfl⟩).2.1 q), l2, fun b q => ⟨(l3 b q).1, fun r => ?_, by have := (l3 b q).2.2; omega⟩⟩
      · obtain ⟨x1, x2, x3⟩ := l3 b' ⟨_, e', rfl⟩
        rcases q with q | q
        · rcases x1 with ⟨c, hc, r⟩ | r
          · exact hrr j i c a hc ha e b' r q
          · have := h.ul i a ha b' q; omega
        · omega
      · obtain ⟨x, ex, rfl⟩ := r; cases ex
        rcases hg with e' | e'
        · exact (l3 _ q).2.1 ⟨_, e', rfl⟩
        · have := (l3 _ q).2.2; simp at this; omega
end
end L
end Go.Proofs.Ytmdkgiglibfihaa
set_option linter.unusedVariables false
set_option linter.unusedSimpArgs false
namespace Go.Proofs.Ytmdkgiglibfihaa
open Go.RowKit Go.Maps
namespace L
set_option maxRecDepth 100000 in
set_option maxHeartbeats 16000000 in
theorem apart_any (gg gcap n : Nat) (us : List A2) (C : Nat → List ByteArray) (wo : Option Addr) (wcap : Nat) (w : World) (hus : us.length = n) (h : Gt gg us C w) (hw : Wt wo ((List.range n).map C) (Ls us) w) (hgc : n ≤ gcap) (hwc : n ≤ wcap) (hlen : Hid (n ≤ 1048576 ∧ ∀ i, (C i).length ≤ 1073741824)) :
    Calls Try.prog 17 #[.slice (some ⟨gg, 0, none⟩) n gcap, .slice wo n wcap] w fun e w' => e = .returned (.bool true) ∧ Turn (Ls us) w w' := by
  have H := hide' h
  have HW := hide' hw
  have hn64 : (n : Int) ≤ 1048576 := by have := hlen.out.1; omega
  have hul : Hid (∀ i, i < n → ∃ a, us[i]? = some a) := fun i hi => ⟨_, List.getElem?_eq_getElem (by omega)⟩
  have hwl : Hid (∀ i, i < n → ((List.range n).map C)[i]? = some (C i)) := fun i hi => by rw [List.getElem?_map, List.getElem?_range hi]; rfl
  clear h hw
  go_enter Try.func17, Try.ntmps17
  go_wp2_with fail
  go_loopw [5] (fun i wx => ∃ k m : Nat, k ≤ n ∧ i = .int .i64 (k : Int) ∧ wx = w.drewN m) (fun i _ => n - (intOf i).toNat)
  case atStart => exact ⟨0, 0, by omega, rfl, rfl⟩
  case round =>
    obtain ⟨k, m, hk, rfl, rfl⟩ := hrel
    by_cases hlt : k < n
    · have hlt' : (k : Int) < (n : Int) := by omega
      obtain ⟨a, ha⟩ := hul.out k hlt
      have c1 := H.out.cell k a ha
      obtain ⟨wb, off, ro, rc, rfl, _, _, c2, hrc, hI⟩ := HW.out.at (hwl.out k hlt)
      have c1V : (w.drewN m).cell? ⟨gg, k, none⟩ = some (.slice a.1 (C k).length a.2) := c1
      have c2V : (w.drewN m).cell? ⟨wb, off + k, none⟩ = some (.slice ro (C k).length rc) := c2
      have hS : Hid (Calls Try.prog 19 #[.slice a.1 (C k).length a.2, .slice ro (C k).length rc] (w.drewN m).drew fun e w' => e = .returned (.bool true) ∧ ∃ n, w' = (w.drewN m).drew.drewN n) := S.same_any (C k).length a.1 ro a.2 rc (C k) ((w.drewN m).drew) rfl ((H.out.each k a ha).ints.drewN (m + 1)) (hI.drewN (m + 1)) (H.out.each k a ha).cap hrc (by have := hlen.out.2 k; show _ < _; omega)
      have hV : Hid (∀ q, ((w.drewN m).drew.drewN q) = w.drewN (m + 1 + q)) := fun q => by rw [show (w.drewN m).drew = w.drewN (m + 1) from rfl, World.drewN_drewN]
      clear ha hI c1 c2
      generalize hVV : w.drewN m = V at *
      have HVV := hide' hVV
      clear hVV
      go_wp2_with fail
      go_region_held3 (fun w' => w'.cell? ⟨gg, k, none⟩ = some (.slice a.1 (C k).length a.2) ∧ w'.cell? ⟨wb, off + k, none⟩ = some (.slice ro (C k).length rc)) (first | go_keep) (first | (go_at_call 19; refine hS.out.mono ?_; rintro e W1 ⟨rfl, n1, rfl⟩))
      go_wp2_with fail
      exact ⟨⟨k + 1, m + (1 + n1), by omega, by go_num, by rw [← HVV.out, World.drewN_drewN]⟩, by simp [intOf]; omega⟩
    · have hkn : n = k := by omega
      subst hkn
      have hlt' : ¬ (n : Int) < (n : Int) := by omega
      have H1 := hide' (And.intro (H.out.drewN m) (And.intro (HW.out.turn ((Turn.refl (fun _ => False) w).drewN m) (fun _ _ q => q.elim)) ((Turn.refl (Ls us) w).drewN m)))
      clear hlt hk
      generalize w.drewN m = W at *
      go_wp2_with fail
      go_loopw [7] (fun i wx => ∃ h : Nat, i = .int .i64 ((2 * h : Nat) : Int) ∧ 2 * h ≤ n + 1 ∧ Gt gg us (C1 C (2 * h)) wx ∧ Wt wo ((List.range n).map C) (Ls us) wx ∧ Turn (Ls us) w wx) (fun i _ => n + 2 - (intOf i).toNat)
      case atStart => exact ⟨0, rfl, by omega, by have e : C1 C (2 * 0) = C := (by funext j; unfold C1; rw [if_neg (by omega)]); rw [e]; exact H1.out.1, H1.out.2.1, H1.out.2.2⟩
      case round =>
        obtain ⟨h, rfl, hh, hG, hWt, hT⟩ := hrel
        by_cases hlt : 2 * h < n
        · have hlt' : ((2 * h : Nat) : Int) < (n : Int) := by omega
          obtain ⟨i, hi⟩ : ∃ i, 2 * h = i := ⟨_, rfl⟩
          rw [hi] at hG hlt hlt' hh ⊢
          have hev : Hid (i % 2 = 0) := by show _ = _; omega
          obtain ⟨a, ha⟩ := hul.out i hlt
          have H2 := hide' (And.intro hG (And.intro hWt hT))
          have hCl := hlen.out.2 i
          have hcl64 : ((C i).length : Int) ≤ 1073741824 := by omega
          have Ha := hide' ha
          clear hG hWt hT hCl ha
          go_wp2_with fail
          go_loopw [8] (fun q wx => ∃ k : Nat, q = .int .i64 (k : Int) ∧ k ≤ (C i).length ∧ Gt gg us (C2 C i k) wx ∧ Wt wo ((List.range n).map C) (Ls us) wx ∧ Turn (Ls us) w wx) (fun q _ => (C i).length - (intOf q).toNat)
          case atStart => exact ⟨0, rfl, by omega, by rw [C2_zero]; exact H2.out.1, H2.out.2⟩
          case round =>
            obtain ⟨k, rfl, hkl, hG, hWt, hT⟩ := hrel
            have c1 := hG.cell i a Ha.out
            rw [C2_len C i k i hkl] at c1
            by_cases hlt2 : k < (C i).length
            · have hlt2' : (k : Int) < ((C i).length : Int) := by omega
              have hrow := hG.each i a Ha.out
              obtain ⟨z, hz⟩ : ∃ z, (C2 C i k i)[k]? = some z := ⟨_, List.getElem?_eq_getElem (by rw [C2_len C i k i hkl]; exact hlt2)⟩
              obtain ⟨g, hg0, cz, hgc2, _, hgl⟩ := S.row_at hrow hz
              rw [C2_len C i k i hkl] at hgc2
              obtain ⟨a1, a2⟩ := a
              simp only at hg0 c1 hgc2
              subst hg0
              have fz : wr.frozen? ⟨g, k, none⟩ = false := frozenS hrow k
              have Hm : Hid (∀ m, Calls Try.prog 49 #[.int .i64 (i : Int), .string ⟨#[109, 97, 114, 107]⟩] (wr.drewN m) fun e w' => e = .returned (.string (mk i ME)) ∧ w' = wr.drewN m) := fun m => mark_any i ME (wr.drewN m) (by have := hlen.out.1; show _ ≤ _; omega) (by show _ ≤ _; decide)
              have H3 := hide' (And.intro hG (And.intro hWt hT))
              clear hrow hz hG hWt hT
              have hgne : g ≠ gg := fun e => H3.out.1.out i _ Ha.out ⟨_, rfl, e.symm⟩
              have hMd : Hid (Calls Try.prog 49 #[.int .i64 (i : Int), .string ⟨#[109, 97, 114, 107]⟩] wr.drew fun e w' => e = .returned (.string (mk i ME)) ∧ w' = wr.drew) := Hm.out 1
              generalize hmk : mk i ME = mki at *
              have HMK := hide' hmk
              clear hmk
              go_wp2_with fail
              go_region_held3 (fun w' => w'.cell? ⟨gg, i, none⟩ = some (.slice (some ⟨g, 0, none⟩) (C i).length a2) ∧ w'.frozen? ⟨g, k, none⟩ = false) (first | go_keep) (first | (go_at_call 49; refine hMd.out.mono ?_; rintro e W1 ⟨rfl, hW1⟩; replace hW1 := hW1.symm; subst hW1))
              have tp : Turn (fun j => j = g) wr (wr.setCell ⟨g, k, none⟩ (.string mki)).drew := ((Turn.refl (fun j => j = g) wr).setCell (p := ⟨g, k, none⟩) (fun _ => rfl) _).drew
              have hLs : Ls us g := ⟨i, _, Ha.out, ⟨_, rfl, rfl⟩⟩
              have G4 : Hid (Gt gg us (C2 C i (k + 1)) (wr.setCell ⟨g, k, none⟩ (.string mki)).drew ∧ Wt wo ((List.range n).map C) (Ls us) (wr.setCell ⟨g, k, none⟩ (.string mki)).drew ∧ Turn (Ls us) w (wr.setCell ⟨g, k, none⟩ (.string mki)).drew) := by
                refine ⟨?_, H3.out.2.1.turn tp (fun j _ q => by rw [q]; exact hLs), H3.out.2.2.then tp (fun j _ q => by rw [q]; exact hLs)⟩
                rw [← C2_step C i k hlt2, ← HMK.out]
                exact (H3.out.1.put Ha.out k (mk i ME) (by rw [C2_len C i k i hkl]; exact hlt2)).drewN 1
              clear tp hLs
              generalize (wr.setCell ⟨g, k, none⟩ (.string mki)).drew = V at *
              go_wp2_with fail
              exact ⟨⟨k + 1, by go_num, by omega, G4.out⟩, by simp [intOf]; omega⟩
            · have hkn : (C i).length = k := by omega
              subst hkn
              have hlt2' : ¬ ((C i).length : Int) < ((C i).length : Int) := by omega
              have K : Hid (Gt gg us (C1 C (2 * (h + 1))) wr ∧ Wt wo ((List.range n).map C) (Ls us) wr ∧ Turn (Ls us) w wr) := ⟨by rw [show 2 * (h + 1) = i + 2 by omega, ← C2_full C i hev.out]; exact hG, hWt, hT⟩
              clear hG hWt hT
              go_wp2_with fail
              exact ⟨⟨h + 1, by go_num, by omega, K.out⟩, by simp [intOf]; omega⟩
        · have hlt' : ¬ ((2 * h : Nat) : Int) < (n : Int) := by omega
          have H5 : Hid (Gt gg us (CM C) wr ∧ Wt wo ((List.range n).map C) (Ls us) wr ∧ Turn (Ls us) w wr) := ⟨hG.congr (fun i a q => by
            have hi : i < us.length := (List.getElem?_eq_some_iff.1 q).1
            unfold C1 CM
            by_cases e : i % 2 = 0
            · rw [if_pos ⟨by omega, e⟩, if_pos e]
            · rw [if_neg (fun q => e q.2), if_neg e]), hWt, hT⟩
          clear hG hWt hT H1 H HW hlt hh
          have hst : Hid ((∀ (i j : Nat) (a b : A2), us[i]? = some a → us[j]? = some b → i ≠ j → ∀ k, S.At a.1 k → ¬ S.At b.1 k) ∧ ∀ (i : Nat) (a : A2), us[i]? = some a → ¬ S.At a.1 gg) := ⟨H5.out.1.rr, H5.out.1.out⟩
          have hcp : Hid (∀ (j : Nat) (a : A2), us[j]? = some a → (C j).length ≤ a.2) := fun j a q => by have := (H5.out.1.each j a q).cap; rw [CM_len] at this; exact this
          have hsw : Hid (w.heap.size ≤ wr.heap.size) := H5.out.2.2.size
          obtain ⟨W0, hW0⟩ : ∃ W0, W0 = wr.heap.size := ⟨_, rfl⟩
          have H6 : Hid (Lg gg us C 0 W0 none 0 (fun _ => (none, 0)) wr ∧ Wt wo ((List.range n).map C) (fun j => Ls us j ∨ W0 ≤ j) wr ∧ Turn (Ls us) w wr) := ⟨by rw [hW0]; exact Lg.start H5.out.1, by rw [hW0]; exact H5.out.2.1.wide, H5.out.2.2⟩
          have hWw : Hid (w.heap.size ≤ W0) := by rw [hW0]; exact hsw.out
          clear H5 hsw hW0
          go_wp2_with fail
          go_loopw [9, 10] (fun lg i wx => ∃ (k : Nat) (lo : Option Addr) (lcap : Nat) (lf : Nat → A2), i = .int .i64 (k : Int) ∧ k ≤ n ∧ lg = .slice lo k lcap ∧ Lg gg us C k W0 lo lcap lf wx ∧ Wt wo ((List.range n).map C) (fun j => Ls us j ∨ W0 ≤ j) wx ∧ Turn (Ls us) w wx) (fun _ i _ => n - (intOf i).toNat)
          case atStart => exact ⟨0, none, 0, _, rfl, by omega, rfl, H6.out⟩
          case round =>
            obtain ⟨k, lo, lcap, lf, rfl, hkn, rfl, hL, hWt, hT⟩ := hrel
            by_cases hlt : k < n
            · have hlt' : (k : Int) < (n : Int) := by omega
              obtain ⟨a, ha⟩ := hul.out k hlt
              have c1 := hL.gcell k a ha
              have hcl := hlen.out.2 k
              have hcm := CM_len C k
              have hcl64 : ((CM C k).length : Int) ≤ 1073741824 := by omega
              have H7 := hide' (And.intro hL (And.intro hWt hT))
              have hR := hL.rows k a ha (Nat.le_refl _)
              have HR := hide' (And.intro hR (hL.ints k a ha))
              have Ha := hide' ha
              obtain ⟨a1, a2⟩ := a
              simp only at c1
              clear hL hWt hT ha hcl hcm hR H6
              rcases (show k % 2 = 0 ∨ k % 2 = 1 by omega) with hev | hod
              · have hm0 : (k : Int).tmod 2 = 0 := by rw [Int.tmod_eq_emod_of_nonneg (by omega)]; omega
                have hD : Hid (DM C k = CM C k ++ List.replicate 12 (mk k MO)) := by show _ = _; unfold DM; rw [if_pos hev]
                have Hm : Hid (∀ V, Calls Try.prog 49 #[.int .i64 (k : Int), .string ⟨#[109, 111, 114, 101]⟩] V fun e w' => e = .returned (.string (mk k MO)) ∧ w' = V) := fun V => mark_any k MO V (by have := hlen.out.1; show _ ≤ _; omega) (by show _ ≤ _; decide)
                rename World => V0
                have hul1 : Hid (∀ b, S.At a1 b → b < W0) := fun b q => H7.out.1.ul k _ Ha.out b q
                have h0 : Hid (a1 = none ∨ ∃ g, a1 = some ⟨g, 0, none⟩) := by
                  rcases HR.out.1.form with ⟨e, _⟩ | ⟨g, e, _⟩
                  · exact .inl e
                  · exact .inr ⟨g, e⟩
                have hWr : Hid (W0 ≤ V0.heap.size) := H7.out.1.sz
                generalize hMM : mk k MO = M at *
                clear hMM
                go_wp2_with fail
                go_loopw [11, 12] (fun l q wx => ∃ (j : Nat) (la : Option Addr) (lc : Nat), q = .int .i64 (j : Int) ∧ j ≤ 12 ∧ l = .slice la ((CM C k).length + j) lc ∧ S.RowI 0 la lc (CM C k ++ List.replicate j M) wx ∧ Turn (fun b => S.At a1 b ∨ V0.heap.size ≤ b) V0 wx ∧ S.Ints a1 (CM C k) wx ∧ (la = a1 ∨ ∃ g, la = some ⟨g, 0, none⟩ ∧ V0.heap.size ≤ g)) (fun _ q _ => 12 - (intOf q).toNat)
                case atStart => exact ⟨0, a1, a2, rfl, by omega, rfl, by simpa using HR.out.1, Turn.refl _ _, HR.out.2, .inl rfl⟩
                case round =>
                  obtain ⟨j, la, lc, rfl, hj, rfl, h8⟩ := hrel
                  have H8 := hide' h8
                  clear h8
                  by_cases hj2 : j < 12
                  · have hj2' : (j : Int) < 12 := by omega
                    have hlen8 : Hid ((CM C k ++ List.replicate j M).length = (CM C k).length + j) := by show _ = _; simp
                    go_wp2_with (first | (go_at_call 49; refine (Hm.out _).mono ?_; rintro e W1 ⟨rfl, hW1⟩; subst hW1) | (at_builtin; refine S.wpList_app1k _ rfl _ _ rfl 0 la lc ((CM C k).length + j) (CM C k ++ List.replicate j M) M _ _ hlen8 rfl H8.out.1 rfl (by show _ < _; rw [hlen8.out]; omega) (Nat.zero_le _) ?_; intro g cap2 w2 r2 t2 hg2 hi2; have E2 := hide' (And.intro r2 (And.intro t2 (And.intro hg2 hi2))); clear r2 t2 hg2 hi2))
                    have hAt : ∀ b, S.At la b → S.At a1 b ∨ V0.heap.size ≤ b := fun b q => by
                      rcases H8.out.2.2.2 with e | ⟨g, e, hg⟩
                      · rw [e] at q; exact .inl q
                      · obtain ⟨x, ex, rb⟩ := q
                        rw [e] at ex; cases ex
                        right; rw [rb]; exact hg
                    refine ⟨⟨j + 1, some ⟨g, 0, none⟩, cap2, by go_num, by omega, rfl, by rw [List.replicate_succ', ← List.append_assoc]; exact E2.out.1, H8.out.2.1.then E2.out.2.1 (fun b _ q => hAt b q), keepS H8.out.2.2.2 H8.out.2.2.1 h0.out E2.out.2.1 E2.out.2.2.2 hul1.out hWr.out, ?_⟩, by simp [intOf]; omega⟩
                    rcases E2.out.2.2.1 with e | e
                    · rcases H8.out.2.2.2 with e' | ⟨g', e', hg⟩
                      · exact .inl (by rw [← e, e'])
                      · exact .inr ⟨g, rfl, by rw [e] at e'; cases e'; exact hg⟩
                    · exact .inr ⟨g, rfl, Nat.le_trans H8.out.2.1.size e⟩
                  · have hj3 : j = 12 := by omega
                    subst hj3
                    have hj2' : ¬ ((12 : Nat) : Int) < 12 := by omega
                    have hDl : (DM C k).length = (CM C k).length + 12 := by rw [hD.out]; simp
                    have hz : W0 ≤ wr.heap.size := Nat.le_trans hWr.out H8.out.2.1.size
                    have hrl := H7.out.1.longAt Ha.out H8.out.2.1
                    have Hrl := hide' hrl
                    clear hrl
                    go_wp2_with (at_builtin; refine wpList_appR _ rfl _ _ rfl W0 lo lcap k _ la ((CM C k).length + 12) lc _ _ rfl Hrl.out rfl (by show _ < _; omega) hz ?_; intro g cap' w3 r3 t3 hg3 hl3; have E3 := hide' (And.intro r3 (And.intro t3 hg3)); clear r3 t3 hg3 hl3)
                    have hnx := H7.out.1.next hst.out.1 hst.out.2 Ha.out H8.out.2.1 H8.out.2.2.1 (la := la) (lc := lc) (by rw [hD.out]; exact H8.out.1.ints) (by rw [hD.out]; exact H8.out.1.cap) (fun b q => ⟨by
                      rcases H8.out.2.2.2 with e | ⟨g, e, hg⟩
                      · rw [e] at q; exact .inl q
                      · obtain ⟨x, ex, rb⟩ := q
                        rw [e] at ex; cases ex
                        right; rw [rb]; exact hg, (H8.out.1.lt b q).2⟩) (by rw [hDl]; exact E3.out.1) E3.out.2.1 E3.out.2.2
                    have hlo := longLt Hrl.out
                    refine ⟨⟨k + 1, some ⟨g, 0, none⟩, cap', _, by go_num, by omega, rfl, hnx, (H7.out.2.1.turn H8.out.2.1 (fun b hb q => ?_)).turn E3.out.2.1 (fun b _ q => .inr (hlo b q).1), (H7.out.2.2.then H8.out.2.1 (fun b hb q => ?_)).then E3.out.2.1 (fun b hb q => by have := (hlo b q).1; have := hWw.out; omega)⟩, by simp [intOf]; omega⟩
                    · rcases q with q | q
                      · exact .inl ⟨k, _, Ha.out, q⟩
                      · omega
                    · rcases q with q | q
                      · exact ⟨k, _, Ha.out, q⟩
                      · have := hWw.out; have := hWr.out; omega
              · have hm1 : (k : Int).tmod 2 = 1 := by rw [Int.tmod_eq_emod_of_nonneg (by omega)]; omega
                have hm2 : ¬ (k : Int).tmod 2 = 0 := by omega
                have hD : Hid (DM C k = CM C k) := by show _ = _; unfold DM; rw [if_neg (by omega), List.append_nil]
                go_wp2_with fail
                go_loopw [11, 12] (fun l q wx => l = .slice a1 (CM C k).length a2 ∧ q = .int .i64 0 ∧ wx = wr) (fun _ _ _ => 0)
                case atStart => exact ⟨rfl, rfl, rfl⟩
                case round =>
                  obtain ⟨rfl, rfl, rfl⟩ := hrel
                  have hz := H7.out.1.sz
                  go_wp2_with (at_builtin; refine wpList_appR _ rfl _ _ rfl W0 lo lcap k _ a1 (CM C k).length a2 _ _ rfl H7.out.1.long rfl (by show _ < _; omega) hz ?_; intro g cap' w3 r3 t3 hg3 hl3; have E3 := hide' (And.intro r3 (And.intro t3 hg3)); clear r3 t3 hg3 hl3)
                  have hnx := H7.out.1.next hst.out.1 hst.out.2 Ha.out (Turn.refl _ _) HR.out.2 (la := a1) (lc := a2) (by rw [hD.out]; exact HR.out.2) (by rw [hD.out]; exact HR.out.1.cap) (fun b q => ⟨.inl q, (HR.out.1.lt b q).2⟩) (by rw [hD.out]; exact E3.out.1) E3.out.2.1 E3.out.2.2
                  have hlo := longLt H7.out.1.long
                  exact ⟨⟨k + 1, some ⟨g, 0, none⟩, cap', _, by go_num, by omega, rfl, hnx, H7.out.2.1.turn E3.out.2.1 (fun j _ q => .inr (hlo j q).1), H7.out.2.2.then E3.out.2.1 (fun j hj q => by have := (hlo j q).1; have := hWw.out; omega)⟩, by simp [intOf]; omega⟩
            · have hkn2 : n = k := by omega
              subst hkn2
              have hlt' : ¬ (n : Int) < (n : Int) := by omega
              have H9 := hide' (And.intro hL (And.intro hWt hT))
              clear hL hWt hT hlt hkn H6
              rename World => V0
              go_wp2_with fail
              go_loopw [13] (fun i wx => ∃ k m : Nat, k ≤ n ∧ i = .int .i64 (k : Int) ∧ wx = V0.drewN m) (fun i _ => n - (intOf i).toNat)
              case atStart => exact ⟨0, 0, by omega, rfl, rfl⟩
              case round =>
                obtain ⟨k, m, hk, rfl, rfl⟩ := hrel
                by_cases hlt : k < n
                · have hlt' : (k : Int) < (n : Int) := by omega
                  obtain ⟨a, ha⟩ := hul.out k hlt
                  have c1 := H9.out.1.gcell k a ha
                  have hI1 := hide' (H9.out.1.ints k a ha)
                  have Ha := hide' ha
                  obtain ⟨a1, a2⟩ := a
                  simp only at c1 hI1
                  clear ha
                  rcases (show k % 2 = 0 ∨ k % 2 = 1 by omega) with hev | hod
                  · have hm0 : (k : Int).tmod 2 = 0 := by rw [Int.tmod_eq_emod_of_nonneg (by omega)]; omega
                    have hn1 : (DM C k).length = (CM C k).length + 12 := by unfold DM; rw [if_pos hev]; simp
                    have hl0 : (CM C k).length ≤ 1073741824 := by rw [CM_len]; exact hlen.out.2 k
                    have hcpk := hcp.out k _ Ha.out
                    rw [← CM_len C k] at hcpk
                    obtain ⟨g, hlo, hlc, hgc2⟩ : ∃ g, lo = some ⟨g, 0, none⟩ ∧ V0.cell? ⟨g, k, none⟩ = some (.slice (lf k).1 (DM C k).length (lf k).2) ∧ n ≤ lcap := by
                      obtain ⟨g, cap', hv, _, _⟩ := World.ownsRow.form H9.out.1.long (by omega)
                      cases hv
                      refine ⟨g, rfl, ?_, ?_⟩
                      · rw [World.ownsRow.cellAt H9.out.1.long k (by omega), List.getElem?_map, List.getElem?_range hlt]; rfl
                      · rcases H9.out.1.long.2 with ⟨hv, _⟩ | ⟨g', c', cur, hv, _, _, _, hc⟩
                        · cases hv
                        · cases hv; omega
                    subst hlo
                    obtain ⟨hI2, hc2, hrest⟩ := H9.out.1.lints k hlt
                    clear hrest
                    have HI2 := hide' hI2
                    have hG1 : Hid (∀ j, j < (CM C k).length → (CM C k)[j]? = some (mk k ME) ∧ (DM C k)[j]? = some (mk k ME)) := fun j hj => by
                      have e : (CM C k)[j]? = some (mk k ME) := by
                        rw [CM_len] at hj
                        unfold CM; rw [if_pos hev, List.getElem?_replicate, if_pos hj]
                      exact ⟨e, by unfold DM; rw [List.getElem?_append_left hj]; exact e⟩
                    have hG2 : Hid (∀ j, ¬ j < (CM C k).length → j < (DM C k).length → (DM C k)[j]? = some (mk k MO)) := fun j hj hj2 => by
                      unfold DM; rw [List.getElem?_append_right (by omega), if_pos hev, List.getElem?_replicate, if_pos (by omega)]
                    have Hm1 : Hid (∀ V, Calls Try.prog 49 #[.int .i64 (k : Int), .string ⟨#[109, 97, 114, 107]⟩] V fun e w' => e = .returned (.string (mk k ME)) ∧ w' = V) := fun V => mark_any k ME V (by have := hlen.out.1; show _ ≤ _; omega) (by show _ ≤ _; decide)
                    have Hm2 : Hid (∀ V, Calls Try.prog 49 #[.int .i64 (k : Int), .string ⟨#[109, 111, 114, 101]⟩] V fun e w' => e = .returned (.string (mk k MO)) ∧ w' = V) := fun V => mark_any k MO V (by have := hlen.out.1; show _ ≤ _; omega) (by show _ ≤ _; decide)
                    clear hI2
                    generalize mk k ME = M1 at *
                    generalize mk k MO = M2 at *
                    generalize lf k = LL at hlc hc2 HI2
                    obtain ⟨l1, l2⟩ := LL
                    simp only at hlc hc2 HI2
                    generalize CM C k = X at *
                    generalize DM C k = Y at *
                    generalize hx : X.length = x at *
                    generalize hy : Y.length = y at *
                    have hx64 : (x : Int) ≤ 1073741824 := by omega
                    have hy64 : (y : Int) = x + 12 := by omega
                    have te1 := text_eq M1
                    have te2 := text_eq M2
                    go_wp2_with fail
                    go_loopw [15] (fun q wx => ∃ j m : Nat, j ≤ y ∧ q = .int .i64 (j : Int) ∧ wx = V0.drewN m) (fun q _ => y - (intOf q).toNat)
                    case atStart => exact ⟨0, m, by omega, rfl, rfl⟩
                    case round =>
                      obtain ⟨j, m, hj, rfl, rfl⟩ := hrel
                      have c1V : (V0.drewN m).cell? ⟨gg, k, none⟩ = some (.slice a1 x a2) := c1
                      have c2V : (V0.drewN m).cell? ⟨g, k, none⟩ = some (.slice l1 y l2) := hlc
                      by_cases hjy : j < y
                      · have hjy' : (j : Int) < (y : Int) := by omega
                        by_cases hjx : j < x
                        · have hjx' : (j : Int) < (x : Int) := by omega
                          have hd1 : decide ((x : Int) ≤ (j : Int)) = false := decide_eq_false (by omega)
                          have hd2 : decide (x ≤ j) = false := decide_eq_false (by omega)
                          have hd3 : decide ((j : Int) < (x : Int)) = true := decide_eq_true hjx'
                          have hd4 : decide (j < x) = true := decide_eq_true hjx
                          obtain ⟨e1, e2⟩ := hG1.out j hjx
                          obtain ⟨b1, o1, rfl, _, d1⟩ := hI1.out.at e1
                          obtain ⟨b2, o2, rfl, _, d2⟩ := HI2.out.at e2
                          have d1V : (V0.drewN m).cell? ⟨b1, o1 + j, none⟩ = some (.string M1) := d1
                          have d2V : (V0.drewN m).cell? ⟨b2, o2 + j, none⟩ = some (.string M1) := d2
                          have hmd : Hid (∀ q, (V0.drewN m).drewN q = V0.drewN (m + q)) := fun q => World.drewN_drewN _ _ _
                          clear d1 d2 e1 e2
                          generalize hVV : V0.drewN m = V at *
                          have HVV := hide' hVV
                          clear hVV
                          go_wp2_with fail
                          go_quiet ((go_at_call 49; exact Calls.quiet_of_same (Hm1.out _)))
                          go_wp2_with fail
                          exact ⟨⟨j + 1, m + nq, by omega, by go_num, by rw [← HVV.out, World.drewN_drewN]⟩, by simp [intOf]; omega⟩
                        · have hjx' : ¬ (j : Int) < (x : Int) := by omega
                          have hjx2 : (x : Int) ≤ (j : Int) := by omega
                          have hd1 : decide ((x : Int) ≤ (j : Int)) = true := decide_eq_true (by omega)
                          have hd2 : decide (x ≤ j) = true := decide_eq_true (by omega)
                          have hd3 : decide ((j : Int) < (x : Int)) = false := decide_eq_false hjx'
                          have hd4 : decide (j < x) = false := decide_eq_false hjx
                          have e2 := hG2.out j hjx hjy
                          obtain ⟨b2, o2, rfl, _, d2⟩ := HI2.out.at e2
                          have d2V : (V0.drewN m).cell? ⟨b2, o2 + j, none⟩ = some (.string M2) := d2
                          clear d2 e2
                          generalize hVV : V0.drewN m = V at *
                          have HVV := hide' hVV
                          clear hVV
                          go_wp2_with fail
                          go_quiet ((go_at_call 49; exact Calls.quiet_of_same (Hm2.out _)))
                          go_wp2_with fail
                          exact ⟨⟨j + 1, m + nq, by omega, by go_num, by rw [← HVV.out, World.drewN_drewN]⟩, by simp [intOf]; omega⟩
                      · have hjn : y = j := by omega
                        subst hjn
                        have hjy' : ¬ (y : Int) < (y : Int) := by omega
                        go_wp2_with fail
                        exact ⟨⟨k + 1, m, by omega, by go_num, rfl⟩, by simp [intOf]; omega⟩
                  · have hm1 : (k : Int).tmod 2 = 1 := by rw [Int.tmod_eq_emod_of_nonneg (by omega)]; omega
                    have hCM : CM C k = C k := by unfold CM; rw [if_neg (by omega)]
                    rw [hCM] at c1 hI1
                    obtain ⟨wb, off, ro, rc, rfl, _, _, c2, hrc, hI⟩ := H9.out.2.1.at (hwl.out k hlt)
                    have c1V : (V0.drewN m).cell? ⟨gg, k, none⟩ = some (.slice a1 (C k).length a2) := c1
                    have c2V : (V0.drewN m).cell? ⟨wb, off + k, none⟩ = some (.slice ro (C k).length rc) := c2
                    have hca : (C k).length ≤ a2 := hcp.out k _ Ha.out
                    have hS : Hid (Calls Try.prog 19 #[.slice a1 (C k).length a2, .slice ro (C k).length rc] (V0.drewN m).drew fun e w' => e = .returned (.bool true) ∧ ∃ n, w' = (V0.drewN m).drew.drewN n) := S.same_any (C k).length a1 ro a2 rc (C k) ((V0.drewN m).drew) rfl (hI1.out.drewN (m + 1)) (hI.drewN (m + 1)) hca hrc (by have := hlen.out.2 k; show _ < _; omega)
                    clear hI c1 c2
                    generalize hVV : V0.drewN m = V at *
                    have HVV := hide' hVV
                    clear hVV
                    go_wp2_with fail
                    go_region_held3 (fun w' => w'.cell? ⟨gg, k, none⟩ = some (.slice a1 (C k).length a2) ∧ w'.cell? ⟨wb, off + k, none⟩ = some (.slice ro (C k).length rc)) (first | go_keep) (first | (go_at_call 19; refine hS.out.mono ?_; rintro e W1 ⟨rfl, n1, rfl⟩))
                    go_wp2_with fail
                    exact ⟨⟨k + 1, m + (1 + n1), by omega, by go_num, by rw [← HVV.out, World.drewN_drewN]⟩, by simp [intOf]; omega⟩
                · have hkn : n = k := by omega
                  subst hkn
                  have hlt' : ¬ (n : Int) < (n : Int) := by omega
                  clear hlt hk
                  go_wp2_with fail
                  go_ret
                  exact ⟨rfl, H9.out.2.2.drewN m⟩
end L
end Go.Proofs.Ytmdkgiglibfihaa
