import Derived.Test.YtnlopepbcnegbaaGreatDoorJE
import Derived.RangeFuncNested
import Derived.RangeFuncBound
import Derived.RangeFuncCalls
import Derived.RangeFuncLeaves
import Derived.Test.YtnlopepbcnegbaaGreatDoorChOf
import Derived.Test.YtnlopepbcnegbaaGreatDoorRng
import Derived.Shelf.Abstract
import Derived.OwnWalkIn
import Derived.TacticsInMore
import Derived.LoopNIn
import Derived.LoopIn
set_option linter.unusedVariables false
set_option linter.unusedSimpArgs false
namespace Go.Proofs.YtnlopepbcnegbaaGreatDoor
open Go.RowKit
section
variable {P : Program} {F : Fence} {n : Nat}
/-- AN ITERATOR THAT HAS A BLOCK OF ITS OWN, b, which it turns between the things that it tells: what holds of the other blocks stays; of each thing x that it tells it knows something of the world ('Has x'). It tells each thing behind a new block. Between two things the round keeps the blocks of 'M b', and that new one. -/
def SeqOwnL {α : Type} (F : Fence) (n : Nat) (P : Program) (gf : Nat) (lb : Array Value) (encs : α → Array Value) (Has : α → World → Prop) (M : Nat → Nat → Prop) (S Sp : List α → Prop) (Nb : Nat) (w : World) : Prop :=
  ∀ (l : Nat) (J : Nat → List α → World → Prop) (Jx : List α → World → Prop) (W : World), Below w.heap.size w W →
    (∀ b W', W.heap.size ≤ b → b < W'.heap.size → Below W.heap.size W W' → J b [] W') →
    (∀ b pre W1 W2, W.heap.size ≤ b → J b pre W1 → Turn (fun k => k = b) W1 W2 → J b pre W2) →
    (∀ pre W1 W2, Jx pre W1 → Turn (fun _ => False) W1 W2 → Jx pre W2) →
    (∀ b pre x W0 Wy, W.heap.size ≤ b → pre.length < Nb → Sp (pre ++ [x]) → J b pre W0 → Below W0.heap.size W0 Wy → Has x Wy → YieldAt F (n - 1) P l (encs x) Wy fun e W' =>
      (e = .returned (.bool true) ∧ J b (pre ++ [x]) W' ∧ Keep (fun k => M b k) Wy W') ∨ (e = .returned (.bool false) ∧ Jx (pre ++ [x]) W')) →
    CallsIn F n P gf (#[.func (.yield l) #[] #[]] ++ lb) W fun e W' => (∃ v, e = .returned v) ∧
      ((∃ b xs, W.heap.size ≤ b ∧ S xs ∧ J b xs W') ∨ (∃ pre, Sp pre ∧ Jx pre W'))

theorem range_ownL {α : Type} {g : Operand} {ps : Array Tmp} {assign body : Code} {Q : Exit → Act → World → Prop} {a : Act} {w : World}
    (hro : F.round = none) (h1 : 1 ≤ n) {gf : Nat} {lb : Array Value} (hg : a.eval g = .func (.func gf) #[] lb) (hFg : F.fn gf) (eg : ∀ args w, (callFunc gf args).run P w = .ok (.enter gf args) w)
    {encs : α → Array Value} {Has : α → World → Prop} {M : Nat → Nat → Prop} {S Sp : List α → Prop} {Nb : Nat} (hseq : SeqOwnL F (n - 1) P gf lb encs Has M S Sp Nb w) (hps : ∀ x, (encs x).size = ps.size)
    (hM : ∀ b, w.heap.size + 2 ≤ b → ¬ M b (w.heap.size + 1))
    (I : Nat → List α → World → Prop) (Ix : Code → List α → World → Prop) (Ax : Nat → List α → α → Nat → Act → World → Prop)
    (hI0 : ∀ b W', w.heap.size + 2 ≤ b → b < W'.heap.size → Below w.heap.size w W' → I b [] W')
    (hIt : ∀ b pre W1 W2, w.heap.size + 2 ≤ b → I b pre W1 → Turn (fun k => k = b ∨ k = w.heap.size + 1) W1 W2 → I b pre W2)
    (hXt : ∀ c pre W1 W2, Ix c pre W1 → Turn (fun k => k = w.heap.size + 1) W1 W2 → Ix c pre W2)
    (hAt : ∀ b pre x N0 a' W1 W2, Ax b pre x N0 a' W1 → Turn (fun k => k = w.heap.size + 1) W1 W2 → Ax b pre x N0 a' W2)
    (hassign : ∀ (l b : Nat) (pre : List α) (x : α) (W0 Wy : World) (K : Act → World → Prop), w.heap.size + 2 ≤ b → w.heap.size + 2 ≤ W0.heap.size → pre.length < Nb → Sp (pre ++ [x]) → (∃ r, Wy.heap[w.heap.size + 1]? = some (.loop r)) → I b pre W0 → Below W0.heap.size W0 Wy → Has x Wy → (∀ a' W', Below Wy.heap.size Wy W' → Ax b pre x W0.heap.size a' W' → K a' W') →
      assign.wpIn (F.inRound l) (n - 1 - 1) P (Exit.then K (fun _ _ _ => False)) { tmps := (ps.zip (encs x)).foldl (fun t (p, v) => t.setIfInBounds p v) a.tmps, defers := [] } Wy)
    (hbody : ∀ (l b : Nat) (pre : List α) (x : α) (N0 : Nat) (a' : Act) (W : World), w.heap.size + 2 ≤ b → (∃ r, W.heap[w.heap.size + 1]? = some (.loop r)) → Ax b pre x N0 a' W → body.wpIn (F.inRound l) (n - 1 - 1) P (roundEnd w.heap.size M I Ix b N0 (pre ++ [x]) W) a' W)
    (hdone : ∀ (b : Nat) (xs : List α) (W : World), w.heap.size + 2 ≤ b → S xs → I b xs W → W.heap[w.heap.size]? = some (.deferred (some [])) → Q .normal { a with defers := { target := .collected w.heap.size, args := #[] } :: a.defers } W)
    (hstop : ∀ (c : Code) (pre : List α) (W : World), Sp pre → Ix c pre W → W.heap[w.heap.size]? = some (.deferred (some [])) → c.wpIn F n P Q { a with defers := { target := .collected w.heap.size, args := #[] } :: a.defers } W) :
    (Code.rangeFunc g ps assign body).wpIn F n P Q a w := by
  refine wpIn_rangeFunc fun fn hfn => ?_
  rw [hro]
  let rec0 : Loop := { state := .ready, pending := none, fn, tmps := a.tmps, params := ps, assign, body, defers := w.heap.size }
  obtain ⟨R, hR⟩ : ∃ R, R = rec0 := ⟨_, rfl⟩
  obtain ⟨W1, hW1⟩ : ∃ W1, (w.alloc (.deferred (some []))).alloc (.loop R) = W1 := ⟨_, rfl⟩
  have hsz : W1.heap.size = w.heap.size + 2 := by rw [← hW1]; simp
  have hL : W1.heap[w.heap.size + 1]? = some (.loop R) := by
    rw [← hW1]
    have := World.alloc_heap_new (w.alloc (.deferred (some []))) (.loop R)
    rwa [World.size_alloc] at this
  have hD : W1.heap[w.heap.size]? = some (.deferred (some [])) := by
    rw [← hW1]; exact (Below.heap_alloc _ _ _ (by simp)).trans (World.alloc_heap_new w _)
  have hbel : Below w.heap.size w W1 := by rw [← hW1]; exact ((Below.refl _ _).alloc (Nat.le_refl _) _).alloc (by simp) _
  refine ⟨w.heap.size + 1, [{ target := .collected w.heap.size, args := #[] }], W1, { target := .fn (.func gf) lb, args := #[.func (.yield (w.heap.size + 1)) #[] #[]] }, W1, gf,
    #[.func (.yield (w.heap.size + 1)) #[] #[]] ++ lb, W1, ?_, ?_, ?_, ?_, fun _ => h1, ?_⟩
  · rw [← hW1, hR]; exact run_enterLoop_outer _ _ _ _ _
  · simp only [resolve, hg]; simp [go_sem]
  · intro f' hf'; simp [Target.leads] at hf'; subst hf'; exact hFg
  · simp [invoke, go_sem, eg]
  have mine : ∀ b, w.heap.size + 2 ≤ b → ¬ (w.heap.size + 1 = b) ∧ ¬ (w.heap.size = b) := fun b hb => ⟨by omega, by omega⟩
  refine (hseq (w.heap.size + 1)
    (fun b pre W => I b pre W ∧ W.heap[w.heap.size + 1]? = some (.loop R) ∧ W.heap[w.heap.size]? = some (.deferred (some [])) ∧ w.heap.size + 1 < W.heap.size)
    (fun pre W => ∃ c, Ix c pre W ∧ W.heap[w.heap.size + 1]? = some (.loop { R with state := .done, pending := some c }) ∧ W.heap[w.heap.size]? = some (.deferred (some [])) ∧ w.heap.size + 1 < W.heap.size)
    W1 hbel ?start ?stab ?stabx ?yield).mono ?behind
  case start =>
    intro b W' hb hbl hW
    exact ⟨hI0 b W' (by omega) hbl (hbel.trans (hW.mono hbel.size)), (hW.block _ (by omega)).trans hL, (hW.block _ (by omega)).trans hD, by have := hW.size; omega⟩
  case stab =>
    rintro b pre A B hb ⟨hi, hl, hd, hz⟩ ht
    have hm := mine b (by omega)
    exact ⟨hIt b pre A B (by omega) hi (ht.mono fun k _ q => Or.inl q), (ht.block _ hz hm.1).trans hl, (ht.block _ (by omega) hm.2).trans hd, Nat.lt_of_lt_of_le hz ht.size⟩
  case stabx =>
    rintro pre A B ⟨c, hi, hl, hd, hz⟩ ht
    exact ⟨c, hXt c pre A B hi (ht.mono fun k _ q => q.elim), (ht.block _ hz id).trans hl, (ht.block _ (by omega) id).trans hd, Nat.lt_of_lt_of_le hz ht.size⟩
  case yield =>
    rintro b pre x W0 Wy hb hnb hsp ⟨hi, hl0, hd0, hz0⟩ hba0 hx
    have hb2 : w.heap.size + 2 ≤ b := by omega
    have hl := (hba0.block _ hz0).trans hl0
    have hd := (hba0.block _ (by omega)).trans hd0
    have hz : w.heap.size + 1 < Wy.heap.size := Nat.lt_of_lt_of_le hz0 hba0.size
    have hM' : ¬ (M b (w.heap.size + 1) ∨ w.heap.size + 1 = W0.heap.size) := fun q => q.elim (hM b hb2) (fun e => by omega)
    have hy := run_yield (P := P) (args := encs x) hl (by rw [hR]; exact hps x)
    refine ⟨_, _, _, _, hy, ?_⟩
    rw [hR]
    refine roundIn_of_wpIn hfn (hassign _ b pre x W0 Wy _ hb2 (by omega) hnb hsp ⟨_, hl⟩ hi hba0 hx ?_)
    intro a' Wa hba hax
    have hla := (hba.block _ hz).trans hl
    have hda := (hba.block _ (by omega)).trans hd
    have hza : w.heap.size + 1 < Wa.heap.size := Nat.lt_of_lt_of_le hz hba.size
    refine ⟨_, run_beginRound hla (by rw [hR]), ?_⟩
    obtain ⟨Wb, hWb⟩ : ∃ Wb, Wa.putObj (w.heap.size + 1) (.loop { R with state := .busy }) = Wb := ⟨_, rfl⟩
    have hlb : Wb.heap[w.heap.size + 1]? = some (.loop { R with state := .busy }) := by rw [← hWb]; exact World.putObj_heap_same hza
    have hdb : Wb.heap[w.heap.size]? = some (.deferred (some [])) := by rw [← hWb]; exact (World.putObj_heap_other (by omega)).trans hda
    have hzb : w.heap.size + 1 < Wb.heap.size := by rw [← hWb]; simpa using hza
    have hab := hAt b pre x W0.heap.size a' Wa Wb hax (by rw [← hWb]; exact turn_putObj _ _ _)
    have hkb : Keep (fun k => M b k ∨ k = W0.heap.size) Wy Wb := by
      rw [← hWb]
      exact Keep.trans ⟨hba.size, fun k _ hk => hba.block k hk⟩ (keep_putObj _ _ _ hM')
    rw [hWb]
    refine wpIn_mono (hbody _ b pre x W0.heap.size a' Wb hb2 ⟨_, hlb⟩ hab) ?_
    have fin : ∀ (jump : Option Code) (W3 : World), (∀ k, k = w.heap.size ∨ k = w.heap.size + 1 → W3.heap[k]? = Wb.heap[k]?) →
        ∃ W4, (Instr.endRound (w.heap.size + 1) jump).run P W3 = .ok (.bool jump.isNone) W4 ∧ W4 = W3.putObj (w.heap.size + 1) (.loop { R with state := if jump.isNone then .ready else .done, pending := jump }) ∧
          W4.heap[w.heap.size + 1]? = some (.loop { R with state := if jump.isNone then .ready else .done, pending := jump }) ∧ W4.heap[w.heap.size]? = some (.deferred (some [])) ∧ w.heap.size + 1 < W4.heap.size := by
      intro jump W3 h3
      have hl3 := (h3 (w.heap.size + 1) (Or.inr rfl)).trans hlb
      have hd3 := (h3 w.heap.size (Or.inl rfl)).trans hdb
      have hz3 : w.heap.size + 1 < W3.heap.size := (Array.getElem?_eq_some_iff.1 hl3).1
      exact ⟨_, run_endRound (P := P) jump hl3, rfl, World.putObj_heap_same hz3, (World.putObj_heap_other (by omega)).trans hd3, by simpa using hz3⟩
    rintro e a3 W3 hp
    cases e with
    | normal =>
      obtain ⟨h3, hk3, hi3⟩ := hp
      obtain ⟨W4, hr, hW4, hl4, hd4, hz4⟩ := fin none W3 h3
      have hR2 : ({ R with state := if (Option.none : Option Code).isNone then .ready else .done, pending := none } : Loop) = R := by rw [hR]; rfl
      rw [hR2, hR] at hl4
      refine ⟨_, _, hr, .inl ⟨rfl, ⟨?_, hl4, hd4, hz4⟩, ?_⟩⟩
      · rw [hW4]; exact hIt b _ W3 _ hb2 hi3 ((turn_putObj _ _ _).mono fun k _ q => Or.inr q)
      · rw [hW4]; exact ((hkb.trans hk3).trans (keep_putObj _ _ _ hM')).mono (fun k q => Or.inl q)
    | ret =>
      obtain ⟨h3, hi3⟩ := hp
      obtain ⟨W4, hr, hW4, hl4, hd4, hz4⟩ := fin (some .ret) W3 h3
      exact ⟨_, _, hr, .inr ⟨rfl, .ret, by rw [hW4]; exact hXt _ _ _ _ hi3 (turn_putObj _ _ _), by rw [hR] at hl4; exact hl4, hd4, hz4⟩⟩
    | exit id =>
      obtain ⟨h3, hi3⟩ := hp
      obtain ⟨W4, hr, hW4, hl4, hd4, hz4⟩ := fin (some (.exit id)) W3 h3
      exact ⟨_, _, hr, .inr ⟨rfl, .exit id, by rw [hW4]; exact hXt _ _ _ _ hi3 (turn_putObj _ _ _), by rw [hR] at hl4; exact hl4, hd4, hz4⟩⟩
    | goto t => exact hp.elim
    | panic ch => exact hp.elim
    | outgrown => exact hp.elim
  case behind =>
    rintro e W2 ⟨⟨v, rfl⟩, (⟨b, xs, hb, hS, hi, hl, hd, hz⟩ | ⟨pre, hSp, c, hi, hl, hd, hz⟩)⟩
    · refine ⟨R.pending, _, run_endLoop (P := P) hl (by rw [hR]; simp [rec0]), ?_⟩
      have hp : R.pending = none := by rw [hR]
      rw [hp]
      exact hdone b xs _ (by omega) hS (hIt b _ W2 _ (by omega) hi ((turn_putObj _ _ _).mono fun k _ q => Or.inr q)) ((World.putObj_heap_other (by omega)).trans hd)
    · refine ⟨some c, _, run_endLoop (P := P) hl (by simp), ?_⟩
      exact hstop c pre _ hSp (hXt _ _ _ _ hi (turn_putObj _ _ _)) ((World.putObj_heap_other (by omega)).trans hd)
end

attribute [local go_sem] Oper.semAt_some
def scnL : List Tkn × Option Flw := ([], some (5, 0, 0, ⟨#[]⟩))
def SL (xs : List El) : Prop := ∃ fb, xs = [.flt fb 5 0 0 ⟨#[]⟩]
def ML (b k : Nat) : Prop := k = b ∨ False
theorem tell_long : Tellr SL SL scnL := by
  refine ⟨?_, ?_, ?_, ?_⟩
  · rintro xs ⟨fb, rfl⟩; exact ⟨rfl, rfl⟩
  · rintro xs ⟨fb, rfl⟩; rfl
  · rintro xs ⟨fb, rfl⟩; exact ⟨rfl, rfl⟩
  · rintro pre x ⟨fb, h⟩
    have h' : pre ++ [x] = [] ++ [.flt fb 5 0 0 ⟨#[]⟩] := h
    obtain ⟨rfl, hx⟩ := List.append_inj' h' rfl
    have hx : x = .flt fb 5 0 0 ⟨#[]⟩ := by simpa using hx
    subst hx
    refine ⟨fun y hy => by simp at hy, ?_⟩
    intro fb' code l c word e
    injection e with e1 e2 e3 e4 e5
    rw [← e2]; decide
set_option maxHeartbeats 2000000 in
set_option maxRecDepth 100000 in
theorem each28_seq (n : Nat) (hn : 1 ≤ n) (w : World) : SeqOwnL Fence.wide n Tryz.prog 28 #[] El.encs (El.Has w.heap.size) ML SL SL 1 w := by
  intro l J Jx W hW hJ0 hJt hXt hY
  have HJ := hide' (And.intro hJ0 (And.intro hJt (And.intro hXt hY)))
  have hwW := hW.size
  clear hJ0 hJt hXt hY
  refine callsIn_of_wp Tryz.func28 rfl trivial ?_ rfl
  simp only [Tryz.ntmps28, List.size_toArray, List.length_cons, List.length_nil, Nat.reduceAdd, Nat.reduceSub, Array.replicate_succ, Array.replicate_zero, List.push_toArray, List.append_toArray, List.nil_append, List.cons_append]
  have ba : Below W.heap.size W (W.alloc (.cells #[.int .i64 5, .int .i64 0, .int .i64 0, .string ⟨#[]⟩] 25)) := (Below.refl _ _).alloc (Nat.le_refl _) _
  have hJ2 := HJ.out.1 W.heap.size (W.alloc (.cells #[.int .i64 5, .int .i64 0, .int .i64 0, .string ⟨#[]⟩] 25)) (Nat.le_refl _) (by simp) ba
  obtain ⟨fn, tmps, assign, body, hy, hR⟩ := HJ.out.2.2.2 W.heap.size [] (.flt W.heap.size 5 0 0 ⟨#[]⟩) _ _ (Nat.le_refl _) (by simp) ⟨W.heap.size, rfl⟩ hJ2 (Below.refl _ _) ⟨heap_alloc_new _ _, hwW⟩
  unfold El.encs at hy
  clear hJ2 ba
  gi_wp2
  refine hR.mono ?_
  rintro e W3 (⟨rfl, hJ3, hk3⟩ | ⟨rfl, hJx3⟩)
  · gi_wp2
    refine bodyPost_end (results_none rfl _ _ _) rfl ?_
    exact ⟨⟨_, rfl⟩, .inl ⟨W.heap.size, _, Nat.le_refl _, ⟨W.heap.size, rfl⟩, hJ3⟩⟩
  · gi_wp2
    refine bodyPost_end (results_none rfl _ _ _) rfl ?_
    exact ⟨⟨_, rfl⟩, .inr ⟨_, ⟨W.heap.size, rfl⟩, hJx3⟩⟩
end Go.Proofs.YtnlopepbcnegbaaGreatDoor
