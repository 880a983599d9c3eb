import Derived.RangeFuncNested
import Derived.RangeFuncBound
import Derived.RangeFuncCalls
import Derived.RangeFuncLeaves
import Derived.Test.YtbgjggblaeadlaaTurn
set_option linter.unusedVariables false
set_option linter.unusedSimpArgs false
namespace Go.Proofs.Ytbgjggblaeadlaa
open Go.RowKit
namespace X
/-- a block at or above B that holds no cells -/
def Nc (B : Nat) (W : World) (j : Nat) : Prop := B ≤ j ∧ ∃ o : Obj, W.heap[j]? = some o ∧ o.isCells = false
/-- a quiet turn: blocks are laid; of those that lie there none but such as hold no cells, at or above B, are turned -/
def QT (B : Nat) (W W' : World) : Prop := Turn (Nc B W) W W'
theorem QT.refl (B : Nat) (W : World) : QT B W W := Turn.refl _ _
theorem QT.trans {B : Nat} {a b c : World} (h : QT B a b) (k : QT B b c) : QT B a c :=
  Turn.then h k (fun i hi q => by
    obtain ⟨q1, o, q2, q3⟩ := q
    by_cases e : Nc B a i
    · exact e
    · exact ⟨q1, o, (h.block i hi e).symm.trans q2, q3⟩)
theorem QT.mono {B B' : Nat} {a b : World} (h : QT B a b) (hB : B' ≤ B) : QT B' a b := Turn.mono h (fun k _ q => ⟨Nat.le_trans hB q.1, q.2⟩)
theorem QT.alloc {B : Nat} {a b : World} (h : QT B a b) (o : Obj) : QT B a (b.alloc o) := Turn.alloc h o
theorem QT.drew {B : Nat} {a b : World} (h : QT B a b) : QT B a b.drew := Turn.drew h
theorem QT.none {B : Nat} {a b : World} (h : Turn (fun _ => False) a b) : QT B a b := Turn.mono h (fun _ _ q => q.elim)
theorem QT.putObj {B l : Nat} {W : World} {o : Obj} (o' : Obj) (hl : W.heap[l]? = some o) (ho : o.isCells = false) (hB : B ≤ l) : QT B W (W.putObj l o') :=
  ⟨rfl, rfl, rfl, by simp, fun k _ hk => World.putObj_heap_other (fun e => hk (by rw [e]; exact ⟨hB, o, hl, ho⟩))⟩
theorem QT.low {B : Nat} {a b : World} (h : QT B a b) {j : Nat} (hj : j < B) (hl : j < a.heap.size) : b.heap[j]? = a.heap[j]? := Turn.block h j hl (fun q => by have := q.1; omega)
theorem keeps_putObj {B l : Nat} (W : World) (o' : Obj) (h : l < B) : KeepsFrom B W (W.putObj l o') := ⟨by simp, fun k o hB hk _ => (World.putObj_heap_other (by omega)).trans hk⟩
theorem ltH {w : World} {b : Nat} {o : Obj} (h : w.heap[b]? = some o) : b < w.heap.size := (Array.getElem?_eq_some_iff.1 h).1
theorem QT.block {B : Nat} {a b : World} (h : QT B a b) {j : Nat} {c : Array Value} {t : TypeId} {r : Nat × Nat} (hj : a.heap[j]? = some (.cells c t r)) : b.heap[j]? = some (.cells c t r) :=
  (Turn.block h j (ltH hj) (fun q => by obtain ⟨_, o, q2, q3⟩ := q; rw [hj] at q2; cases q2; cases q3)).trans hj
theorem keeps_of_turn {B : Nat} {a b : World} (h : Turn (fun _ => False) a b) : KeepsFrom B a b := ⟨h.size, fun k o _ hk _ => (h.block k (ltH hk) id).trans hk⟩
theorem keeps_up {B B' : Nat} {a b : World} (h : KeepsFrom B a b) (hB : B ≤ B') : KeepsFrom B' a b := ⟨h.size, fun k o hk h1 h2 => h.same k o (Nat.le_trans hB hk) h1 h2⟩

/-- a turn of an iterator: as a quiet one, and blocks of its own are turned too -/
def QM (B : Nat) (M : Nat → Prop) (W W' : World) : Prop := Turn (fun j => Nc B W j ∨ (M j ∧ B ≤ j)) W W'
theorem QM.of {B : Nat} {M : Nat → Prop} {a b : World} (h : QT B a b) : QM B M a b := Turn.mono h (fun _ _ q => .inl q)
theorem QM.mono {B B' : Nat} {M : Nat → Prop} {a b : World} (h : QM B M a b) (hB : B' ≤ B) : QM B' M a b := Turn.mono h (fun k _ q => q.elim (fun q => .inl ⟨Nat.le_trans hB q.1, q.2⟩) (fun q => .inr ⟨q.1, Nat.le_trans hB q.2⟩))
theorem QM.low {B : Nat} {M : Nat → Prop} {a b : World} (h : QM B M a b) {j : Nat} (hj : j < B) (hl : j < a.heap.size) : b.heap[j]? = a.heap[j]? := Turn.block h j hl (fun q => q.elim (fun q => by have := q.1; omega) (fun q => by have := q.2; omega))
theorem QM.block {B : Nat} {M : Nat → Prop} {a b : World} (h : QM B M a b) {j : Nat} {c : Array Value} {t : TypeId} {r : Nat × Nat} (hj : a.heap[j]? = some (.cells c t r)) (hM : ¬ M j) : b.heap[j]? = some (.cells c t r) :=
  (Turn.block h j (ltH hj) (fun q => q.elim (fun q => by obtain ⟨_, o, q2, q3⟩ := q; rw [hj] at q2; cases q2; cases q3) (fun q => hM q.1))).trans hj

/-- AN ITERATOR: the k-th thing that it tells is one of which 'Is k M x' holds; it tells all that 'Fin' says. It reads the blocks of M0, and at each thing some blocks M of its own beside, which it may turn between two things; blocks 'Gv x' of a thing are handed over. The round keeps the blocks of M that are not handed over, and whatever holds no cells and lies at or above the heap's size at the call. -/
def SeqG {α : Type} (F : Fence) (P : Program) (gf : Nat) (lb : Array Value) (encs : α → Array Value) (Is : Nat → (Nat → Prop) → Nat → α → World → Prop) (Gv : α → Nat → Prop) (Fin : Nat → Prop) (M0 : Nat → Prop) (w : World) : Prop :=
  ∀ (n l : Nat) (J : (Nat → Prop) → Nat → World → Prop) (Jx : Nat → World → Prop) (W : World), w.heap.size ≤ W.heap.size → (∀ j, M0 j → W.heap[j]? = w.heap[j]?) →
    (∀ M M' k W1 W2, J M k W1 → QM W.heap.size M W1 W2 → (∀ j, M' j → M j ∨ W1.heap.size ≤ j) → J M' k W2) →
    (∀ k W1 W2, Jx k W1 → QT W.heap.size W1 W2 → Jx k W2) →
    (∀ m M k x W1, Is W.heap.size M k x W1 → J M k W1 → (∀ j, M j → j < W1.heap.size ∧ (M0 j ∨ W.heap.size ≤ j)) → YieldAt F m P l (encs x) W1 fun e W' =>
      KeepsFrom W.heap.size W1 W' ∧ ((e = .returned (.bool true) ∧ J (fun j => M j ∧ ¬ Gv x j) (k + 1) W' ∧ ∀ j, M j → ¬ Gv x j → W'.heap[j]? = W1.heap[j]?) ∨ (e = .returned (.bool false) ∧ Jx (k + 1) W'))) →
    J M0 0 W →
    CallsIn F n P gf (#[.func (.yield l) #[] #[]] ++ lb) W fun e W' => (∃ v, e = .returned v) ∧ ((∃ M k, Fin k ∧ J M k W') ∨ ∃ k, Jx k W')

/-- how a round may be left -/
def roundG (B : Nat) (M G : Nat → Prop) (I : (Nat → Prop) → Nat → World → Prop) (Ix : Code → Nat → World → Prop) (k : Nat) (W : World) : Exit → Act → World → Prop
  | .normal, _, W' => KeepsFrom B W W' ∧ I (fun j => M j ∧ ¬ G j) (k + 1) W' ∧ ∀ j, M j → ¬ G j → W'.heap[j]? = W.heap[j]?
  | .ret, _, W' => KeepsFrom B W W' ∧ Ix .ret (k + 1) W'
  | .exit id, _, W' => KeepsFrom B W W' ∧ Ix (.exit id) (k + 1) W'
  | _, _, _ => False

section
variable {P : Program} {F : Fence} {n : Nat}
theorem range_g {α : Type} {g : Operand} {ps : Array Tmp} {assign body : Code} {Q : Exit → Act → World → Prop} {a : Act} {w w0 : World}
    (hro : F.round = none) (h1 : 1 ≤ n) {gf : Nat} {lb : Array Value} (hg : a.eval g = .func (.func gf) #[] lb) (hFg : F.fn gf) (eg : ∀ args w, (callFunc gf args).run P w = .ok (.enter gf args) w)
    {encs : α → Array Value} {Is : Nat → (Nat → Prop) → Nat → α → World → Prop} {Gv : α → Nat → Prop} {Fin : Nat → Prop} {M0 : Nat → Prop} (hseq : SeqG F P gf lb encs Is Gv Fin M0 w0) (hw0 : w0.heap.size ≤ w.heap.size) (hk0 : ∀ j, M0 j → j < w.heap.size ∧ w.heap[j]? = w0.heap[j]?) (hps : ∀ x, (encs x).size = ps.size)
    (I : (Nat → Prop) → Nat → World → Prop) (Ix : Code → Nat → World → Prop) (Ax : (Nat → Prop) → Nat → α → Act → World → Prop)
    (h0 : I M0 0 w)
    (hIt : ∀ M M' k W1 W2, I M k W1 → QM w.heap.size M W1 W2 → (∀ j, M' j → M j ∨ W1.heap.size ≤ j) → I M' k W2)
    (hXt : ∀ c k W1 W2, Ix c k W1 → QT w.heap.size W1 W2 → Ix c k W2)
    (hAt : ∀ M k x a' W1 W2, Ax M k x a' W1 → QT w.heap.size W1 W2 → Ax M k x a' W2)
    (hassign : ∀ (m l : Nat) (M : Nat → Prop) (k : Nat) (x : α) (W1 : World) (K : Act → World → Prop), Is (w.heap.size + 2) M k x W1 → I M k W1 → (∀ j, M j → j < W1.heap.size ∧ (M0 j ∨ w.heap.size + 2 ≤ j)) → (∀ a' W2, Turn (fun _ => False) W1 W2 → Ax M k x a' W2 → K a' W2) →
      assign.wpIn (F.inRound l) m P (Exit.then K (fun _ _ _ => False)) { tmps := (ps.zip (encs x)).foldl (fun t (p, v) => t.setIfInBounds p v) a.tmps, defers := [] } W1)
    (hbody : ∀ (m l : Nat) (M : Nat → Prop) (k : Nat) (x : α) (a' : Act) (W : World), Ax M k x a' W → body.wpIn (F.inRound l) m P (roundG w.heap.size M (Gv x) I Ix k W) a' W)
    (hdone : ∀ (M : Nat → Prop) (k : Nat) (W : World), Fin k → I M k W → W.heap[w.heap.size]? = some (.deferred (some [])) → Q .normal { a with defers := { target := .collected w.heap.size, args := #[] } :: a.defers } W)
    (hstop : ∀ (c : Code) (k : Nat) (W : World), Ix c k W → W.heap[w.heap.size]? = some (.deferred (some [])) → c.wpIn F n P Q { a with defers := { target := .collected w.heap.size, args := #[] } :: a.defers } W) :
    (Code.rangeFunc g ps assign body).wpIn F n P Q a w := by
  refine wpIn_rangeFunc fun fn hfn => ?_
  rw [hro]
  let rec0 : Loop := { state := .ready, pending := none, fn, tmps := a.tmps, params := ps, assign, body, defers := w.heap.size }
  obtain ⟨R, hR⟩ : ∃ R, R = rec0 := ⟨_, rfl⟩
  obtain ⟨W1, hW1⟩ : ∃ W1, (w.alloc (.deferred (some []))).alloc (.loop R) = W1 := ⟨_, rfl⟩
  have hsz : W1.heap.size = w.heap.size + 2 := by rw [← hW1]; simp
  have hL : W1.heap[w.heap.size + 1]? = some (.loop R) := by
    rw [← hW1]
    have := World.alloc_heap_new (w.alloc (.deferred (some []))) (.loop R)
    rwa [World.size_alloc] at this
  have hD : W1.heap[w.heap.size]? = some (.deferred (some [])) := by
    rw [← hW1]; exact (Below.heap_alloc _ _ _ (by simp)).trans (World.alloc_heap_new w _)
  have hq1 : QT w.heap.size w W1 := by rw [← hW1]; exact ((QT.refl _ w).alloc _).alloc _
  refine ⟨w.heap.size + 1, [{ target := .collected w.heap.size, args := #[] }], W1, { target := .fn (.func gf) lb, args := #[.func (.yield (w.heap.size + 1)) #[] #[]] }, W1, gf,
    #[.func (.yield (w.heap.size + 1)) #[] #[]] ++ lb, W1, ?_, ?_, ?_, ?_, fun _ => h1, ?_⟩
  · rw [← hW1, hR]; exact run_enterLoop_outer _ _ _ _ _
  · simp only [resolve, hg]; simp [go_sem]
  · intro f' hf'; simp [Target.leads] at hf'; subst hf'; exact hFg
  · simp [invoke, go_sem, eg]
  have hlo : ∀ {A B : World}, QT W1.heap.size A B → QT w.heap.size A B := fun h => h.mono (by omega)
  refine (hseq (n - 1) (w.heap.size + 1)
    (fun M k W => I M k W ∧ W.heap[w.heap.size + 1]? = some (.loop R) ∧ W.heap[w.heap.size]? = some (.deferred (some [])) ∧ w.heap.size + 1 < W.heap.size)
    (fun k W => ∃ c, Ix c k W ∧ W.heap[w.heap.size + 1]? = some (.loop { R with state := .done, pending := some c }) ∧ W.heap[w.heap.size]? = some (.deferred (some [])) ∧ w.heap.size + 1 < W.heap.size)
    W1 (by omega) ?same ?stab ?stabx ?yield ?start).mono ?behind
  case same => exact fun j hj => (hq1.low (hk0 j hj).1 (hk0 j hj).1).trans (hk0 j hj).2
  case start => exact ⟨hIt M0 M0 0 w W1 h0 (QM.of hq1) (fun j hj => Or.inl hj), hL, hD, by omega⟩
  case stab =>
    rintro M M' k A B ⟨hi, hl, hd, hz⟩ ht hm
    exact ⟨hIt M M' k A B hi (ht.mono (by omega)) hm, (ht.low (by omega) hz).trans hl, (ht.low (by omega) (by omega)).trans hd, Nat.lt_of_lt_of_le hz (Turn.size ht)⟩
  case stabx =>
    rintro k A B ⟨c, hi, hl, hd, hz⟩ ht
    exact ⟨c, hXt c k A B hi (hlo ht), (ht.low (by omega) hz).trans hl, (ht.low (by omega) (by omega)).trans hd, Nat.lt_of_lt_of_le hz (Turn.size ht)⟩
  case yield =>
    rintro m M k x W0 hx ⟨hi, hl, hd, hz⟩ hm
    have hML : ¬ M (w.heap.size + 1) := fun q => by
      rcases (hm _ q).2 with q | q
      · have := (hk0 _ q).1; omega
      · omega
    have hy := run_yield (P := P) (args := encs x) hl (by rw [hR]; exact hps x)
    refine ⟨_, _, _, _, hy, ?_⟩
    rw [hR]
    refine roundIn_of_wpIn hfn (hassign m _ M k x W0 _ (by rw [← hsz]; exact hx) hi (fun j hj => ⟨(hm j hj).1, by rcases (hm j hj).2 with q | q; exact Or.inl q; exact Or.inr (by omega)⟩) ?_)
    intro a' Wa hba hax
    have hla := (hba.block _ hz id).trans hl
    have hda := (hba.block _ (by omega) id).trans hd
    have hza : w.heap.size + 1 < Wa.heap.size := Nat.lt_of_lt_of_le hz hba.size
    refine ⟨_, run_beginRound hla (by rw [hR]), ?_⟩
    obtain ⟨Wb, hWb⟩ : ∃ Wb, Wa.putObj (w.heap.size + 1) (.loop { R with state := .busy }) = Wb := ⟨_, rfl⟩
    have hlb : Wb.heap[w.heap.size + 1]? = some (.loop { R with state := .busy }) := by rw [← hWb]; exact World.putObj_heap_same hza
    have hdb : Wb.heap[w.heap.size]? = some (.deferred (some [])) := by rw [← hWb]; exact (World.putObj_heap_other (by omega)).trans hda
    have hzb : w.heap.size + 1 < Wb.heap.size := by rw [← hWb]; simpa using hza
    have hqb : QT w.heap.size Wa Wb := by rw [← hWb]; exact QT.putObj _ hla rfl (by omega)
    have hab := hAt M k x a' Wa Wb hax hqb
    have hk1 : KeepsFrom W1.heap.size W0 Wb := (keeps_of_turn hba).trans (by rw [← hWb]; exact keeps_putObj _ _ (by omega))
    have hm1 : ∀ j, M j → Wb.heap[j]? = W0.heap[j]? := fun j hj => by
      rw [← hWb]
      exact (World.putObj_heap_other (show j ≠ w.heap.size + 1 from fun e => hML (by rw [← e]; exact hj))).trans (hba.block j (hm j hj).1 id)
    rw [hWb]
    refine wpIn_mono (hbody m _ M k x a' Wb hab) ?_
    have fin : ∀ (jump : Option Code) (W3 : World), KeepsFrom w.heap.size Wb W3 →
        ∃ W4, (Instr.endRound (w.heap.size + 1) jump).run P W3 = .ok (.bool jump.isNone) W4 ∧ W4 = W3.putObj (w.heap.size + 1) (.loop { R with state := if jump.isNone then .ready else .done, pending := jump }) ∧
          W4.heap[w.heap.size + 1]? = some (.loop { R with state := if jump.isNone then .ready else .done, pending := jump }) ∧ W4.heap[w.heap.size]? = some (.deferred (some [])) ∧ w.heap.size + 1 < W4.heap.size ∧ QT w.heap.size W3 W4 ∧ KeepsFrom W1.heap.size W0 W4 := by
      intro jump W3 h3
      have hl3 := h3.same (w.heap.size + 1) _ (by omega) hlb rfl
      have hd3 := h3.same w.heap.size _ (by omega) hdb rfl
      have hz3 : w.heap.size + 1 < W3.heap.size := (Array.getElem?_eq_some_iff.1 hl3).1
      exact ⟨_, run_endRound (P := P) jump hl3, rfl, World.putObj_heap_same hz3, (World.putObj_heap_other (by omega)).trans hd3, by simpa using hz3, QT.putObj _ hl3 rfl (by omega), (hk1.trans (keeps_up h3 (by omega))).trans (keeps_putObj _ _ (by omega))⟩
    rintro e a3 W3 hp
    cases e with
    | normal =>
      obtain ⟨h3, hi3, hk3⟩ := hp
      obtain ⟨W4, hr, hW4, hl4, hd4, hz4, hq4, hk4⟩ := fin none W3 h3
      have hR2 : ({ R with state := if (Option.none : Option Code).isNone then .ready else .done, pending := none } : Loop) = R := by rw [hR]; rfl
      rw [hR2, hR] at hl4
      refine ⟨_, _, hr, hk4, .inl ⟨rfl, ⟨hIt _ _ _ W3 W4 hi3 (QM.of hq4) (fun j hj => Or.inl hj), hl4, hd4, hz4⟩, fun j hj hg => ?_⟩⟩
      rw [hW4]
      exact ((World.putObj_heap_other (show j ≠ w.heap.size + 1 from fun e => hML (by rw [← e]; exact hj))).trans (hk3 j hj hg)).trans (hm1 j hj)
    | ret =>
      obtain ⟨h3, hi3⟩ := hp
      obtain ⟨W4, hr, hW4, hl4, hd4, hz4, hq4, hk4⟩ := fin (some .ret) W3 h3
      exact ⟨_, _, hr, hk4, .inr ⟨rfl, .ret, hXt _ _ _ _ hi3 hq4, by rw [hR] at hl4; exact hl4, hd4, hz4⟩⟩
    | exit id =>
      obtain ⟨h3, hi3⟩ := hp
      obtain ⟨W4, hr, hW4, hl4, hd4, hz4, hq4, hk4⟩ := fin (some (.exit id)) W3 h3
      exact ⟨_, _, hr, hk4, .inr ⟨rfl, .exit id, hXt _ _ _ _ hi3 hq4, by rw [hR] at hl4; exact hl4, hd4, hz4⟩⟩
    | goto t => exact hp.elim
    | panic ch => exact hp.elim
    | outgrown => exact hp.elim
  case behind =>
    rintro e W2 ⟨⟨v, rfl⟩, (⟨M, k, hfin, hi, hl, hd, hz⟩ | ⟨k, c, hi, hl, hd, hz⟩)⟩
    · refine ⟨R.pending, _, run_endLoop (P := P) hl (by rw [hR]; simp [rec0]), ?_⟩
      have hp : R.pending = none := by rw [hR]
      rw [hp]
      exact hdone M k _ hfin (hIt M M _ W2 _ hi (QM.of (QT.putObj _ hl rfl (by omega))) (fun j hj => Or.inl hj)) ((World.putObj_heap_other (by omega)).trans hd)
    · refine ⟨some c, _, run_endLoop (P := P) hl (by simp), ?_⟩
      exact hstop c k _ (hXt _ _ _ _ hi (QT.putObj _ hl rfl (by omega))) ((World.putObj_heap_other (by omega)).trans hd)
end
end X
end Go.Proofs.Ytbgjggblaeadlaa
