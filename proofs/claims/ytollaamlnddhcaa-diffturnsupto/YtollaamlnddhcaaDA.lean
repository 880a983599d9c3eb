import Derived.RangeFuncNested
import Derived.RangeFuncBound
import Derived.RangeFuncCalls
import Derived.RangeFuncLeaves
import Derived.Test.YtollaamlnddhcaaTurn
import Derived.Test.YtollaamlnddhcaaKL
set_option linter.unusedVariables false
set_option linter.unusedSimpArgs false
namespace Go.Proofs.Ytollaamlnddhcaa
open Go.RowKit
namespace D
/-- a block at or above B that holds no cells -/
def Nc (B : Nat) (W : World) (j : Nat) : Prop := B ≤ j ∧ ∃ o : Obj, W.heap[j]? = some o ∧ o.isCells = false
/-- a quiet turn: blocks are laid; of those that lie there none but such as hold no cells, at or above B, are turned -/
def QT (B : Nat) (W W' : World) : Prop := Turn (Nc B W) W W'
theorem QT.refl (B : Nat) (W : World) : QT B W W := Turn.refl _ _
theorem QT.trans {B : Nat} {a b c : World} (h : QT B a b) (k : QT B b c) : QT B a c :=
  Turn.then h k (fun i hi q => by
    obtain ⟨q1, o, q2, q3⟩ := q
    by_cases e : Nc B a i
    · exact e
    · exact ⟨q1, o, (h.block i hi e).symm.trans q2, q3⟩)
theorem QT.mono {B B' : Nat} {a b : World} (h : QT B a b) (hB : B' ≤ B) : QT B' a b := Turn.mono h (fun k _ q => ⟨Nat.le_trans hB q.1, q.2⟩)
theorem QT.alloc {B : Nat} {a b : World} (h : QT B a b) (o : Obj) : QT B a (b.alloc o) := Turn.alloc h o
theorem QT.drew {B : Nat} {a b : World} (h : QT B a b) : QT B a b.drew := Turn.drew h
theorem QT.none {B : Nat} {a b : World} (h : Turn (fun _ => False) a b) : QT B a b := Turn.mono h (fun _ _ q => q.elim)
theorem QT.putObj {B l : Nat} {W : World} {o : Obj} (o' : Obj) (hl : W.heap[l]? = some o) (ho : o.isCells = false) (hB : B ≤ l) : QT B W (W.putObj l o') :=
  ⟨rfl, rfl, rfl, by simp, fun k _ hk => World.putObj_heap_other (fun e => hk (by rw [e]; exact ⟨hB, o, hl, ho⟩))⟩
theorem QT.low {B : Nat} {a b : World} (h : QT B a b) {j : Nat} (hj : j < B) (hl : j < a.heap.size) : b.heap[j]? = a.heap[j]? := Turn.block h j hl (fun q => by have := q.1; omega)
theorem keeps_putObj {B l : Nat} (W : World) (o' : Obj) (h : l < B) : KeepsFrom B W (W.putObj l o') := ⟨by simp, fun k o hB hk _ => (World.putObj_heap_other (by omega)).trans hk⟩
theorem ltH {w : World} {b : Nat} {o : Obj} (h : w.heap[b]? = some o) : b < w.heap.size := (Array.getElem?_eq_some_iff.1 h).1
theorem QT.block {B : Nat} {a b : World} (h : QT B a b) {j : Nat} {c : Array Value} {t : TypeId} {r : Nat × Nat} (hj : a.heap[j]? = some (.cells c t r)) : b.heap[j]? = some (.cells c t r) :=
  (Turn.block h j (ltH hj) (fun q => by obtain ⟨_, o, q2, q3⟩ := q; rw [hj] at q2; cases q2; cases q3)).trans hj
theorem keeps_of_turn {B : Nat} {a b : World} (h : Turn (fun _ => False) a b) : KeepsFrom B a b := ⟨h.size, fun k o _ hk _ => (h.block k (ltH hk) id).trans hk⟩
theorem keeps_up {B B' : Nat} {a b : World} (h : KeepsFrom B a b) (hB : B ≤ B') : KeepsFrom B' a b := ⟨h.size, fun k o hk h1 h2 => h.same k o (Nat.le_trans hB hk) h1 h2⟩

/-- AN ITERATOR THAT TELLS JUST THE LIST xs. It reads the blocks of M0, and at each thing some blocks M of its own beside; it turns no cells. The round keeps the blocks of M, and whatever holds no cells and lies at or above the heap's size at the call. -/
def SeqF {α : Type} (F : Fence) (P : Program) (gf : Nat) (lb : Array Value) (encs : α → Array Value) (xs : List α) (M0 : Nat → Prop) (w : World) : Prop :=
  ∀ (n l : Nat) (J : (Nat → Prop) → Nat → World → Prop) (Jx : Nat → World → Prop) (W : World), w.heap.size ≤ W.heap.size → (∀ j, M0 j → W.heap[j]? = w.heap[j]?) →
    (∀ M M' k W1 W2, J M k W1 → QT W.heap.size W1 W2 → (∀ j, M' j → M j ∨ W1.heap.size ≤ j) → J M' k W2) →
    (∀ k W1 W2, Jx k W1 → QT W.heap.size W1 W2 → Jx k W2) →
    (∀ m M k x W1, xs[k]? = some x → J M k W1 → (∀ j, M j → j < W1.heap.size ∧ (M0 j ∨ W.heap.size ≤ j)) → YieldAt F m P l (encs x) W1 fun e W' =>
      KeepsFrom W.heap.size W1 W' ∧ ((e = .returned (.bool true) ∧ J M (k + 1) W' ∧ ∀ j, M j → W'.heap[j]? = W1.heap[j]?) ∨ (e = .returned (.bool false) ∧ Jx (k + 1) W'))) →
    J M0 0 W →
    CallsIn F n P gf (#[.func (.yield l) #[] #[]] ++ lb) W fun e W' => (∃ v, e = .returned v) ∧ ((∃ M, J M xs.length W') ∨ ∃ k, Jx k W')

/-- how a round may be left -/
def roundF (B : Nat) (M : Nat → Prop) (I : (Nat → Prop) → Nat → World → Prop) (Ix : Code → Nat → World → Prop) (k : Nat) (W : World) : Exit → Act → World → Prop
  | .normal, _, W' => KeepsFrom B W W' ∧ I M (k + 1) W' ∧ ∀ j, M j → W'.heap[j]? = W.heap[j]?
  | .ret, _, W' => KeepsFrom B W W' ∧ Ix .ret (k + 1) W'
  | .exit id, _, W' => KeepsFrom B W W' ∧ Ix (.exit id) (k + 1) W'
  | _, _, _ => False

section
variable {P : Program} {F : Fence} {n : Nat}
theorem range_f {α : Type} {g : Operand} {ps : Array Tmp} {assign body : Code} {Q : Exit → Act → World → Prop} {a : Act} {w w0 : World}
    (hro : F.round = none) (h1 : 1 ≤ n) {gf : Nat} {lb : Array Value} (hg : a.eval g = .func (.func gf) #[] lb) (hFg : F.fn gf) (eg : ∀ args w, (callFunc gf args).run P w = .ok (.enter gf args) w)
    {encs : α → Array Value} {xs : List α} {M0 : Nat → Prop} (hseq : SeqF F P gf lb encs xs M0 w0) (hw0 : w0.heap.size ≤ w.heap.size) (hk0 : ∀ j, M0 j → j < w.heap.size ∧ w.heap[j]? = w0.heap[j]?) (hps : ∀ x, (encs x).size = ps.size)
    (I : (Nat → Prop) → Nat → World → Prop) (Ix : Code → Nat → World → Prop) (Ax : (Nat → Prop) → Nat → α → Act → World → Prop)
    (h0 : I M0 0 w)
    (hIt : ∀ M M' k W1 W2, I M k W1 → QT w.heap.size W1 W2 → (∀ j, M' j → M j ∨ W1.heap.size ≤ j) → I M' k W2)
    (hXt : ∀ c k W1 W2, Ix c k W1 → QT w.heap.size W1 W2 → Ix c k W2)
    (hAt : ∀ M k x a' W1 W2, Ax M k x a' W1 → QT w.heap.size W1 W2 → Ax M k x a' W2)
    (hassign : ∀ (m l : Nat) (M : Nat → Prop) (k : Nat) (x : α) (W1 : World) (K : Act → World → Prop), xs[k]? = some x → I M k W1 → (∀ j, M j → j < W1.heap.size ∧ (M0 j ∨ w.heap.size + 2 ≤ j)) → (∀ a' W2, Turn (fun _ => False) W1 W2 → Ax M k x a' W2 → K a' W2) →
      assign.wpIn (F.inRound l) m P (Exit.then K (fun _ _ _ => False)) { tmps := (ps.zip (encs x)).foldl (fun t (p, v) => t.setIfInBounds p v) a.tmps, defers := [] } W1)
    (hbody : ∀ (m l : Nat) (M : Nat → Prop) (k : Nat) (x : α) (a' : Act) (W : World), xs[k]? = some x → Ax M k x a' W → body.wpIn (F.inRound l) m P (roundF w.heap.size M I Ix k W) a' W)
    (hdone : ∀ (M : Nat → Prop) (W : World), I M xs.length W → W.heap[w.heap.size]? = some (.deferred (some [])) → Q .normal { a with defers := { target := .collected w.heap.size, args := #[] } :: a.defers } W)
    (hstop : ∀ (c : Code) (k : Nat) (W : World), Ix c k W → W.heap[w.heap.size]? = some (.deferred (some [])) → c.wpIn F n P Q { a with defers := { target := .collected w.heap.size, args := #[] } :: a.defers } W) :
    (Code.rangeFunc g ps assign body).wpIn F n P Q a w := by
  refine wpIn_rangeFunc fun fn hfn => ?_
  rw [hro]
  let rec0 : Loop := { state := .ready, pending := none, fn, tmps := a.tmps, params := ps, assign, body, defers := w.heap.size }
  obtain ⟨R, hR⟩ : ∃ R, R = rec0 := ⟨_, rfl⟩
  obtain ⟨W1, hW1⟩ : ∃ W1, (w.alloc (.deferred (some []))).alloc (.loop R) = W1 := ⟨_, rfl⟩
  have hsz : W1.heap.size = w.heap.size + 2 := by rw [← hW1]; simp
  have hL : W1.heap[w.heap.size + 1]? = some (.loop R) := by
    rw [← hW1]
    have := World.alloc_heap_new (w.alloc (.deferred (some []))) (.loop R)
    rwa [World.size_alloc] at this
  have hD : W1.heap[w.heap.size]? = some (.deferred (some [])) := by
    rw [← hW1]; exact (Below.heap_alloc _ _ _ (by simp)).trans (World.alloc_heap_new w _)
  have hq1 : QT w.heap.size w W1 := by rw [← hW1]; exact ((QT.refl _ w).alloc _).alloc _
  refine ⟨w.heap.size + 1, [{ target := .collected w.heap.size, args := #[] }], W1, { target := .fn (.func gf) lb, args := #[.func (.yield (w.heap.size + 1)) #[] #[]] }, W1, gf,
    #[.func (.yield (w.heap.size + 1)) #[] #[]] ++ lb, W1, ?_, ?_, ?_, ?_, fun _ => h1, ?_⟩
  · rw [← hW1, hR]; exact run_enterLoop_outer _ _ _ _ _
  · simp only [resolve, hg]; simp [go_sem]
  · intro f' hf'; simp [Target.leads] at hf'; subst hf'; exact hFg
  · simp [invoke, go_sem, eg]
  have hlo : ∀ {A B : World}, QT W1.heap.size A B → QT w.heap.size A B := fun h => h.mono (by omega)
  refine (hseq (n - 1) (w.heap.size + 1)
    (fun M k W => I M k W ∧ W.heap[w.heap.size + 1]? = some (.loop R) ∧ W.heap[w.heap.size]? = some (.deferred (some [])) ∧ w.heap.size + 1 < W.heap.size)
    (fun k W => ∃ c, Ix c k W ∧ W.heap[w.heap.size + 1]? = some (.loop { R with state := .done, pending := some c }) ∧ W.heap[w.heap.size]? = some (.deferred (some [])) ∧ w.heap.size + 1 < W.heap.size)
    W1 (by omega) ?same ?stab ?stabx ?yield ?start).mono ?behind
  case same => exact fun j hj => (hq1.low (hk0 j hj).1 (hk0 j hj).1).trans (hk0 j hj).2
  case start => exact ⟨hIt M0 M0 0 w W1 h0 hq1 (fun j hj => Or.inl hj), hL, hD, by omega⟩
  case stab =>
    rintro M M' k A B ⟨hi, hl, hd, hz⟩ ht hm
    exact ⟨hIt M M' k A B hi (hlo ht) hm, (ht.low (by omega) hz).trans hl, (ht.low (by omega) (by omega)).trans hd, Nat.lt_of_lt_of_le hz (Turn.size ht)⟩
  case stabx =>
    rintro k A B ⟨c, hi, hl, hd, hz⟩ ht
    exact ⟨c, hXt c k A B hi (hlo ht), (ht.low (by omega) hz).trans hl, (ht.low (by omega) (by omega)).trans hd, Nat.lt_of_lt_of_le hz (Turn.size ht)⟩
  case yield =>
    rintro m M k x W0 hx ⟨hi, hl, hd, hz⟩ hm
    have hML : ¬ M (w.heap.size + 1) := fun q => by
      rcases (hm _ q).2 with q | q
      · have := (hk0 _ q).1; omega
      · omega
    have hy := run_yield (P := P) (args := encs x) hl (by rw [hR]; exact hps x)
    refine ⟨_, _, _, _, hy, ?_⟩
    rw [hR]
    refine roundIn_of_wpIn hfn (hassign m _ M k x W0 _ hx hi (fun j hj => ⟨(hm j hj).1, by rcases (hm j hj).2 with q | q; exact Or.inl q; exact Or.inr (by omega)⟩) ?_)
    intro a' Wa hba hax
    have hla := (hba.block _ hz id).trans hl
    have hda := (hba.block _ (by omega) id).trans hd
    have hza : w.heap.size + 1 < Wa.heap.size := Nat.lt_of_lt_of_le hz hba.size
    refine ⟨_, run_beginRound hla (by rw [hR]), ?_⟩
    obtain ⟨Wb, hWb⟩ : ∃ Wb, Wa.putObj (w.heap.size + 1) (.loop { R with state := .busy }) = Wb := ⟨_, rfl⟩
    have hlb : Wb.heap[w.heap.size + 1]? = some (.loop { R with state := .busy }) := by rw [← hWb]; exact World.putObj_heap_same hza
    have hdb : Wb.heap[w.heap.size]? = some (.deferred (some [])) := by rw [← hWb]; exact (World.putObj_heap_other (by omega)).trans hda
    have hzb : w.heap.size + 1 < Wb.heap.size := by rw [← hWb]; simpa using hza
    have hqb : QT w.heap.size Wa Wb := by rw [← hWb]; exact QT.putObj _ hla rfl (by omega)
    have hab := hAt M k x a' Wa Wb hax hqb
    have hk1 : KeepsFrom W1.heap.size W0 Wb := (keeps_of_turn hba).trans (by rw [← hWb]; exact keeps_putObj _ _ (by omega))
    have hm1 : ∀ j, M j → Wb.heap[j]? = W0.heap[j]? := fun j hj => by
      rw [← hWb]
      exact (World.putObj_heap_other (show j ≠ w.heap.size + 1 from fun e => hML (by rw [← e]; exact hj))).trans (hba.block j (hm j hj).1 id)
    rw [hWb]
    refine wpIn_mono (hbody m _ M k x a' Wb hx hab) ?_
    have fin : ∀ (jump : Option Code) (W3 : World), KeepsFrom w.heap.size Wb W3 →
        ∃ W4, (Instr.endRound (w.heap.size + 1) jump).run P W3 = .ok (.bool jump.isNone) W4 ∧ W4 = W3.putObj (w.heap.size + 1) (.loop { R with state := if jump.isNone then .ready else .done, pending := jump }) ∧
          W4.heap[w.heap.size + 1]? = some (.loop { R with state := if jump.isNone then .ready else .done, pending := jump }) ∧ W4.heap[w.heap.size]? = some (.deferred (some [])) ∧ w.heap.size + 1 < W4.heap.size ∧ QT w.heap.size W3 W4 ∧ KeepsFrom W1.heap.size W0 W4 := by
      intro jump W3 h3
      have hl3 := h3.same (w.heap.size + 1) _ (by omega) hlb rfl
      have hd3 := h3.same w.heap.size _ (by omega) hdb rfl
      have hz3 : w.heap.size + 1 < W3.heap.size := (Array.getElem?_eq_some_iff.1 hl3).1
      exact ⟨_, run_endRound (P := P) jump hl3, rfl, World.putObj_heap_same hz3, (World.putObj_heap_other (by omega)).trans hd3, by simpa using hz3, QT.putObj _ hl3 rfl (by omega), (hk1.trans (keeps_up h3 (by omega))).trans (keeps_putObj _ _ (by omega))⟩
    rintro e a3 W3 hp
    cases e with
    | normal =>
      obtain ⟨h3, hi3, hk3⟩ := hp
      obtain ⟨W4, hr, hW4, hl4, hd4, hz4, hq4, hk4⟩ := fin none W3 h3
      have hR2 : ({ R with state := if (Option.none : Option Code).isNone then .ready else .done, pending := none } : Loop) = R := by rw [hR]; rfl
      rw [hR2, hR] at hl4
      refine ⟨_, _, hr, hk4, .inl ⟨rfl, ⟨hIt M M _ W3 W4 hi3 hq4 (fun j hj => Or.inl hj), hl4, hd4, hz4⟩, fun j hj => ?_⟩⟩
      rw [hW4]
      exact ((World.putObj_heap_other (show j ≠ w.heap.size + 1 from fun e => hML (by rw [← e]; exact hj))).trans (hk3 j hj)).trans (hm1 j hj)
    | ret =>
      obtain ⟨h3, hi3⟩ := hp
      obtain ⟨W4, hr, hW4, hl4, hd4, hz4, hq4, hk4⟩ := fin (some .ret) W3 h3
      exact ⟨_, _, hr, hk4, .inr ⟨rfl, .ret, hXt _ _ _ _ hi3 hq4, by rw [hR] at hl4; exact hl4, hd4, hz4⟩⟩
    | exit id =>
      obtain ⟨h3, hi3⟩ := hp
      obtain ⟨W4, hr, hW4, hl4, hd4, hz4, hq4, hk4⟩ := fin (some (.exit id)) W3 h3
      exact ⟨_, _, hr, hk4, .inr ⟨rfl, .exit id, hXt _ _ _ _ hi3 hq4, by rw [hR] at hl4; exact hl4, hd4, hz4⟩⟩
    | goto t => exact hp.elim
    | panic ch => exact hp.elim
    | outgrown => exact hp.elim
  case behind =>
    rintro e W2 ⟨⟨v, rfl⟩, (⟨M, hi, hl, hd, hz⟩ | ⟨k, c, hi, hl, hd, hz⟩)⟩
    · refine ⟨R.pending, _, run_endLoop (P := P) hl (by rw [hR]; simp [rec0]), ?_⟩
      have hp : R.pending = none := by rw [hR]
      rw [hp]
      exact hdone M _ (hIt M M _ W2 _ hi (QT.putObj _ hl rfl (by omega)) (fun j hj => Or.inl hj)) ((World.putObj_heap_other (by omega)).trans hd)
    · refine ⟨some c, _, run_endLoop (P := P) hl (by simp), ?_⟩
      exact hstop c k _ (hXt _ _ _ _ hi (QT.putObj _ hl rfl (by omega))) ((World.putObj_heap_other (by omega)).trans hd)
end
end D
end Go.Proofs.Ytollaamlnddhcaa
set_option linter.unusedVariables false
set_option linter.unusedSimpArgs false
namespace Go.Proofs.Ytollaamlnddhcaa
open Go.RowKit Go.Maps
namespace D
/-- what relationOf tells: the row of the triples, and a map of them, both its holder's -/
def RofIs (ts : List X.K3) (w : World) (e : Ending) (w' : World) : Prop := ∃ to tc xb, e = .returned (.agg #[.slice to ts.length tc, .map (some xb)]) ∧ X.RowI w.heap.size to tc ts w' ∧ X.Tset xb ts w' ∧ w.heap.size ≤ xb ∧ Below w.heap.size w w'
/-- what stands while the map is filled -/
structure Ro (to : Option Addr) (tc q2 xb : Nat) (ts : List X.K3) (w V : World) : Prop where
  b : Below w.heap.size w V
  h2 : V.heap[q2]? = some (.cells #[.slice none 0 0, .map none] 76 (0, 0))
  r : X.RowI w.heap.size to tc ts V
theorem Ro.turn {to : Option Addr} {tc q2 xb : Nat} {ts : List X.K3} {w V V' : World} {T : Nat → Prop} (h : Ro to tc q2 xb ts w V) (t : Turn T V V') (n2 : ¬ T q2) (nr : ∀ j, X.At to j → ¬ T j) (hB : ∀ j, T j → w.heap.size ≤ j) : Ro to tc q2 xb ts w V' :=
  ⟨h.b.trans (below_own t hB h.b.size), (t.block _ (lt_of_heap h.h2) n2).trans h.h2, h.r.turn t nr⟩
/-- two cells are written over -/
structure Sto2 (ty rb : Nat) (w : World) : Prop where
  c0 : ∃ a, w.cell? ⟨rb, 0, none⟩ = some a
  f0 : w.frozen? ⟨rb, 0, none⟩ = false
  c1 : ∀ u, ∃ a, (w.setCell ⟨rb, 0, none⟩ u).cell? ⟨rb, 1, none⟩ = some a
  f1 : ∀ u, (w.setCell ⟨rb, 0, none⟩ u).frozen? ⟨rb, 1, none⟩ = false
  fin : ∀ u v, ((w.setCell ⟨rb, 0, none⟩ u).setCell ⟨rb, 1, none⟩ v).heap[rb]? = some (.cells #[u, v] ty (0, 0))
  tt : ∀ u v, Turn (fun j => j = rb) w ((w.setCell ⟨rb, 0, none⟩ u).setCell ⟨rb, 1, none⟩ v)
theorem sto2 {ty rb : Nat} {w : World} {a0 a1 : Value} (h : w.heap[rb]? = some (.cells #[a0, a1] ty (0, 0))) : Sto2 ty rb w where
  c0 := ⟨a0, by rw [Lib.cell_of_heap h]; rfl⟩
  f0 := Lib.frozen_of_heap h 0
  c1 := fun u => ⟨a1, by rw [World.cell?_setCell_other _ _ _ _ (by simp), Lib.cell_of_heap h]; rfl⟩
  f1 := fun u => by rw [World.frozen?_setCell]; exact Lib.frozen_of_heap h 1
  fin := fun u v => by simp [World.setCell, Array.getElem?_modify, h]
  tt := fun u v => ((Turn.refl (fun j => j = rb) w).setCell (p := ⟨rb, 0, none⟩) (fun _ => rfl) _).setCell (p := ⟨rb, 1, none⟩) (fun _ => rfl) _
theorem kindX {B : Nat} {ao : Option Addr} {cap : Nat} {zs : List X.K3} {w : World} (h : X.RowI B ao cap zs w) {j : Nat} (q : X.At ao j) : ∃ cur, w.heap[j]? = some (.cells cur 42 (0, 0)) := by
  obtain ⟨a, rfl, rfl⟩ := q
  rcases h.2 with ⟨hv, h0⟩ | ⟨g, cap', cur, hv, hb, hg, _⟩
  · simp at hv
  · simp only [Value.slice.injEq, Option.some.injEq] at hv
    obtain ⟨rfl, _⟩ := hv
    exact ⟨cur, hg⟩
theorem makeMap74 (n : Int) (w : World) : (Instr.makeMap 74 (some (.int .i64 n))).run Try.prog w = .ok (.map (some w.heap.size)) (w.alloc (.map #[] 0)) := by
  have hu := Try.underlying74
  simp [Instr.makeMap, go_sem, hu]
theorem row_down {B B' : Nat} {ao : Option Addr} {cap : Nat} {zs : List X.K3} {w : World} (h : X.RowI B ao cap zs w) (hB : B' ≤ B) : X.RowI B' ao cap zs w := by
  refine ⟨h.1, ?_⟩
  rcases h.2 with q | ⟨g, c, cur, q1, q2, q3⟩
  · exact .inl q
  · exact .inr ⟨g, c, cur, q1, Nat.le_trans hB q2, q3⟩
set_option maxRecDepth 100000 in
set_option maxHeartbeats 8000000 in
theorem relationOf_any (F : U.Pf) (ts : List X.K3) (w : World) (hC : ∀ V, Below w.heap.size w V → Calls Try.prog 23 #[.agg F.arr] V fun e w' => ∃ to tc, e = .returned (.slice to ts.length tc) ∧ X.RowI V.heap.size to tc ts w' ∧ Below V.heap.size V w') (hk : ∀ t ∈ ts, X.okk t) (hl : ts.length ≤ 1048576) : Calls Try.prog 38 #[.agg F.arr] w fun e w' => RofIs ts w e w' := by
  have HC := hide' hC
  have HK := hide' hk
  have hl64 : (ts.length : Int) ≤ 1048576 := by omega
  clear hC hk
  go_enter Try.func38, Try.ntmps38
  go_wp2_with (with_reducible refine U.stay_load 28 _ rfl ?_)
  unfold U.Stay
  have B0 : Hid (Below w.heap.size w ((w.alloc (.cells F.arr 28)).alloc (.cells #[.slice none 0 0, .map none] 76)) ∧ ((w.alloc (.cells F.arr 28)).alloc (.cells #[.slice none 0 0, .map none] 76)).heap[w.heap.size]? = some (.cells F.arr 28 (0, 0)) ∧ ((w.alloc (.cells F.arr 28)).alloc (.cells #[.slice none 0 0, .map none] 76)).heap[w.heap.size + 1]? = some (.cells #[.slice none 0 0, .map none] 76 (0, 0))) := ⟨((Below.refl _ _).alloc (Nat.le_refl _) _).alloc (by simp) _, (Below.heap_alloc _ _ _ (by simp)).trans (heap_alloc_new w _), by have := heap_alloc_new (w.alloc (.cells F.arr 28)) (.cells #[.slice none 0 0, .map none] 76); rwa [World.size_alloc] at this⟩
  generalize (w.alloc (.cells F.arr 28)).alloc (.cells #[.slice none 0 0, .map none] 76) = V at *
  obtain ⟨q1, hq1⟩ : ∃ q1, q1 = w.heap.size := ⟨_, rfl⟩
  obtain ⟨q2, hq2⟩ : ∃ q2, q2 = w.heap.size + 1 := ⟨_, rfl⟩
  rw [← hq2]
  rw [← hq1]
  have B1 : Hid (Below w.heap.size w V ∧ V.heap[q1]? = some (.cells F.arr 28 (0, 0)) ∧ V.heap[q2]? = some (.cells #[.slice none 0 0, .map none] 76 (0, 0)) ∧ w.heap.size ≤ q2) := by rw [hq1, hq2]; exact ⟨B0.out.1, B0.out.2.1, B0.out.2.2, by omega⟩
  clear hq1 hq2 B0
  refine wpList_load_row rfl 28 _ rfl q1 rfl 28 F.arr (0, 0) _ B1.out.2.1 Try.underlying28 rfl (U.size_arr F) ?_
  go_wp2_with fail
  refine (HC.out V B1.out.1).mono ?_
  rintro e V1 ⟨to, tc, rfl, hr, b1⟩
  have hcap := hr.cap
  have B2 : Hid (Below w.heap.size w V1 ∧ V1.heap[q2]? = some (.cells #[.slice none 0 0, .map none] 76 (0, 0)) ∧ w.heap.size ≤ q2 ∧ X.RowI w.heap.size to tc ts V1) := ⟨B1.out.1.trans (b1.mono B1.out.1.size), (b1.block _ (lt_of_heap B1.out.2.2.1)).trans B1.out.2.2.1, B1.out.2.2.2, row_down hr B1.out.1.size⟩
  clear hr b1 B1
  have hmm := makeMap74
  go_wp2_with fail
  clear hmm
  have X0 : Hid (Ro to tc q2 V1.heap.size ts w (V1.alloc (.map #[] 0)) ∧ X.Tset V1.heap.size [] (V1.alloc (.map #[] 0)) ∧ w.heap.size ≤ V1.heap.size ∧ w.heap.size ≤ q2) := ⟨⟨B2.out.1.trans ((Below.refl _ _).alloc B2.out.1.size _), (Below.heap_alloc _ _ _ (lt_of_heap B2.out.2.1)).trans B2.out.2.1, B2.out.2.2.2.below ((Below.refl _ _).alloc (Nat.le_refl _) _)⟩, X.Tset.made V1, B2.out.1.size, B2.out.2.2.1⟩
  clear B2
  generalize V1.alloc (.map #[] 0) = V0 at *
  generalize V1.heap.size = xb at *
  go_loopw [14] (fun iv wx => ∃ (i : Nat), iv = .int .i64 (i : Int) ∧ i ≤ ts.length ∧ Hid (Ro to tc q2 xb ts w wx ∧ X.Tset xb (ts.take i) wx)) (fun iv _ => ts.length - (intOf iv).toNat)
  case atStart => exact ⟨0, rfl, Nat.zero_le _, X0.out.1, X0.out.2.1⟩
  case round =>
    obtain ⟨j, rfl, hjl, HM⟩ := hrel
    have HN := hide' X0.out.2.2
    clear X0
    by_cases hjt : j < ts.length
    · have hjt' : (j : Int) < (ts.length : Int) := by omega
      obtain ⟨z, hz⟩ : ∃ z, ts[j]? = some z := ⟨_, List.getElem?_eq_getElem hjt⟩
      obtain ⟨y, off, hy, _, d1, d2, d3⟩ := HM.out.1.r.ints.at hz
      have hzk : Hid (X.okk z) := HK.out z (List.mem_of_getElem? hz)
      have htk : Hid (ts.take (j + 1) = ts.take j ++ [z]) := by show _ = _; rw [List.take_add_one, hz]; rfl
      have hzl : Hid ((ts.take j).length < maxLen) := by show _ < _; rw [List.length_take]; unfold maxLen; omega
      obtain ⟨z1, z2, z3⟩ := z
      simp only at d1 d2 d3
      have hbV : Below wr.heap.size wr (wr.alloc (.cells #[.string z1, .string z2, .string z3] 42)) := (Below.refl _ _).alloc (Nat.le_refl _) _
      have TT := turn_below (S := fun _ => False) hbV
      have MV : Hid (Ro to tc q2 xb ts w (wr.alloc (.cells #[.string z1, .string z2, .string z3] 42)) ∧ X.Tset xb (ts.take j) (wr.alloc (.cells #[.string z1, .string z2, .string z3] 42))) := ⟨HM.out.1.turn TT id (fun _ _ => id) (fun _ q => q.elim), HM.out.2.below hbV⟩
      have e0 : (wr.alloc (.cells #[.string z1, .string z2, .string z3] 42)).cell? ⟨wr.heap.size, 0, none⟩ = some (.string z1) := by rw [Lib.cell_of_heap (heap_alloc_new wr _)]; rfl
      have e1 : (wr.alloc (.cells #[.string z1, .string z2, .string z3] 42)).cell? ⟨wr.heap.size, 1, none⟩ = some (.string z2) := by rw [Lib.cell_of_heap (heap_alloc_new wr _)]; rfl
      have e2 : (wr.alloc (.cells #[.string z1, .string z2, .string z3] 42)).cell? ⟨wr.heap.size, 2, none⟩ = some (.string z3) := by rw [Lib.cell_of_heap (heap_alloc_new wr _)]; rfl
      rw [hy] at *
      obtain ⟨n, D, hn, hown, hh⟩ := id MV.out.2
      have hput := hide' (X.has_put hh hown.isMap hzk.out)
      have Hown := hide' hown
      have hnm : Hid (n < maxLen) := by have := hzl.out; show _ < _; omega
      have Hn := hide' hn
      clear hh hown hn hbV TT HM hy hz
      go_wp2_with (at_mapUpdate; refine wpList_mapUpdate_own _ rfl _ _ _ 74 rfl 42 114 X.law Try.underlying74 unitElem xb n D rfl Hown.out hnm.out _ _ _ rfl rfl (X.hkey hzk.out) _ [] unitElem_mk ?_; intro w6 hown6 hg6; have G6 := hide' (And.intro hown6 hg6); clear hown6 hg6)
      have t6 : Turn (fun q => q = xb) (wr.alloc (.cells #[.string z1, .string z2, .string z3] 42)) w6 := ⟨G6.out.2.os, G6.out.2.tape, G6.out.2.output, G6.out.2.size, fun k hk hne => G6.out.2.block k hk (by simpa using hne)⟩
      have hm1 : Ro _ tc q2 xb ts w w6 := MV.out.1.turn t6 (U.map_ne MV.out.1.h2 Hown.out) (fun j r => by obtain ⟨cur, kk⟩ := kindX MV.out.1.r r; exact U.map_ne kk Hown.out) (fun j e => by rw [e]; exact HN.out.1)
      exact ⟨⟨j + 1, by go_num, by omega, hm1, n + 1, _, by rw [htk.out, List.length_append]; exact Nat.add_le_add Hn.out (Nat.le_refl 1), G6.out.1, by rw [htk.out]; exact hput.out⟩, by simp [intOf]; omega⟩
    · have hjn : ts.length = j := by omega
      have hjt' : ¬ (j : Int) < (ts.length : Int) := by omega
      subst hjn
      have HM3 : Hid (Ro to tc q2 xb ts w wr ∧ X.Tset xb ts wr) := by have q := HM.out; rw [List.take_length] at q; exact q
      clear HM
      have SS := hide' (sto2 HM3.out.1.h2)
      obtain ⟨a0, c0⟩ := SS.out.c0
      have g0 := SS.out.f0
      obtain ⟨a1, c1⟩ := SS.out.c1 (.slice to ts.length tc)
      have g1 := SS.out.f1 (.slice to ts.length tc)
      have tH := SS.out.fin (.slice to ts.length tc) (.map (some xb))
      have tT := SS.out.tt (.slice to ts.length tc) (.map (some xb))
      have hfin : Hid (RofIs ts w (.returned (.agg #[.slice to ts.length tc, .map (some xb)])) ((wr.setCell ⟨q2, 0, none⟩ (.slice to ts.length tc)).setCell ⟨q2, 1, none⟩ (.map (some xb)))) := by
        obtain ⟨n, D2, _, hx, _⟩ := id HM3.out.2
        exact ⟨to, tc, xb, rfl, HM3.out.1.r.turn tT (fun j r e => by obtain ⟨cur, kk⟩ := kindX HM3.out.1.r r; exact U.cells_ne kk HM3.out.1.h2 (by decide) e), HM3.out.2.turn tT (fun e => U.map_ne HM3.out.1.h2 hx e.symm), HN.out.1, HM3.out.1.b.trans (below_own tT (fun j e => by rw [e]; exact HN.out.2) HM3.out.1.b.size)⟩
      clear SS tT HM3
      go_wp2_with fail
      (try simp only [Exit.inBlock, Exit.then])
      refine bodyPost_ret (results_cell_row rfl _ _ q2 76 #[.slice to ts.length tc, .map (some xb)] (0, 0) _ rfl tH Try.underlying76 rfl (by kernel_rfl)) rfl ?_
      exact hfin.out
end D
end Go.Proofs.Ytollaamlnddhcaa
set_option linter.unusedVariables false
set_option linter.unusedSimpArgs false
namespace Go.Proofs.Ytollaamlnddhcaa
open Go.RowKit Go.Maps
namespace D
set_option maxRecDepth 100000 in
set_option maxHeartbeats 8000000 in
theorem has_any (v0 : Value) (xb : Nat) (ts : List X.K3) (k1 k2 k3 : ByteArray) (w : World) (hX : X.Tset xb ts w) (hk : X.okk (k1, k2, k3)) : Calls Try.prog 62 #[.agg #[v0, .map (some xb)], .agg #[.string k1, .string k2, .string k3]] w fun e w' => e = .returned (.bool (isIn ts (k1, k2, k3))) ∧ Below w.heap.size w w' := by
  have bV : Below w.heap.size w ((w.alloc (.cells #[v0, .map (some xb)] 76)).alloc (.cells #[.string k1, .string k2, .string k3] 42)) := ((Below.refl _ _).alloc (Nat.le_refl _) _).alloc (by simp) _
  have hlk := X.look_set (hX.below bV) hk
  have BV := hide' bV
  clear hX bV hk
  go_enter Try.func62, Try.ntmps62
  go_wp2_with fail
  go_ret
  exact ⟨rfl, BV.out.alloc (by simp; omega) _⟩
end D
end Go.Proofs.Ytollaamlnddhcaa
set_option linter.unusedVariables false
set_option linter.unusedSimpArgs false
namespace Go.Proofs.Ytollaamlnddhcaa
open Go.RowKit Go.Maps
namespace D
/-- the blocks of a relation -/
def RM (p : Nat) (to : Option Addr) (xb : Nat) (j : Nat) : Prop := j = p ∨ X.At to j ∨ j = xb
/-- a relation as it lies: in a box -/
structure Rl (p : Nat) (to : Option Addr) (tc xb : Nat) (ts : List X.K3) (w : World) : Prop where
  c : w.heap[p]? = some (.cells #[.slice to ts.length tc, .map (some xb)] 76 (0, 0))
  r : X.RowI 0 to tc ts w
  m : X.Tset xb ts w
theorem Rl.same {p : Nat} {to : Option Addr} {tc xb : Nat} {ts : List X.K3} {w w' : World} (h : Rl p to tc xb ts w) (hs : ∀ j, RM p to xb j → w'.heap[j]? = w.heap[j]?) : Rl p to tc xb ts w' := by
  refine ⟨(hs p (.inl rfl)).trans h.c, ?_, ?_⟩
  · obtain ⟨h1, h2⟩ := h.r
    refine ⟨h1, ?_⟩
    rcases h2 with h2 | ⟨g, cap, cur, e, hb, hg, rest⟩
    · exact .inl h2
    · refine .inr ⟨g, cap, cur, e, hb, (hs g (.inr (.inl ?_))).trans hg, rest⟩
      simp only [Value.slice.injEq] at e
      exact ⟨_, e.1, rfl⟩
  · obtain ⟨n, D, h1, h2, h3⟩ := h.m
    obtain ⟨es, clock, hb, rest⟩ := h2
    exact ⟨n, D, h1, ⟨es, clock, (hs xb (.inr (.inr rfl))).trans hb, rest⟩, h3⟩
theorem Rl.lt {p : Nat} {to : Option Addr} {tc xb : Nat} {ts : List X.K3} {w : World} (h : Rl p to tc xb ts w) {j : Nat} (q : RM p to xb j) : j < w.heap.size := by
  rcases q with rfl | q | rfl
  · exact lt_of_heap h.c
  · obtain ⟨cur, k⟩ := kindX h.r q; exact lt_of_heap k
  · exact h.m.lt
/-- what the other has not -/
def wo (ts us : List X.K3) : List X.K3 := ts.filter (fun t => !isIn us t)
theorem wo_yes {ts us : List X.K3} {i : Nat} {z : X.K3} (hz : ts[i]? = some z) (h : isIn us z = true) : wo (ts.take (i + 1)) us = wo (ts.take i) us := by
  unfold wo
  rw [List.take_add_one, hz, List.filter_append]
  simp [h]
theorem wo_no {ts us : List X.K3} {i : Nat} {z : X.K3} (hz : ts[i]? = some z) (h : isIn us z = false) : wo (ts.take (i + 1)) us = wo (ts.take i) us ++ [z] := by
  unfold wo
  rw [List.take_add_one, hz, List.filter_append]
  simp [h]
theorem wo_at {ts us : List X.K3} {i : Nat} {z : X.K3} (hz : ts[i]? = some z) (h : isIn us z = false) : (wo ts us)[(wo (ts.take i) us).length]? = some z := by
  have e : wo ts us = wo (ts.take (i + 1)) us ++ wo (ts.drop (i + 1)) us := by
    unfold wo
    rw [← List.filter_append, List.take_append_drop]
  rw [e, wo_no hz h, List.append_assoc, List.getElem?_append_right (Nat.le_refl _)]
  simp
def encT (k : X.K3) : Array Value := #[.agg #[.string k.1, .string k.2.1, .string k.2.2]]
set_option maxRecDepth 100000 in
set_option maxHeartbeats 8000000 in
theorem without_seq {p1 : Nat} {to1 : Option Addr} {tc1 xb1 : Nat} {ts : List X.K3} {p2 : Nat} {to2 : Option Addr} {tc2 xb2 : Nat} {us : List X.K3} {w : World} (h1 : Rl p1 to1 tc1 xb1 ts w) (h2 : Rl p2 to2 tc2 xb2 us w) (hk : ∀ t ∈ ts, X.okk t) (hl : ts.length ≤ 1048576) :
    SeqF Fence.wide Try.prog 61 #[.pointer (some ⟨p1, 0, none⟩), .pointer (some ⟨p2, 0, none⟩)] encT (wo ts us) (fun j => RM p1 to1 xb1 j ∨ RM p2 to2 xb2 j) w := by
  intro n l J Jx W hsz hsame hJt hXt hY h0
  obtain ⟨M0, hM0⟩ : ∃ M0, M0 = (fun j => RM p1 to1 xb1 j ∨ RM p2 to2 xb2 j) := ⟨_, rfl⟩
  rw [← hM0] at hsame hY h0
  have HS : Hid (∀ V : World, (∀ j, M0 j → V.heap[j]? = w.heap[j]?) → Rl p1 to1 tc1 xb1 ts V ∧ Rl p2 to2 tc2 xb2 us V) := fun V h => ⟨h1.same (fun j q => h j (by rw [hM0]; exact .inl q)), h2.same (fun j q => h j (by rw [hM0]; exact .inr q))⟩
  have HM : Hid (∀ j, M0 j → j < w.heap.size) := fun j q => by rw [hM0] at q; rcases q with q | q; exact h1.lt q; exact h2.lt q
  have HK := hide' hk
  have HJ := hide' (And.intro hJt (And.intro hXt hY))
  have H0 := hide' (And.intro h0 (And.intro hsame hsz))
  have hl64 : (ts.length : Int) ≤ 1048576 := by omega
  have hcap := h1.r.cap
  have c1 : W.cell? ⟨p1, 0, none⟩ = some (.slice to1 ts.length tc1) := by rw [Lib.cell_of_heap (HS.out W hsame).1.c]; rfl
  clear hJt hXt hY h0 hsame hsz h1 h2 hk hM0
  refine callsIn_of_wp Try.func61 rfl trivial ?_ rfl
  refine wpIn_wide.2 ?_
  simp only [Try.ntmps61, List.size_toArray, List.length_cons, List.length_nil, Nat.reduceAdd, Nat.reduceSub, Array.replicate_succ, Array.replicate_zero, List.push_toArray, List.append_toArray, List.nil_append, List.cons_append]
  go_wp2
  go_loopw [9] (fun iv wx => ∃ (i : Nat), iv = .int .i64 (i : Int) ∧ i ≤ ts.length ∧ Hid (J M0 (wo (ts.take i) us).length wx ∧ (∀ j, M0 j → wx.heap[j]? = w.heap[j]?) ∧ w.heap.size ≤ wx.heap.size)) (fun iv _ => ts.length - (intOf iv).toNat)
  case atStart => exact ⟨0, rfl, Nat.zero_le _, H0⟩
  case round =>
    obtain ⟨j, rfl, hjl, HX⟩ := hrel
    clear H0 c1
    by_cases hjt : j < ts.length
    · have hjt' : (j : Int) < (ts.length : Int) := by omega
      obtain ⟨z, hz⟩ : ∃ z, ts[j]? = some z := ⟨_, List.getElem?_eq_getElem hjt⟩
      obtain ⟨y, off, hy, _, d1, d2, d3⟩ := (HS.out wr HX.out.2.1).1.r.ints.at hz
      have hzk : Hid (X.okk z) := HK.out z (List.mem_of_getElem? hz)
      have Hz := hide' hz
      obtain ⟨z1, z2, z3⟩ := z
      simp only at d1 d2 d3
      have bV : Below wr.heap.size wr (wr.alloc (.cells #[.string z1, .string z2, .string z3] 42)) := (Below.refl _ _).alloc (Nat.le_refl _) _
      have sV : Hid (∀ V, Below wr.heap.size wr V → ∀ j, M0 j → V.heap[j]? = w.heap[j]?) := fun V b j q => (b.block j (Nat.lt_of_lt_of_le (HM.out j q) HX.out.2.2)).trans (HX.out.2.1 j q)
      have RV := hide' (HS.out _ (sV.out _ bV)).2
      have f0 : (wr.alloc (.cells #[.string z1, .string z2, .string z3] 42)).cell? ⟨p2, 0, none⟩ = some (.slice to2 us.length tc2) := by rw [Lib.cell_of_heap RV.out.c]; rfl
      have f1 : (wr.alloc (.cells #[.string z1, .string z2, .string z3] 42)).cell? ⟨p2, 1, none⟩ = some (.map (some xb2)) := by rw [Lib.cell_of_heap RV.out.c]; rfl
      have e0 : (wr.alloc (.cells #[.string z1, .string z2, .string z3] 42)).cell? ⟨wr.heap.size, 0, none⟩ = some (.string z1) := by rw [Lib.cell_of_heap (heap_alloc_new wr _)]; rfl
      have e1 : (wr.alloc (.cells #[.string z1, .string z2, .string z3] 42)).cell? ⟨wr.heap.size, 1, none⟩ = some (.string z2) := by rw [Lib.cell_of_heap (heap_alloc_new wr _)]; rfl
      have e2 : (wr.alloc (.cells #[.string z1, .string z2, .string z3] 42)).cell? ⟨wr.heap.size, 2, none⟩ = some (.string z3) := by rw [Lib.cell_of_heap (heap_alloc_new wr _)]; rfl
      have HB := hide' bV
      have HA := hide' (heap_alloc_new wr (.cells #[.string z1, .string z2, .string z3] 42))
      clear bV hz
      subst hy
      refine (wpIn_wide (n := n)).1 ?_
      gi_wp2
      refine ⟨trivial, (fun q => by simp [Fence.wide] at q), (callsIn_wide.2 (has_any _ xb2 us z1 z2 z3 _ RV.out.m hzk.out)).mono ?_⟩
      rintro e V ⟨rfl, b2⟩
      have BV : Hid (Below wr.heap.size wr V) := HB.out.trans (b2.mono HB.out.size)
      have hnew := (b2.block _ (lt_of_heap HA.out)).trans HA.out
      have hJV := hide' (HJ.out.1 M0 M0 _ wr V HX.out.1 (QT.none (turn_below (S := fun _ => False) BV.out)) (fun j q => Or.inl q))
      have hSV := hide' (sV.out V BV.out)
      have hzV : Hid (w.heap.size ≤ V.heap.size) := Nat.le_trans HX.out.2.2 BV.out.size
      clear f0 f1 e0 e1 e2 b2 HB HA RV
      have e0 : V.cell? ⟨wr.heap.size, 0, none⟩ = some (.string z1) := by rw [Lib.cell_of_heap hnew]; rfl
      have e1 : V.cell? ⟨wr.heap.size, 1, none⟩ = some (.string z2) := by rw [Lib.cell_of_heap hnew]; rfl
      have e2 : V.cell? ⟨wr.heap.size, 2, none⟩ = some (.string z3) := by rw [Lib.cell_of_heap hnew]; rfl
      clear hnew
      cases hin : isIn us (z1, z2, z3) with
      | true =>
        have Hin := hide' hin
        clear hin
        gi_wp2
        refine ⟨fun f q => (by cases q), ?_⟩
        gi_wp2
        have G3 : Hid (J M0 (wo (ts.take (j + 1)) us).length V ∧ (∀ j, M0 j → V.heap[j]? = w.heap[j]?) ∧ w.heap.size ≤ V.heap.size) := ⟨by rw [wo_yes Hz.out Hin.out]; exact hJV.out, hSV.out, hzV.out⟩
        exact ⟨⟨_, _, _, _, _, _, _, _, _, _, _, _, _, _, _, _, ⟨j + 1, by go_num, by omega, G3⟩, rfl⟩, by simp [intOf]; omega⟩
      | false =>
        have Hin := hide' hin
        clear hin
        obtain ⟨fn, tmps, assign, body, hy, hR⟩ := HJ.out.2.2 (n - 1) M0 _ (z1, z2, z3) V (wo_at Hz.out Hin.out) hJV.out (fun j q => ⟨Nat.lt_of_lt_of_le (HM.out j q) hzV.out, Or.inl q⟩)
        unfold encT at hy
        simp only at hy
        gi_wp2
        refine ⟨(fun q => by simp [Fence.wide] at q), hR.mono ?_⟩
        rintro e W3 ⟨hk3, (⟨rfl, hJ3, hs3⟩ | ⟨rfl, hX3⟩)⟩
        · have G3 : Hid (J M0 (wo (ts.take (j + 1)) us).length W3 ∧ (∀ j, M0 j → W3.heap[j]? = w.heap[j]?) ∧ w.heap.size ≤ W3.heap.size) := ⟨by rw [wo_no Hz.out Hin.out, List.length_append]; exact hJ3, fun j q => (hs3 j q).trans (hSV.out j q), Nat.le_trans hzV.out hk3.size⟩
          clear hJ3 hs3 hk3
          gi_wp2
          exact ⟨⟨_, _, _, _, _, _, _, _, _, _, _, _, _, _, _, _, ⟨j + 1, by go_num, by omega, G3⟩, rfl⟩, by simp [intOf]; omega⟩
        · have G3 := hide' hX3
          clear hX3 hk3
          gi_wp2
          refine bodyPost_ret (results_none rfl _ _ _) rfl ?_
          exact ⟨⟨_, rfl⟩, .inr ⟨_, G3.out⟩⟩
    · have hjn : ts.length = j := by omega
      have hjt' : ¬ (j : Int) < (ts.length : Int) := by omega
      subst hjn
      have HE : Hid (J M0 (wo ts us).length wr) := by have q := HX.out.1; rw [List.take_length] at q; exact q
      clear HX
      go_wp2
      refine bodyPost_end (results_none rfl _ _ _) rfl ?_
      exact ⟨⟨_, rfl⟩, .inl ⟨M0, HE.out⟩⟩
end D
end Go.Proofs.Ytollaamlnddhcaa
set_option linter.unusedVariables false
set_option linter.unusedSimpArgs false
namespace Go.Proofs.Ytollaamlnddhcaa
open Go.RowKit Go.Maps
attribute [local go_sem] Oper.semAt_some
namespace D
set_option maxRecDepth 100000 in
theorem without_any (a b c d : Value) (w : World) : Calls Try.prog 40 #[.agg #[a, b], .agg #[c, d]] w fun e w' => ∃ g1 g2, e = .returned (.func (.func 61) #[] #[.pointer (some ⟨g1, 0, none⟩), .pointer (some ⟨g2, 0, none⟩)]) ∧ w.heap.size ≤ g1 ∧ w.heap.size ≤ g2 ∧ w'.heap[g1]? = some (.cells #[a, b] 76 (0, 0)) ∧ w'.heap[g2]? = some (.cells #[c, d] 76 (0, 0)) ∧ Turn (fun _ => False) w w' := by
  go_enter Try.func40, Try.ntmps40
  go_wp2_with fail
  go_ret
  refine ⟨w.heap.size, w.heap.size + 1, rfl, Nat.le_refl _, by omega, (Below.heap_alloc _ _ _ (by simp)).trans (heap_alloc_new w _), ?_, ((Turn.refl _ w).alloc _).alloc _⟩
  have := heap_alloc_new (w.alloc (.cells #[a, b] 76)) (.cells #[c, d] 76)
  rwa [World.size_alloc] at this
abbrev Ch := X.K3 × Bool
def encC (c : Ch) : Array Value := #[.agg #[.string c.1.1, .string c.1.2.1, .string c.1.2.2, .bool c.2]]
/-- the changes from one relation to another -/
def chg (ts us : List X.K3) : List Ch := (wo ts us).map (fun t => (t, false)) ++ (wo us ts).map (fun t => (t, true))
theorem chg_l {ts us : List X.K3} {k : Nat} {x : X.K3} (h : (wo ts us)[k]? = some x) : (chg ts us)[0 + k]? = some (x, false) := by
  unfold chg
  rw [Nat.zero_add, List.getElem?_append_left (by rw [List.length_map]; exact (List.getElem?_eq_some_iff.1 h).1), List.getElem?_map, h]
  rfl
theorem chg_r {ts us : List X.K3} {k : Nat} {x : X.K3} (h : (wo us ts)[k]? = some x) : (chg ts us)[(wo ts us).length + k]? = some (x, true) := by
  unfold chg
  rw [List.getElem?_append_right (by rw [List.length_map]; omega), List.length_map, Nat.add_sub_cancel_left, List.getElem?_map, h]
  rfl
theorem chg_len (ts us : List X.K3) : (chg ts us).length = (wo ts us).length + (wo us ts).length := by simp [chg]
/-- a box of one relation, laid anew -/
theorem Rl.new {p g : Nat} {to : Option Addr} {tc xb : Nat} {ts : List X.K3} {w w' : World} (h : Rl p to tc xb ts w) (t : Turn (fun _ => False) w w') (hg : w'.heap[g]? = some (.cells #[.slice to ts.length tc, .map (some xb)] 76 (0, 0))) : Rl g to tc xb ts w' :=
  ⟨hg, h.r.turn t (fun _ _ => id), h.m.turn t id⟩
/-- what stands in a round of Between's iterator -/
structure Bi (J : (Nat → Prop) → Nat → World → Prop) (De O : Nat → Prop) (V : World) (M : Nat → Prop) (k : Nat) (X : World) : Prop where
  j : J (fun i => M i ∨ O i) k X
  d : ∀ i, De i → X.heap[i]? = some (.deferred (some []))
  s : ∀ i, O i → X.heap[i]? = V.heap[i]?
  z : V.heap.size ≤ X.heap.size
theorem round_in {F : Fence} {n : Nat} {P : Program} {l l' : Nat} {f : FuncId} {tmps : Array Value} {assign body : Code} {w : World} {R : Ending → World → Prop} (h : RoundIn F n P l f tmps assign body w R) : RoundIn (F.inRound l') n P l f tmps assign body w R := h
set_option maxRecDepth 100000 in
set_option maxHeartbeats 8000000 in
theorem between_seq {p1 : Nat} {to1 : Option Addr} {tc1 xb1 : Nat} {ts : List X.K3} {p2 : Nat} {to2 : Option Addr} {tc2 xb2 : Nat} {us : List X.K3} {w : World} (h1 : Rl p1 to1 tc1 xb1 ts w) (h2 : Rl p2 to2 tc2 xb2 us w) (hk1 : ∀ t ∈ ts, X.okk t) (hl1 : ts.length ≤ 1048576) (hk2 : ∀ t ∈ us, X.okk t) (hl2 : us.length ≤ 1048576) :
    SeqF Fence.wide Try.prog 39 #[.pointer (some ⟨p1, 0, none⟩), .pointer (some ⟨p2, 0, none⟩)] encC (chg ts us) (fun j => RM p1 to1 xb1 j ∨ RM p2 to2 xb2 j) w := by
  intro n l J Jx W hsz hsame hJt hXt hY h0
  obtain ⟨M0, hM0⟩ : ∃ M0, M0 = (fun j => RM p1 to1 xb1 j ∨ RM p2 to2 xb2 j) := ⟨_, rfl⟩
  rw [← hM0] at hsame hY h0
  have HS : Hid (∀ V : World, (∀ j, M0 j → V.heap[j]? = w.heap[j]?) → Rl p1 to1 tc1 xb1 ts V ∧ Rl p2 to2 tc2 xb2 us V) := fun V h => ⟨h1.same (fun j q => h j (by rw [hM0]; exact .inl q)), h2.same (fun j q => h j (by rw [hM0]; exact .inr q))⟩
  have HM : Hid (∀ j, M0 j → j < w.heap.size) := fun j q => by rw [hM0] at q; rcases q with q | q; exact h1.lt q; exact h2.lt q
  have HE1 : Hid (∀ j, X.At to1 j ∨ j = xb1 → M0 j) := fun j q => by rw [hM0]; exact .inl (.inr q)
  have HE2 : Hid (∀ j, X.At to2 j ∨ j = xb2 → M0 j) := fun j q => by rw [hM0]; exact .inr (.inr q)
  have HJ := hide' (And.intro hJt (And.intro hXt hY))
  have H0 := hide' (And.intro h0 (And.intro hsame hsz))
  have HK := hide' (And.intro (And.intro hk1 hl1) (And.intro hk2 hl2))
  clear hJt hXt hY h0 hsame hsz h1 h2 hk1 hl1 hk2 hl2 hM0
  refine callsIn_of_wp_marks Try.func39 rfl trivial ?_ rfl
  refine wpIn_wide.2 ?_
  simp only [Try.ntmps39, List.size_toArray, List.length_cons, List.length_nil, Nat.reduceAdd, Nat.reduceSub, Array.replicate_succ, Array.replicate_zero, List.push_toArray, List.append_toArray, List.nil_append, List.cons_append]
  have bV : Below W.heap.size W (W.alloc (.cells #[.func (.yield l) #[] #[]] 78)) := (Below.refl _ _).alloc (Nat.le_refl _) _
  have S1 : Hid (∀ j, M0 j → (W.alloc (.cells #[.func (.yield l) #[] #[]] 78)).heap[j]? = w.heap[j]?) := fun j q => (bV.block j (Nat.lt_of_lt_of_le (HM.out j q) H0.out.2.2)).trans (H0.out.2.1 j q)
  have J1 : Hid (J (fun j => M0 j ∨ j = W.heap.size) 0 (W.alloc (.cells #[.func (.yield l) #[] #[]] 78))) := HJ.out.1 M0 _ 0 W _ H0.out.1 (QT.none (turn_below (S := fun _ => False) bV)) (fun j q => q.elim Or.inl (fun e => Or.inr (by omega)))
  have Y1 := hide' (heap_alloc_new W (.cells #[.func (.yield l) #[] #[]] 78))
  have Z1 : Hid (W.heap.size < (W.alloc (.cells #[.func (.yield l) #[] #[]] 78)).heap.size ∧ w.heap.size ≤ W.heap.size) := ⟨by simp, H0.out.2.2⟩
  clear bV H0
  obtain ⟨De, hDe⟩ : ∃ De : Nat → Prop, De = fun _ => False := ⟨_, rfl⟩
  have D1 : Hid (∀ j, De j → (W.alloc (.cells #[.func (.yield l) #[] #[]] 78)).heap[j]? = some (.deferred (some [])) ∧ W.heap.size ≤ j) := fun j q => by rw [hDe] at q; exact q.elim
  clear hDe
  obtain ⟨kb, hkb⟩ : ∃ kb : Nat, kb = 0 := ⟨_, rfl⟩
  have KB1 : Hid (kb = 0) := hkb
  clear hkb
  have R1 := hide' (HS.out (W.alloc (.cells #[.func (.yield l) #[] #[]] 78)) S1.out)
  have d0 : (W.alloc (.cells #[.func (.yield l) #[] #[]] 78)).cell? ⟨p1, 0, none⟩ = some (.slice to1 ts.length tc1) := by rw [Lib.cell_of_heap R1.out.1.c]; rfl
  have d1 : (W.alloc (.cells #[.func (.yield l) #[] #[]] 78)).cell? ⟨p1, 1, none⟩ = some (.map (some xb1)) := by rw [Lib.cell_of_heap R1.out.1.c]; rfl
  have d2 : (W.alloc (.cells #[.func (.yield l) #[] #[]] 78)).cell? ⟨p2, 0, none⟩ = some (.slice to2 us.length tc2) := by rw [Lib.cell_of_heap R1.out.2.c]; rfl
  have d3 : (W.alloc (.cells #[.func (.yield l) #[] #[]] 78)).cell? ⟨p2, 1, none⟩ = some (.map (some xb2)) := by rw [Lib.cell_of_heap R1.out.2.c]; rfl
  go_wp2_with (go_at_call 40; refine (without_any _ _ _ _ _).mono ?_; rintro e V ⟨g1, g2, rfl, i1, i2, n1, n2, t1⟩; have G1 := hide' (And.intro (And.intro i1 i2) (And.intro n1 (And.intro n2 t1))); clear i1 i2 n1 n2 t1)
  clear d0 d1 d2 d3
  obtain ⟨V0, hV0⟩ : ∃ V0, W.alloc (.cells #[.func (.yield l) #[] #[]] 78) = V0 := ⟨_, rfl⟩
  rw [hV0] at R1 S1 J1 Y1 Z1 G1 D1
  clear hV0
  obtain ⟨q3, hq3⟩ : ∃ q3, q3 = W.heap.size := ⟨_, rfl⟩
  rw [← hq3]
  rw [← hq3] at J1 Y1
  have Q3 : Hid (q3 = W.heap.size) := hq3
  clear hq3
  obtain ⟨O, hO⟩ : ∃ O : Nat → Prop, O = fun j => M0 j ∨ j = q3 ∨ j = g1 ∨ j = g2 := ⟨_, rfl⟩
  have RA := hide' (R1.out.1.new G1.out.2.2.2 G1.out.2.1)
  have RB := hide' (R1.out.2.new G1.out.2.2.2 G1.out.2.2.1)
  have OO : Hid (∀ j, O j → j < V.heap.size ∧ (M0 j ∨ W.heap.size ≤ j)) := fun j q => by
    have z := G1.out.2.2.2.size
    have z0 := Z1.out
    rw [hO] at q
    rcases q with q | q | q | q
    · exact ⟨by have := HM.out j q; omega, .inl q⟩
    · exact ⟨by have := Q3.out; omega, .inr (by have := Q3.out; omega)⟩
    · exact ⟨by rw [q]; exact lt_of_heap G1.out.2.1, .inr (by have := G1.out.1.1; omega)⟩
    · exact ⟨by rw [q]; exact lt_of_heap G1.out.2.2.1, .inr (by have := G1.out.1.2; omega)⟩
  have MO : Hid (∀ j, (RM g1 to1 xb1 j ∨ RM g2 to2 xb2 j) → O j) := fun j q => by
    rw [hO]
    rcases q with (q | q) | (q | q)
    · exact .inr (.inr (.inl q))
    · exact .inl (HE1.out j q)
    · exact .inr (.inr (.inr q))
    · exact .inl (HE2.out j q)
  have OQ : Hid (O q3 ∧ ∀ j, M0 j → O j) := by rw [hO]; exact ⟨.inr (.inl rfl), fun j q => .inl q⟩
  have YV : Hid (V.heap[q3]? = some (.cells #[.func (.yield l) #[] #[]] 78 (0, 0))) := (G1.out.2.2.2.block _ (lt_of_heap Y1.out) id).trans Y1.out
  have SV : Hid (∀ j, M0 j → V.heap[j]? = w.heap[j]?) := fun j q => (G1.out.2.2.2.block j (by have := HM.out j q; have := Z1.out; omega) id).trans (S1.out j q)
  have ZV : Hid (W.heap.size < V.heap.size ∧ w.heap.size ≤ W.heap.size) := ⟨by have := G1.out.2.2.2.size; have := Z1.out; omega, Z1.out.2⟩
  have DV : Hid (∀ j, De j → j < V.heap.size ∧ W.heap.size ≤ j) := fun j q => ⟨Nat.lt_of_lt_of_le (lt_of_heap (D1.out j q).1) G1.out.2.2.2.size, (D1.out j q).2⟩
  have JV : Hid (Bi J De O V (fun j => RM g1 to1 xb1 j ∨ RM g2 to2 xb2 j) kb V) := ⟨by rw [KB1.out]; exact HJ.out.1 _ _ _ V0 V J1.out (QT.none G1.out.2.2.2) (fun j q => by
    have q' : O j := q.elim (MO.out j) id
    rw [hO] at q'
    rcases q' with q' | q' | q' | q'
    · exact .inl (.inl q')
    · exact .inl (.inr q')
    · exact .inr (by have := G1.out.1.1; omega)
    · exact .inr (by have := G1.out.1.2; omega)), fun j q => (G1.out.2.2.2.block j (lt_of_heap (D1.out j q).1) id).trans (D1.out j q).1, fun _ _ => rfl, Nat.le_refl _⟩
  clear hO R1 S1 J1 Y1 Z1 G1 D1 V0
  refine (wpIn_wide (n := 1)).1 ?_
  refine range_f rfl (Nat.le_refl _) (gf := 61) (lb := #[.pointer (some ⟨g1, 0, none⟩), .pointer (some ⟨g2, 0, none⟩)]) rfl trivial Try.call61 (without_seq RA.out RB.out HK.out.1.1 HK.out.1.2) (Nat.le_refl _) (fun j q => ⟨(OO.out j (MO.out j q)).1, rfl⟩) (fun x => rfl)
    (fun M k X => Bi J De O V M (kb + k) X) (fun c k X => c = .ret ∧ Jx (kb + k) X ∧ ∀ i, De i → X.heap[i]? = some (.deferred (some [])))
    (fun M k x a' X => Bi J De O V M (kb + k) X ∧ (∀ j, M j → j < X.heap.size ∧ (M0 j ∨ W.heap.size ≤ j)) ∧ ∃ b, X.heap[b]? = some (.cells #[.string x.1, .string x.2.1, .string x.2.2] 42 (0, 0)) ∧ a' = { tmps := #[.func (.yield l) #[] #[], .pointer (some ⟨p1, 0, none⟩), .pointer (some ⟨p2, 0, none⟩), .pointer (some ⟨q3, 0, none⟩), .pointer (some ⟨b, 0, none⟩), undef, .agg #[.slice to1 ts.length tc1, .map (some xb1)], .agg #[.slice to2 us.length tc2, .map (some xb2)], .func (.func 61) #[] #[.pointer (some ⟨g1, 0, none⟩), .pointer (some ⟨g2, 0, none⟩)], .agg #[.string x.1, .string x.2.1, .string x.2.2], undef, undef, undef, undef, undef, undef, undef, undef, undef, undef, undef, undef, undef, undef], defers := [] })
    ?start ?stab ?stabx ?staba ?assign ?body ?done ?stop
  case start => exact JV.out
  case stab =>
    intro M M' k X1 X2 h t hm
    have t' : QT W.heap.size X1 X2 := t.mono (by have := ZV.out.1; omega)
    exact ⟨HJ.out.1 _ _ _ X1 X2 h.j t' (fun j q => by rcases q with q | q; exact (hm j q).elim (fun q => .inl (.inl q)) .inr; exact .inl (.inr q)), fun j q => (t.low (DV.out j q).1 (Nat.lt_of_lt_of_le (DV.out j q).1 h.z)).trans (h.d j q), fun j q => (t.low (OO.out j q).1 (Nat.lt_of_lt_of_le (OO.out j q).1 h.z)).trans (h.s j q), Nat.le_trans h.z (Turn.size t)⟩
  case stabx =>
    rintro c k X1 X2 ⟨hc, h, hd⟩ t
    exact ⟨hc, HJ.out.2.1 _ X1 X2 h (t.mono (by have := ZV.out.1; omega)), fun j q => (t.low (DV.out j q).1 (lt_of_heap (hd j q))).trans (hd j q)⟩
  case staba =>
    rintro M k x a' X1 X2 ⟨h, hm, b, hb, ha⟩ t
    have t' : QT W.heap.size X1 X2 := t.mono (by have := ZV.out.1; omega)
    exact ⟨⟨HJ.out.1 _ _ _ X1 X2 h.j t' (fun j q => .inl q), fun j q => (t.low (DV.out j q).1 (Nat.lt_of_lt_of_le (DV.out j q).1 h.z)).trans (h.d j q), fun j q => (t.low (OO.out j q).1 (Nat.lt_of_lt_of_le (OO.out j q).1 h.z)).trans (h.s j q), Nat.le_trans h.z (Turn.size t)⟩, fun j q => ⟨Nat.lt_of_lt_of_le (hm j q).1 (Turn.size t), (hm j q).2⟩, b, t.block hb, ha⟩
  case assign =>
    intro m l' M k x X1 K hx h hm hK
    obtain ⟨x1, x2, x3⟩ := x
    have HKK := hide' hK
    have Hh := hide' (And.intro h hm)
    clear hK h hm hx
    unfold encT
    gi_wp2
    refine HKK.out _ _ ((Turn.refl _ X1).alloc _) ⟨⟨HJ.out.1 _ _ _ X1 _ Hh.out.1.j ((QT.refl _ X1).alloc _) (fun j q => .inl q), fun j q => (Below.heap_alloc _ _ _ (lt_of_heap (Hh.out.1.d j q))).trans (Hh.out.1.d j q), fun j q => (Below.heap_alloc _ _ _ (Nat.lt_of_lt_of_le (OO.out j q).1 Hh.out.1.z)).trans (Hh.out.1.s j q), Nat.le_trans Hh.out.1.z (by simp)⟩, fun j q => ⟨Nat.lt_of_lt_of_le (Hh.out.2 j q).1 (by simp), ?_⟩, X1.heap.size, heap_alloc_new X1 _, rfl⟩
    rcases (Hh.out.2 j q).2 with q' | q'
    · exact (OO.out j (MO.out j q')).2
    · exact .inr (by have := ZV.out.1; omega)
  case body =>
    rintro m l' M k ⟨x1, x2, x3⟩ a' X1 hx ⟨h, hm, b, hb, rfl⟩
    simp only at hb
    have e3 : X1.cell? ⟨q3, 0, none⟩ = some (.func (.yield l) #[] #[]) := by rw [Lib.cell_of_heap ((h.s q3 OQ.out.1).trans YV.out)]; rfl
    have e0 : X1.cell? ⟨b, 0, none⟩ = some (.string x1) := by rw [Lib.cell_of_heap hb]; rfl
    have e1 : X1.cell? ⟨b, 1, none⟩ = some (.string x2) := by rw [Lib.cell_of_heap hb]; rfl
    have e2 : X1.cell? ⟨b, 2, none⟩ = some (.string x3) := by rw [Lib.cell_of_heap hb]; rfl
    obtain ⟨fn, tmps, assign, body, hy, hR⟩ := HJ.out.2.2 (m - 1) _ _ ((x1, x2, x3), false) X1 (by rw [KB1.out]; exact chg_l hx) h.j (fun j q => by rcases q with q | q; exact hm j q; exact ⟨Nat.lt_of_lt_of_le (OO.out j q).1 h.z, (OO.out j q).2⟩)
    unfold encC at hy
    simp only at hy
    have Hh := hide' (And.intro h hx)
    clear h hx hm hb
    gi_wp2
    refine ⟨(fun q => by simp [Fence.wide] at q), (round_in hR).mono ?_⟩
    rintro e X3 ⟨hk3, (⟨rfl, hJ3, hs3⟩ | ⟨rfl, hX3⟩)⟩
    · have G3 : Hid (KeepsFrom V.heap.size X1 X3 ∧ Bi J De O V M (kb + (k + 1)) X3 ∧ ∀ j, M j → X3.heap[j]? = X1.heap[j]?) := ⟨keeps_up hk3 (by have := ZV.out.1; omega), ⟨hJ3, fun j q => hk3.same j _ (DV.out j q).2 (Hh.out.1.d j q) rfl, fun j q => (hs3 j (.inr q)).trans (Hh.out.1.s j q), Nat.le_trans Hh.out.1.z hk3.size⟩, fun j q => hs3 j (.inl q)⟩
      clear hk3 hJ3 hs3
      gi_wp2
      exact G3.out
    · have G3 : Hid (KeepsFrom V.heap.size X1 X3 ∧ Jx (kb + (k + 1)) X3 ∧ ∀ i, De i → X3.heap[i]? = some (.deferred (some []))) := ⟨keeps_up hk3 (by have := ZV.out.1; omega), hX3, fun j q => hk3.same j _ (DV.out j q).2 (Hh.out.1.d j q) rfl⟩
      clear hk3 hX3
      gi_wp2
      exact ⟨G3.out.1, rfl, G3.out.2⟩
  case stop =>
    rintro c k Xs ⟨rfl, hX, hd⟩ hD
    have HX := hide' (And.intro hX (And.intro hd hD))
    clear hX hd hD
    refine wpIn_wide.2 ?_
    go_wp2
    refine ⟨by simp, .inl ⟨_, _, rfl, run_takeDeferred HX.out.2.2, ?_⟩⟩
    exact ⟨_, results_none rfl _ _ _, ⟨_, rfl⟩, .inr ⟨_, HJ.out.2.1 _ _ _ HX.out.1 (QT.putObj _ HX.out.2.2 rfl (by have := ZV.out.1; omega))⟩⟩
  intro M Vd hI hD
  have D0 : Hid (W.heap.size ≤ V.heap.size ∧ Vd.heap[V.heap.size]? = some (.deferred (some []))) := ⟨by have := ZV.out.1; omega, hD⟩
  have S1 : Hid (∀ j, M0 j → Vd.heap[j]? = w.heap[j]?) := fun j q => (hI.s j (OQ.out.2 j q)).trans (SV.out j q)
  have J1 : Hid (J (fun j => M0 j ∨ j = q3) (wo ts us).length Vd) := HJ.out.1 (fun i => M i ∨ O i) _ _ Vd Vd (by have q := hI.j; rw [KB1.out, Nat.zero_add] at q; exact q) (QT.refl _ _) (fun j q => .inl (.inr (by rcases q with q | q; exact OQ.out.2 j q; rw [q]; exact OQ.out.1)))
  have Y1 : Hid (Vd.heap[q3]? = some (.cells #[.func (.yield l) #[] #[]] 78 (0, 0))) := (hI.s q3 OQ.out.1).trans YV.out
  have Z1 : Hid (W.heap.size < Vd.heap.size ∧ w.heap.size ≤ W.heap.size) := ⟨Nat.lt_of_lt_of_le ZV.out.1 hI.z, ZV.out.2⟩
  clear hI hD OO MO OQ YV SV ZV DV JV RA RB KB1 M
  obtain ⟨dd, hdd⟩ : ∃ dd, dd = V.heap.size := ⟨_, rfl⟩
  rw [← hdd] at D0
  rw [← hdd]
  clear hdd kb De O V
  obtain ⟨V0, hV0⟩ : ∃ V0, V0 = Vd := ⟨_, rfl⟩
  rw [← hV0] at D0 S1 J1 Y1 Z1
  rw [← hV0]
  clear hV0 Vd
  obtain ⟨De, hDe⟩ : ∃ De : Nat → Prop, De = fun j => j = dd := ⟨_, rfl⟩
  have D1 : Hid (∀ j, De j → V0.heap[j]? = some (.deferred (some [])) ∧ W.heap.size ≤ j) := fun j q => by rw [hDe] at q; rw [q]; exact ⟨D0.out.2, D0.out.1⟩
  have DD : Hid (∀ j, j = dd → De j) := fun j q => by rw [hDe]; exact q
  clear hDe D0
  obtain ⟨kb, hkb⟩ : ∃ kb : Nat, kb = (wo ts us).length := ⟨_, rfl⟩
  have KB2 : Hid (kb = (wo ts us).length) := hkb
  clear hkb
  have R2 := hide' (HS.out V0 S1.out)
  have d0 : V0.cell? ⟨p2, 0, none⟩ = some (.slice to2 us.length tc2) := by rw [Lib.cell_of_heap R2.out.2.c]; rfl
  have d1 : V0.cell? ⟨p2, 1, none⟩ = some (.map (some xb2)) := by rw [Lib.cell_of_heap R2.out.2.c]; rfl
  have d2 : V0.cell? ⟨p1, 0, none⟩ = some (.slice to1 ts.length tc1) := by rw [Lib.cell_of_heap R2.out.1.c]; rfl
  have d3 : V0.cell? ⟨p1, 1, none⟩ = some (.map (some xb1)) := by rw [Lib.cell_of_heap R2.out.1.c]; rfl
  go_wp2_with (go_at_call 40; refine (without_any _ _ _ _ _).mono ?_; rintro e V ⟨g3, g4, rfl, i1, i2, n1, n2, t1⟩; have G1 := hide' (And.intro (And.intro i1 i2) (And.intro n1 (And.intro n2 t1))); clear i1 i2 n1 n2 t1)
  clear d0 d1 d2 d3
  obtain ⟨O, hO⟩ : ∃ O : Nat → Prop, O = fun j => M0 j ∨ j = q3 ∨ j = g3 ∨ j = g4 := ⟨_, rfl⟩
  have RA := hide' (R2.out.2.new G1.out.2.2.2 G1.out.2.1)
  have RB := hide' (R2.out.1.new G1.out.2.2.2 G1.out.2.2.1)
  have OO : Hid (∀ j, O j → j < V.heap.size ∧ (M0 j ∨ W.heap.size ≤ j)) := fun j q => by
    have z := G1.out.2.2.2.size
    have z0 := Z1.out
    rw [hO] at q
    rcases q with q | q | q | q
    · exact ⟨by have := HM.out j q; omega, .inl q⟩
    · exact ⟨by have := Q3.out; omega, .inr (by have := Q3.out; omega)⟩
    · exact ⟨by rw [q]; exact lt_of_heap G1.out.2.1, .inr (by have := G1.out.1.1; omega)⟩
    · exact ⟨by rw [q]; exact lt_of_heap G1.out.2.2.1, .inr (by have := G1.out.1.2; omega)⟩
  have MO : Hid (∀ j, (RM g3 to2 xb2 j ∨ RM g4 to1 xb1 j) → O j) := fun j q => by
    rw [hO]
    rcases q with (q | q) | (q | q)
    · exact .inr (.inr (.inl q))
    · exact .inl (HE2.out j q)
    · exact .inr (.inr (.inr q))
    · exact .inl (HE1.out j q)
  have OQ : Hid (O q3 ∧ ∀ j, M0 j → O j) := by rw [hO]; exact ⟨.inr (.inl rfl), fun j q => .inl q⟩
  have YV : Hid (V.heap[q3]? = some (.cells #[.func (.yield l) #[] #[]] 78 (0, 0))) := (G1.out.2.2.2.block _ (lt_of_heap Y1.out) id).trans Y1.out
  have SV : Hid (∀ j, M0 j → V.heap[j]? = w.heap[j]?) := fun j q => (G1.out.2.2.2.block j (by have := HM.out j q; have := Z1.out; omega) id).trans (S1.out j q)
  have ZV : Hid (W.heap.size < V.heap.size ∧ w.heap.size ≤ W.heap.size) := ⟨by have := G1.out.2.2.2.size; have := Z1.out; omega, Z1.out.2⟩
  have DV : Hid (∀ j, De j → j < V.heap.size ∧ W.heap.size ≤ j) := fun j q => ⟨Nat.lt_of_lt_of_le (lt_of_heap (D1.out j q).1) G1.out.2.2.2.size, (D1.out j q).2⟩
  have JV : Hid (Bi J De O V (fun j => RM g3 to2 xb2 j ∨ RM g4 to1 xb1 j) kb V) := ⟨by rw [KB2.out]; exact HJ.out.1 _ _ _ V0 V J1.out (QT.none G1.out.2.2.2) (fun j q => by
    have q' : O j := q.elim (MO.out j) id
    rw [hO] at q'
    rcases q' with q' | q' | q' | q'
    · exact .inl (.inl q')
    · exact .inl (.inr q')
    · exact .inr (by have := G1.out.1.1; omega)
    · exact .inr (by have := G1.out.1.2; omega)), fun j q => (G1.out.2.2.2.block j (lt_of_heap (D1.out j q).1) id).trans (D1.out j q).1, fun _ _ => rfl, Nat.le_refl _⟩
  clear hO R2 S1 J1 Y1 Z1 G1 D1 V0
  refine (wpIn_wide (n := 1)).1 ?_
  refine range_f rfl (Nat.le_refl _) (gf := 61) (lb := #[.pointer (some ⟨g3, 0, none⟩), .pointer (some ⟨g4, 0, none⟩)]) rfl trivial Try.call61 (without_seq RA.out RB.out HK.out.2.1 HK.out.2.2) (Nat.le_refl _) (fun j q => ⟨(OO.out j (MO.out j q)).1, rfl⟩) (fun x => rfl)
    (fun M k X => Bi J De O V M (kb + k) X) (fun c k X => c = .ret ∧ Jx (kb + k) X ∧ ∀ i, De i → X.heap[i]? = some (.deferred (some [])))
    (fun M k x a' X => Bi J De O V M (kb + k) X ∧ (∀ j, M j → j < X.heap.size ∧ (M0 j ∨ W.heap.size ≤ j)) ∧ ∃ b, X.heap[b]? = some (.cells #[.string x.1, .string x.2.1, .string x.2.2] 42 (0, 0)) ∧ a' = { tmps := #[.func (.yield l) #[] #[], .pointer (some ⟨p1, 0, none⟩), .pointer (some ⟨p2, 0, none⟩), .pointer (some ⟨q3, 0, none⟩), undef, .pointer (some ⟨b, 0, none⟩), .agg #[.slice to1 ts.length tc1, .map (some xb1)], .agg #[.slice to2 us.length tc2, .map (some xb2)], .func (.func 61) #[] #[.pointer (some ⟨g1, 0, none⟩), .pointer (some ⟨g2, 0, none⟩)], undef, undef, undef, undef, undef, undef, .agg #[.slice to2 us.length tc2, .map (some xb2)], .agg #[.slice to1 ts.length tc1, .map (some xb1)], .func (.func 61) #[] #[.pointer (some ⟨g3, 0, none⟩), .pointer (some ⟨g4, 0, none⟩)], .agg #[.string x.1, .string x.2.1, .string x.2.2], undef, undef, undef, undef, undef], defers := [] })
    ?startB ?stabB ?stabxB ?stabaB ?assignB ?bodyB ?doneB ?stopB
  case startB => exact JV.out
  case stabB =>
    intro M M' k X1 X2 h t hm
    have t' : QT W.heap.size X1 X2 := t.mono (by have := ZV.out.1; omega)
    exact ⟨HJ.out.1 _ _ _ X1 X2 h.j t' (fun j q => by rcases q with q | q; exact (hm j q).elim (fun q => .inl (.inl q)) .inr; exact .inl (.inr q)), fun j q => (t.low (DV.out j q).1 (Nat.lt_of_lt_of_le (DV.out j q).1 h.z)).trans (h.d j q), fun j q => (t.low (OO.out j q).1 (Nat.lt_of_lt_of_le (OO.out j q).1 h.z)).trans (h.s j q), Nat.le_trans h.z (Turn.size t)⟩
  case stabxB =>
    rintro c k X1 X2 ⟨hc, h, hd⟩ t
    exact ⟨hc, HJ.out.2.1 _ X1 X2 h (t.mono (by have := ZV.out.1; omega)), fun j q => (t.low (DV.out j q).1 (lt_of_heap (hd j q))).trans (hd j q)⟩
  case stabaB =>
    rintro M k x a' X1 X2 ⟨h, hm, b, hb, ha⟩ t
    have t' : QT W.heap.size X1 X2 := t.mono (by have := ZV.out.1; omega)
    exact ⟨⟨HJ.out.1 _ _ _ X1 X2 h.j t' (fun j q => .inl q), fun j q => (t.low (DV.out j q).1 (Nat.lt_of_lt_of_le (DV.out j q).1 h.z)).trans (h.d j q), fun j q => (t.low (OO.out j q).1 (Nat.lt_of_lt_of_le (OO.out j q).1 h.z)).trans (h.s j q), Nat.le_trans h.z (Turn.size t)⟩, fun j q => ⟨Nat.lt_of_lt_of_le (hm j q).1 (Turn.size t), (hm j q).2⟩, b, t.block hb, ha⟩
  case assignB =>
    intro m l' M k x X1 K hx h hm hK
    obtain ⟨x1, x2, x3⟩ := x
    have HKK := hide' hK
    have Hh := hide' (And.intro h hm)
    clear hK h hm hx
    unfold encT
    gi_wp2
    refine HKK.out _ _ ((Turn.refl _ X1).alloc _) ⟨⟨HJ.out.1 _ _ _ X1 _ Hh.out.1.j ((QT.refl _ X1).alloc _) (fun j q => .inl q), fun j q => (Below.heap_alloc _ _ _ (lt_of_heap (Hh.out.1.d j q))).trans (Hh.out.1.d j q), fun j q => (Below.heap_alloc _ _ _ (Nat.lt_of_lt_of_le (OO.out j q).1 Hh.out.1.z)).trans (Hh.out.1.s j q), Nat.le_trans Hh.out.1.z (by simp)⟩, fun j q => ⟨Nat.lt_of_lt_of_le (Hh.out.2 j q).1 (by simp), ?_⟩, X1.heap.size, heap_alloc_new X1 _, rfl⟩
    rcases (Hh.out.2 j q).2 with q' | q'
    · exact (OO.out j (MO.out j q')).2
    · exact .inr (by have := ZV.out.1; omega)
  case bodyB =>
    rintro m l' M k ⟨x1, x2, x3⟩ a' X1 hx ⟨h, hm, b, hb, rfl⟩
    simp only at hb
    have e3 : X1.cell? ⟨q3, 0, none⟩ = some (.func (.yield l) #[] #[]) := by rw [Lib.cell_of_heap ((h.s q3 OQ.out.1).trans YV.out)]; rfl
    have e0 : X1.cell? ⟨b, 0, none⟩ = some (.string x1) := by rw [Lib.cell_of_heap hb]; rfl
    have e1 : X1.cell? ⟨b, 1, none⟩ = some (.string x2) := by rw [Lib.cell_of_heap hb]; rfl
    have e2 : X1.cell? ⟨b, 2, none⟩ = some (.string x3) := by rw [Lib.cell_of_heap hb]; rfl
    obtain ⟨fn, tmps, assign, body, hy, hR⟩ := HJ.out.2.2 (m - 1) _ _ ((x1, x2, x3), true) X1 (by rw [KB2.out]; exact chg_r hx) h.j (fun j q => by rcases q with q | q; exact hm j q; exact ⟨Nat.lt_of_lt_of_le (OO.out j q).1 h.z, (OO.out j q).2⟩)
    unfold encC at hy
    simp only at hy
    have Hh := hide' (And.intro h hx)
    clear h hx hm hb
    gi_wp2
    refine ⟨(fun q => by simp [Fence.wide] at q), (round_in hR).mono ?_⟩
    rintro e X3 ⟨hk3, (⟨rfl, hJ3, hs3⟩ | ⟨rfl, hX3⟩)⟩
    · have G3 : Hid (KeepsFrom V.heap.size X1 X3 ∧ Bi J De O V M (kb + (k + 1)) X3 ∧ ∀ j, M j → X3.heap[j]? = X1.heap[j]?) := ⟨keeps_up hk3 (by have := ZV.out.1; omega), ⟨hJ3, fun j q => hk3.same j _ (DV.out j q).2 (Hh.out.1.d j q) rfl, fun j q => (hs3 j (.inr q)).trans (Hh.out.1.s j q), Nat.le_trans Hh.out.1.z hk3.size⟩, fun j q => hs3 j (.inl q)⟩
      clear hk3 hJ3 hs3
      gi_wp2
      exact G3.out
    · have G3 : Hid (KeepsFrom V.heap.size X1 X3 ∧ Jx (kb + (k + 1)) X3 ∧ ∀ i, De i → X3.heap[i]? = some (.deferred (some []))) := ⟨keeps_up hk3 (by have := ZV.out.1; omega), hX3, fun j q => hk3.same j _ (DV.out j q).2 (Hh.out.1.d j q) rfl⟩
      clear hk3 hX3
      gi_wp2
      exact ⟨G3.out.1, rfl, G3.out.2⟩
  case stopB =>
    rintro c k Xs ⟨rfl, hX, hd⟩ hD
    have HX := hide' (And.intro hX (And.intro hd hD))
    clear hX hd hD
    refine wpIn_wide.2 ?_
    go_wp2
    have hdd := (DV.out dd (DD.out dd rfl)).1
    have hd2 : (Xs.putObj V.heap.size (.deferred none)).heap[dd]? = some (.deferred (some [])) := (World.putObj_heap_other (by omega)).trans (HX.out.2.1 dd (DD.out dd rfl))
    refine ⟨by simp, .inl ⟨_, _, rfl, run_takeDeferred HX.out.2.2, by simp, .inl ⟨_, _, rfl, run_takeDeferred hd2, ?_⟩⟩⟩
    exact ⟨_, results_none rfl _ _ _, ⟨_, rfl⟩, .inr ⟨_, HJ.out.2.1 _ _ _ HX.out.1 ((QT.putObj _ HX.out.2.2 rfl (by have := ZV.out.1; omega)).trans (QT.putObj _ hd2 rfl (DV.out dd (DD.out dd rfl)).2))⟩⟩
  intro M Vd hI hD
  have HX := hide' (And.intro hI hD)
  clear hI hD
  go_wp2
  have hdd := (DV.out dd (DD.out dd rfl)).1
  have hd2 : (Vd.putObj V.heap.size (.deferred none)).heap[dd]? = some (.deferred (some [])) := (World.putObj_heap_other (by omega)).trans (HX.out.1.d dd (DD.out dd rfl))
  refine ⟨by simp, .inl ⟨_, _, rfl, run_takeDeferred HX.out.2, by simp, .inl ⟨_, _, rfl, run_takeDeferred hd2, ?_⟩⟩⟩
  have JE : J (fun i => M i ∨ O i) (chg ts us).length Vd := by have q := HX.out.1.j; rw [KB2.out] at q; rw [chg_len]; exact q
  exact ⟨_, results_none rfl _ _ _, ⟨_, rfl⟩, .inl ⟨_, HJ.out.1 _ _ _ _ _ JE ((QT.putObj _ HX.out.2 rfl (by have := ZV.out.1; omega)).trans (QT.putObj _ hd2 rfl (DV.out dd (DD.out dd rfl)).2)) (fun j q => .inl q)⟩⟩
end D
end Go.Proofs.Ytollaamlnddhcaa
