import Derived.Test.YtollaamlnddhcaaDA
import Derived.Deep.RegionHeld3
import Derived.OwnWalkIn
import Derived.TacticsInMore
set_option linter.unusedVariables false
set_option linter.unusedSimpArgs false
namespace Go.Proofs.Ytollaamlnddhcaa
open Go.RowKit Go.Maps
namespace D
/-- a relation that was told, its holder's -/
structure Rr (w : World) (o : Option Addr) (k x : Nat) (ts : List X.K3) (V : World) : Prop where
  r : X.RowI w.heap.size o k ts V
  m : X.Tset x ts V
  b : w.heap.size ≤ x
theorem Rr.below {w : World} {o : Option Addr} {k x : Nat} {ts : List X.K3} {V V' : World} (h : Rr w o k x ts V) (b : Below V.heap.size V V') : Rr w o k x ts V' := ⟨h.r.below b, h.m.below b, h.b⟩
theorem Rr.turn {w : World} {o : Option Addr} {k x g : Nat} {ts : List X.K3} {V V' : World} {c : Array Value} (h : Rr w o k x ts V) (hg : V.heap[g]? = some (.cells c 76 (0, 0))) (t : Turn (fun j => j = g) V V') : Rr w o k x ts V' := by
  obtain ⟨n, D2, _, hx, _⟩ := id h.m
  exact ⟨h.r.turn t (fun j r e => by obtain ⟨cur, kk⟩ := kindX h.r r; exact U.cells_ne kk hg (by decide) e), h.m.turn t (fun e => U.map_ne hg hx e.symm), h.b⟩
theorem Rr.rl {w : World} {o : Option Addr} {k x g : Nat} {ts : List X.K3} {V : World} (h : Rr w o k x ts V) (hg : V.heap[g]? = some (.cells #[.slice o ts.length k, .map (some x)] 76 (0, 0))) : Rl g o k x ts V := ⟨hg, row_down h.r (Nat.zero_le _), h.m⟩
theorem Rr.own {w : World} {o : Option Addr} {k x g : Nat} {ts : List X.K3} {V : World} (h : Rr w o k x ts V) (hg : w.heap.size ≤ g) : ∀ j, RM g o x j → w.heap.size ≤ j := by
  rintro j (rfl | q | rfl)
  · exact hg
  · obtain ⟨a, rfl, rfl⟩ := q
    rcases h.r.form with ⟨e, _⟩ | ⟨g', e, hb, _⟩
    · cases e
    · cases e; exact hb
  · exact h.b
/-- two calls of relationOf -/
structure Cb (w : World) (a1 a2 : Array Value) (ts us : List X.K3) : Prop where
  c1 : ∀ V, Below w.heap.size w V → Calls Try.prog 38 #[.agg a1] V fun e w' => RofIs ts V e w'
  c2 : ∀ V, Below w.heap.size w V → Calls Try.prog 38 #[.agg a2] V fun e w' => RofIs us V e w'
def ops18 : Array Oper := #[{ dst := some 7, op := Op.load 28 (Operand.tmp 2), type := 28, pos := "diff.go:13", after := #[], guard := none }, { dst := some 8, op := Op.call { callee := Callee.value (Operand.func 38), args := #[Operand.tmp 7], argTypes := #[28] }, type := 76, pos := "diff.go:13", after := #[{ on := 0, ground := Ground.data }], guard := none }, { dst := some 9, op := Op.load 28 (Operand.tmp 3), type := 28, pos := "diff.go:13", after := #[], guard := none }, { dst := some 10, op := Op.call { callee := Callee.value (Operand.func 38), args := #[Operand.tmp 9], argTypes := #[28] }, type := 76, pos := "diff.go:13", after := #[{ on := 2, ground := Ground.data }, { on := 1, ground := Ground.chain }], guard := none }, { dst := some 5, op := Op.alloc 76, type := 0, pos := "diff.go:13", after := #[], guard := none }, { dst := some 6, op := Op.alloc 76, type := 0, pos := "diff.go:13", after := #[], guard := none }, { dst := none, op := Op.store 76 (Operand.tmp 5) (Operand.tmp 8), type := 0, pos := "diff.go:13", after := #[{ on := 4, ground := Ground.data }, { on := 1, ground := Ground.data }, { on := 3, ground := Ground.chain }, { on := 0, ground := Ground.phase }, { on := 1, ground := Ground.phase }, { on := 2, ground := Ground.textOnly Departure.lateStores }, { on := 3, ground := Ground.textOnly Departure.lateStoresUnsure }, { on := 4, ground := Ground.phase }, { on := 5, ground := Ground.phase }], guard := none }, { dst := none, op := Op.store 76 (Operand.tmp 6) (Operand.tmp 10), type := 0, pos := "diff.go:13", after := #[{ on := 5, ground := Ground.data }, { on := 3, ground := Ground.data }, { on := 6, ground := Ground.chain }, { on := 0, ground := Ground.phase }, { on := 1, ground := Ground.phase }, { on := 2, ground := Ground.phase }, { on := 3, ground := Ground.phase }, { on := 4, ground := Ground.phase }, { on := 5, ground := Ground.phase }, { on := 6, ground := Ground.phase }], guard := none }]
set_option maxRecDepth 100000 in
set_option maxHeartbeats 4000000 in
theorem N2_ab {w : World} {q2 q3 : Nat} {a1 a2 : Array Value} {ts us : List X.K3} {Q : Exit → Act → World → Prop} (X : Cb w a1 a2 ts us) (HQ : ∀ o1 k1 x1 o2 k2 x2 b5 b6 V, Rl b5 o1 k1 x1 ts V → Rl b6 o2 k2 x2 us V → (∀ j, (RM b5 o1 x1 j ∨ RM b6 o2 x2 j) → w.heap.size ≤ j) → Below w.heap.size w V → Q .normal { tmps := #[.agg a1, .agg a2, .pointer (some ⟨q2, 0, none⟩), .pointer (some ⟨q3, 0, none⟩), .nilFunc, .pointer (some ⟨b5, 0, none⟩), .pointer (some ⟨b6, 0, none⟩), .agg a1, .agg #[.slice o1 ts.length k1, .map (some x1)], .agg a2, .agg #[.slice o2 us.length k2, .map (some x2)], undef], defers := [] } V) (o1 : Option Addr) (k1 x1 : Nat) (o2 : Option Addr) (k2 x2 : Nat) (b5 : Nat) (b6 : Nat) (V : World) (hB : Below w.heap.size w V) (hS : V.heap[q2]? = some (.cells a1 28 (0, 0)) ∧ V.heap[q3]? = some (.cells a2 28 (0, 0))) (j1 : Rr w o1 k1 x1 ts V) (j2 : Rr w o2 k2 x2 us V) (z5 : V.heap[b5]? = some (.cells #[.slice none 0 0, .map none] 76 (0, 0))) (l5 : w.heap.size ≤ b5) (z6 : V.heap[b6]? = some (.cells #[.slice none 0 0, .map none] 76 (0, 0))) (l6 : w.heap.size ≤ b6) (n56 : b5 ≠ b6) : wpAnyH Try.prog .any ops18 Q (fun V => V.heap[q2]? = some (.cells a1 28 (0, 0)) ∧ V.heap[q3]? = some (.cells a2 28 (0, 0))) 2 #[true, true, true, true, true, true, false, false] { tmps := #[.agg a1, .agg a2, .pointer (some ⟨q2, 0, none⟩), .pointer (some ⟨q3, 0, none⟩), .nilFunc, .pointer (some ⟨b5, 0, none⟩), .pointer (some ⟨b6, 0, none⟩), .agg a1, .agg #[.slice o1 ts.length k1, .map (some x1)], .agg a2, .agg #[.slice o2 us.length k2, .map (some x2)], undef], defers := [] } V := by
  have D : Hid ((Below w.heap.size w V ∧ (V.heap[q2]? = some (.cells a1 28 (0, 0)) ∧ V.heap[q3]? = some (.cells a2 28 (0, 0))) ∧ Rr w o1 k1 x1 ts V ∧ Rr w o2 k2 x2 us V) ∧ V.heap[b5]? = some (.cells #[.slice none 0 0, .map none] 76 (0, 0)) ∧ V.heap[b6]? = some (.cells #[.slice none 0 0, .map none] 76 (0, 0))) := ⟨⟨hB, hS, j1, j2⟩, z5, z6⟩
  have N5 : Hid (q2 ≠ b5 ∧ q3 ≠ b5 ∧ q2 ≠ b6 ∧ q3 ≠ b6 ∧ b5 ≠ b6) := ⟨U.cells_ne hS.1 z5 (by decide), U.cells_ne hS.2 z5 (by decide), U.cells_ne hS.1 z6 (by decide), U.cells_ne hS.2 z6 (by decide), n56⟩
  clear hB hS j1 j2 z5 z6 n56
  have SS1 := hide' (sto2 D.out.2.1)
  obtain ⟨p0, c0⟩ := SS1.out.c0
  have g0 := SS1.out.f0
  obtain ⟨p1, c1⟩ := SS1.out.c1 (.slice o1 ts.length k1)
  have g1 := SS1.out.f1 (.slice o1 ts.length k1)
  have tH1 := hide' (SS1.out.fin (.slice o1 ts.length k1) (.map (some x1)))
  have tT1 := hide' (SS1.out.tt (.slice o1 ts.length k1) (.map (some x1)))
  clear SS1
  refine wpAnyH_ready (rs := [6]) (by kernel_rfl) (by simp) ?_
  refine AllReadyH.cons (o := { dst := none, op := Op.store 76 (Operand.tmp 5) (Operand.tmp 8), type := 0, pos := "diff.go:13", after := #[{ on := 4, ground := Ground.data }, { on := 1, ground := Ground.data }, { on := 3, ground := Ground.chain }, { on := 0, ground := Ground.phase }, { on := 1, ground := Ground.phase }, { on := 2, ground := Ground.textOnly Departure.lateStores }, { on := 3, ground := Ground.textOnly Departure.lateStoresUnsure }, { on := 4, ground := Ground.phase }, { on := 5, ground := Ground.phase }], guard := none }) rfl (fun K hK => ?_) AllReadyH.nil
  go_simp
  generalize (V.setCell ⟨b5, 0, none⟩ (.slice o1 ts.length k1)).setCell ⟨b5, 1, none⟩ (.map (some x1)) = V1 at *
  clear c0 c1 g0 g1
  have h1 : V1.heap[q2]? = some (.cells a1 28 (0, 0)) := (tT1.out.block _ (lt_of_heap D.out.1.2.1.1) N5.out.1).trans D.out.1.2.1.1
  have h2 : V1.heap[q3]? = some (.cells a2 28 (0, 0)) := (tT1.out.block _ (lt_of_heap D.out.1.2.1.2) N5.out.2.1).trans D.out.1.2.1.2
  have z6 : Hid (V1.heap[b6]? = some (.cells #[.slice none 0 0, .map none] 76 (0, 0))) := (tT1.out.block _ (lt_of_heap D.out.2.2) (fun e => N5.out.2.2.2.2 e.symm)).trans D.out.2.2
  have D1 : Hid (Below w.heap.size w V1 ∧ Rr w o1 k1 x1 ts V1 ∧ Rr w o2 k2 x2 us V1) := ⟨D.out.1.1.trans (below_own tT1.out (fun j e => by rw [e]; exact l5) D.out.1.1.size), D.out.1.2.2.1.turn D.out.2.1 tT1.out, D.out.1.2.2.2.turn D.out.2.1 tT1.out⟩
  have HS1 := hide' (And.intro h1 h2)
  refine hK.out _ _ ⟨h1, h2⟩ (fun hHeld => ?_)
  clear hK K hHeld h1 h2 D tT1
  (try simp only [Act.put, List.setIfInBounds_toArray, List.set_cons_zero, List.set_cons_succ])
  have SS2 := hide' (sto2 z6.out)
  obtain ⟨p0, c0⟩ := SS2.out.c0
  have g0 := SS2.out.f0
  obtain ⟨p1, c1⟩ := SS2.out.c1 (.slice o2 us.length k2)
  have g1 := SS2.out.f1 (.slice o2 us.length k2)
  have tH2 := hide' (SS2.out.fin (.slice o2 us.length k2) (.map (some x2)))
  have tT2 := hide' (SS2.out.tt (.slice o2 us.length k2) (.map (some x2)))
  clear SS2
  refine wpAnyH_ready (rs := [7]) (by kernel_rfl) (by simp) ?_
  refine AllReadyH.cons (o := { dst := none, op := Op.store 76 (Operand.tmp 6) (Operand.tmp 10), type := 0, pos := "diff.go:13", after := #[{ on := 5, ground := Ground.data }, { on := 3, ground := Ground.data }, { on := 6, ground := Ground.chain }, { on := 0, ground := Ground.phase }, { on := 1, ground := Ground.phase }, { on := 2, ground := Ground.phase }, { on := 3, ground := Ground.phase }, { on := 4, ground := Ground.phase }, { on := 5, ground := Ground.phase }, { on := 6, ground := Ground.phase }], guard := none }) rfl (fun K hK => ?_) AllReadyH.nil
  go_simp
  generalize (V1.setCell ⟨b6, 0, none⟩ (.slice o2 us.length k2)).setCell ⟨b6, 1, none⟩ (.map (some x2)) = V2 at *
  clear c0 c1 g0 g1
  have h1 : V2.heap[q2]? = some (.cells a1 28 (0, 0)) := (tT2.out.block _ (lt_of_heap HS1.out.1) N5.out.2.2.1).trans HS1.out.1
  have h2 : V2.heap[q3]? = some (.cells a2 28 (0, 0)) := (tT2.out.block _ (lt_of_heap HS1.out.2) N5.out.2.2.2.1).trans HS1.out.2
  refine hK.out _ _ ⟨h1, h2⟩ (fun hHeld => ?_)
  clear hK K hHeld h1 h2
  (try simp only [Act.put, List.setIfInBounds_toArray, List.set_cons_zero, List.set_cons_succ])
  refine wpAnyH_done (by kernel_rfl) ?_ _
  have r1 := D1.out.2.1.turn z6.out tT2.out
  have r2 := D1.out.2.2.turn z6.out tT2.out
  exact HQ _ _ _ _ _ _ _ _ _ (r1.rl ((tT2.out.block _ (lt_of_heap tH1.out) N5.out.2.2.2.2).trans tH1.out)) (r2.rl tH2.out) (fun j q => q.elim (r1.own l5 j) (r2.own l6 j)) (D1.out.1.trans (below_own tT2.out (fun j e => by rw [e]; exact l6) D1.out.1.size))
set_option maxRecDepth 100000 in
set_option maxHeartbeats 4000000 in
theorem N2_a0 {w : World} {q2 q3 : Nat} {a1 a2 : Array Value} {ts us : List X.K3} {Q : Exit → Act → World → Prop} (X : Cb w a1 a2 ts us) (HQ : ∀ o1 k1 x1 o2 k2 x2 b5 b6 V, Rl b5 o1 k1 x1 ts V → Rl b6 o2 k2 x2 us V → (∀ j, (RM b5 o1 x1 j ∨ RM b6 o2 x2 j) → w.heap.size ≤ j) → Below w.heap.size w V → Q .normal { tmps := #[.agg a1, .agg a2, .pointer (some ⟨q2, 0, none⟩), .pointer (some ⟨q3, 0, none⟩), .nilFunc, .pointer (some ⟨b5, 0, none⟩), .pointer (some ⟨b6, 0, none⟩), .agg a1, .agg #[.slice o1 ts.length k1, .map (some x1)], .agg a2, .agg #[.slice o2 us.length k2, .map (some x2)], undef], defers := [] } V) (o1 : Option Addr) (k1 x1 : Nat) (o2 : Option Addr) (k2 x2 : Nat) (b5 : Nat) (V : World) (hB : Below w.heap.size w V) (hS : V.heap[q2]? = some (.cells a1 28 (0, 0)) ∧ V.heap[q3]? = some (.cells a2 28 (0, 0))) (j1 : Rr w o1 k1 x1 ts V) (j2 : Rr w o2 k2 x2 us V) (z5 : V.heap[b5]? = some (.cells #[.slice none 0 0, .map none] 76 (0, 0))) (l5 : w.heap.size ≤ b5) : wpAnyH Try.prog .any ops18 Q (fun V => V.heap[q2]? = some (.cells a1 28 (0, 0)) ∧ V.heap[q3]? = some (.cells a2 28 (0, 0))) 3 #[true, true, true, true, true, false, false, false] { tmps := #[.agg a1, .agg a2, .pointer (some ⟨q2, 0, none⟩), .pointer (some ⟨q3, 0, none⟩), .nilFunc, .pointer (some ⟨b5, 0, none⟩), undef, .agg a1, .agg #[.slice o1 ts.length k1, .map (some x1)], .agg a2, .agg #[.slice o2 us.length k2, .map (some x2)], undef], defers := [] } V := by
  refine wpAnyH_ready (rs := [5]) (by kernel_rfl) (by simp) ?_
  refine AllReadyH.cons (o := { dst := some 6, op := Op.alloc 76, type := 0, pos := "diff.go:13", after := #[], guard := none }) rfl (fun K hK => ?_) AllReadyH.nil
  go_simp
  have bn : Below V.heap.size V (V.alloc (.cells #[.slice none 0 0, .map none] 76)) := (Below.refl _ _).alloc (Nat.le_refl _) _
  have hS1 := (bn.block _ (lt_of_heap hS.1)).trans hS.1
  have hS2 := (bn.block _ (lt_of_heap hS.2)).trans hS.2
  refine hK.out _ _ ⟨hS1, hS2⟩ (fun hHeld => ?_)
  clear hK K hHeld
  (try simp only [Act.put, List.setIfInBounds_toArray, List.set_cons_zero, List.set_cons_succ])
  exact N2_ab X HQ o1 k1 x1 o2 k2 x2 b5 V.heap.size (V.alloc (.cells #[.slice none 0 0, .map none] 76)) (hB.trans (bn.mono hB.size)) ⟨hS1, hS2⟩ (j1.below bn) (j2.below bn) ((bn.block _ (lt_of_heap z5)).trans z5) l5 (heap_alloc_new V _) hB.size (fun e => by have := lt_of_heap z5; omega)
set_option maxRecDepth 100000 in
set_option maxHeartbeats 4000000 in
theorem N2_0b {w : World} {q2 q3 : Nat} {a1 a2 : Array Value} {ts us : List X.K3} {Q : Exit → Act → World → Prop} (X : Cb w a1 a2 ts us) (HQ : ∀ o1 k1 x1 o2 k2 x2 b5 b6 V, Rl b5 o1 k1 x1 ts V → Rl b6 o2 k2 x2 us V → (∀ j, (RM b5 o1 x1 j ∨ RM b6 o2 x2 j) → w.heap.size ≤ j) → Below w.heap.size w V → Q .normal { tmps := #[.agg a1, .agg a2, .pointer (some ⟨q2, 0, none⟩), .pointer (some ⟨q3, 0, none⟩), .nilFunc, .pointer (some ⟨b5, 0, none⟩), .pointer (some ⟨b6, 0, none⟩), .agg a1, .agg #[.slice o1 ts.length k1, .map (some x1)], .agg a2, .agg #[.slice o2 us.length k2, .map (some x2)], undef], defers := [] } V) (o1 : Option Addr) (k1 x1 : Nat) (o2 : Option Addr) (k2 x2 : Nat) (b6 : Nat) (V : World) (hB : Below w.heap.size w V) (hS : V.heap[q2]? = some (.cells a1 28 (0, 0)) ∧ V.heap[q3]? = some (.cells a2 28 (0, 0))) (j1 : Rr w o1 k1 x1 ts V) (j2 : Rr w o2 k2 x2 us V) (z6 : V.heap[b6]? = some (.cells #[.slice none 0 0, .map none] 76 (0, 0))) (l6 : w.heap.size ≤ b6) : wpAnyH Try.prog .any ops18 Q (fun V => V.heap[q2]? = some (.cells a1 28 (0, 0)) ∧ V.heap[q3]? = some (.cells a2 28 (0, 0))) 3 #[true, true, true, true, false, true, false, false] { tmps := #[.agg a1, .agg a2, .pointer (some ⟨q2, 0, none⟩), .pointer (some ⟨q3, 0, none⟩), .nilFunc, undef, .pointer (some ⟨b6, 0, none⟩), .agg a1, .agg #[.slice o1 ts.length k1, .map (some x1)], .agg a2, .agg #[.slice o2 us.length k2, .map (some x2)], undef], defers := [] } V := by
  refine wpAnyH_ready (rs := [4]) (by kernel_rfl) (by simp) ?_
  refine AllReadyH.cons (o := { dst := some 5, op := Op.alloc 76, type := 0, pos := "diff.go:13", after := #[], guard := none }) rfl (fun K hK => ?_) AllReadyH.nil
  go_simp
  have bn : Below V.heap.size V (V.alloc (.cells #[.slice none 0 0, .map none] 76)) := (Below.refl _ _).alloc (Nat.le_refl _) _
  have hS1 := (bn.block _ (lt_of_heap hS.1)).trans hS.1
  have hS2 := (bn.block _ (lt_of_heap hS.2)).trans hS.2
  refine hK.out _ _ ⟨hS1, hS2⟩ (fun hHeld => ?_)
  clear hK K hHeld
  (try simp only [Act.put, List.setIfInBounds_toArray, List.set_cons_zero, List.set_cons_succ])
  exact N2_ab X HQ o1 k1 x1 o2 k2 x2 V.heap.size b6 (V.alloc (.cells #[.slice none 0 0, .map none] 76)) (hB.trans (bn.mono hB.size)) ⟨hS1, hS2⟩ (j1.below bn) (j2.below bn) (heap_alloc_new V _) hB.size ((bn.block _ (lt_of_heap z6)).trans z6) l6 (fun e => by have := lt_of_heap z6; omega)
set_option maxRecDepth 100000 in
set_option maxHeartbeats 4000000 in
theorem N1_ab {w : World} {q2 q3 : Nat} {a1 a2 : Array Value} {ts us : List X.K3} {Q : Exit → Act → World → Prop} (X : Cb w a1 a2 ts us) (HQ : ∀ o1 k1 x1 o2 k2 x2 b5 b6 V, Rl b5 o1 k1 x1 ts V → Rl b6 o2 k2 x2 us V → (∀ j, (RM b5 o1 x1 j ∨ RM b6 o2 x2 j) → w.heap.size ≤ j) → Below w.heap.size w V → Q .normal { tmps := #[.agg a1, .agg a2, .pointer (some ⟨q2, 0, none⟩), .pointer (some ⟨q3, 0, none⟩), .nilFunc, .pointer (some ⟨b5, 0, none⟩), .pointer (some ⟨b6, 0, none⟩), .agg a1, .agg #[.slice o1 ts.length k1, .map (some x1)], .agg a2, .agg #[.slice o2 us.length k2, .map (some x2)], undef], defers := [] } V) (o1 : Option Addr) (k1 x1 : Nat) (b5 : Nat) (b6 : Nat) (V : World) (hB : Below w.heap.size w V) (hS : V.heap[q2]? = some (.cells a1 28 (0, 0)) ∧ V.heap[q3]? = some (.cells a2 28 (0, 0))) (j1 : Rr w o1 k1 x1 ts V) (z5 : V.heap[b5]? = some (.cells #[.slice none 0 0, .map none] 76 (0, 0))) (l5 : w.heap.size ≤ b5) (z6 : V.heap[b6]? = some (.cells #[.slice none 0 0, .map none] 76 (0, 0))) (l6 : w.heap.size ≤ b6) (n56 : b5 ≠ b6) : wpAnyH Try.prog .any ops18 Q (fun V => V.heap[q2]? = some (.cells a1 28 (0, 0)) ∧ V.heap[q3]? = some (.cells a2 28 (0, 0))) 3 #[true, true, true, false, true, true, false, false] { tmps := #[.agg a1, .agg a2, .pointer (some ⟨q2, 0, none⟩), .pointer (some ⟨q3, 0, none⟩), .nilFunc, .pointer (some ⟨b5, 0, none⟩), .pointer (some ⟨b6, 0, none⟩), .agg a1, .agg #[.slice o1 ts.length k1, .map (some x1)], .agg a2, undef, undef], defers := [] } V := by
  refine wpAnyH_ready (rs := [3]) (by kernel_rfl) (by simp) ?_
  refine AllReadyH.cons (o := { dst := some 10, op := Op.call { callee := Callee.value (Operand.func 38), args := #[Operand.tmp 9], argTypes := #[28] }, type := 76, pos := "diff.go:13", after := #[{ on := 2, ground := Ground.data }, { on := 1, ground := Ground.chain }], guard := none }) rfl (fun K hK => ?_) AllReadyH.nil
  go_simp
  refine (X.c2 V hB).mono ?_
  rintro e y1 ⟨o2, k2, x2, rfl, jr, jm, jb, bn⟩
  have jn : Rr w o2 k2 x2 us y1 := ⟨row_down jr hB.size, jm, Nat.le_trans hB.size jb⟩
  (try dsimp only)
  have hS1 := (bn.block _ (lt_of_heap hS.1)).trans hS.1
  have hS2 := (bn.block _ (lt_of_heap hS.2)).trans hS.2
  refine hK.out _ _ ⟨hS1, hS2⟩ (fun hHeld => ?_)
  clear hK K hHeld
  (try simp only [Act.put, List.setIfInBounds_toArray, List.set_cons_zero, List.set_cons_succ])
  exact N2_ab X HQ o1 k1 x1 o2 k2 x2 b5 b6 y1 (hB.trans (bn.mono hB.size)) ⟨hS1, hS2⟩ (j1.below bn) jn ((bn.block _ (lt_of_heap z5)).trans z5) l5 ((bn.block _ (lt_of_heap z6)).trans z6) l6 n56
set_option maxRecDepth 100000 in
set_option maxHeartbeats 4000000 in
theorem N2_00 {w : World} {q2 q3 : Nat} {a1 a2 : Array Value} {ts us : List X.K3} {Q : Exit → Act → World → Prop} (X : Cb w a1 a2 ts us) (HQ : ∀ o1 k1 x1 o2 k2 x2 b5 b6 V, Rl b5 o1 k1 x1 ts V → Rl b6 o2 k2 x2 us V → (∀ j, (RM b5 o1 x1 j ∨ RM b6 o2 x2 j) → w.heap.size ≤ j) → Below w.heap.size w V → Q .normal { tmps := #[.agg a1, .agg a2, .pointer (some ⟨q2, 0, none⟩), .pointer (some ⟨q3, 0, none⟩), .nilFunc, .pointer (some ⟨b5, 0, none⟩), .pointer (some ⟨b6, 0, none⟩), .agg a1, .agg #[.slice o1 ts.length k1, .map (some x1)], .agg a2, .agg #[.slice o2 us.length k2, .map (some x2)], undef], defers := [] } V) (o1 : Option Addr) (k1 x1 : Nat) (o2 : Option Addr) (k2 x2 : Nat) (V : World) (hB : Below w.heap.size w V) (hS : V.heap[q2]? = some (.cells a1 28 (0, 0)) ∧ V.heap[q3]? = some (.cells a2 28 (0, 0))) (j1 : Rr w o1 k1 x1 ts V) (j2 : Rr w o2 k2 x2 us V) : wpAnyH Try.prog .any ops18 Q (fun V => V.heap[q2]? = some (.cells a1 28 (0, 0)) ∧ V.heap[q3]? = some (.cells a2 28 (0, 0))) 4 #[true, true, true, true, false, false, false, false] { tmps := #[.agg a1, .agg a2, .pointer (some ⟨q2, 0, none⟩), .pointer (some ⟨q3, 0, none⟩), .nilFunc, undef, undef, .agg a1, .agg #[.slice o1 ts.length k1, .map (some x1)], .agg a2, .agg #[.slice o2 us.length k2, .map (some x2)], undef], defers := [] } V := by
  refine wpAnyH_ready (rs := [4, 5]) (by kernel_rfl) (by simp) ?_
  refine AllReadyH.cons (o := { dst := some 5, op := Op.alloc 76, type := 0, pos := "diff.go:13", after := #[], guard := none }) rfl (fun K hK => ?_) ?_
  · go_simp
    have bn : Below V.heap.size V (V.alloc (.cells #[.slice none 0 0, .map none] 76)) := (Below.refl _ _).alloc (Nat.le_refl _) _
    have hS1 := (bn.block _ (lt_of_heap hS.1)).trans hS.1
    have hS2 := (bn.block _ (lt_of_heap hS.2)).trans hS.2
    refine hK.out _ _ ⟨hS1, hS2⟩ (fun hHeld => ?_)
    clear hK K hHeld
    (try simp only [Act.put, List.setIfInBounds_toArray, List.set_cons_zero, List.set_cons_succ])
    exact N2_a0 X HQ o1 k1 x1 o2 k2 x2 V.heap.size (V.alloc (.cells #[.slice none 0 0, .map none] 76)) (hB.trans (bn.mono hB.size)) ⟨hS1, hS2⟩ (j1.below bn) (j2.below bn) (heap_alloc_new V _) hB.size
  refine AllReadyH.cons (o := { dst := some 6, op := Op.alloc 76, type := 0, pos := "diff.go:13", after := #[], guard := none }) rfl (fun K hK => ?_) AllReadyH.nil
  go_simp
  have bn : Below V.heap.size V (V.alloc (.cells #[.slice none 0 0, .map none] 76)) := (Below.refl _ _).alloc (Nat.le_refl _) _
  have hS1 := (bn.block _ (lt_of_heap hS.1)).trans hS.1
  have hS2 := (bn.block _ (lt_of_heap hS.2)).trans hS.2
  refine hK.out _ _ ⟨hS1, hS2⟩ (fun hHeld => ?_)
  clear hK K hHeld
  (try simp only [Act.put, List.setIfInBounds_toArray, List.set_cons_zero, List.set_cons_succ])
  exact N2_0b X HQ o1 k1 x1 o2 k2 x2 V.heap.size (V.alloc (.cells #[.slice none 0 0, .map none] 76)) (hB.trans (bn.mono hB.size)) ⟨hS1, hS2⟩ (j1.below bn) (j2.below bn) (heap_alloc_new V _) hB.size
set_option maxRecDepth 100000 in
set_option maxHeartbeats 4000000 in
theorem N1_a0 {w : World} {q2 q3 : Nat} {a1 a2 : Array Value} {ts us : List X.K3} {Q : Exit → Act → World → Prop} (X : Cb w a1 a2 ts us) (HQ : ∀ o1 k1 x1 o2 k2 x2 b5 b6 V, Rl b5 o1 k1 x1 ts V → Rl b6 o2 k2 x2 us V → (∀ j, (RM b5 o1 x1 j ∨ RM b6 o2 x2 j) → w.heap.size ≤ j) → Below w.heap.size w V → Q .normal { tmps := #[.agg a1, .agg a2, .pointer (some ⟨q2, 0, none⟩), .pointer (some ⟨q3, 0, none⟩), .nilFunc, .pointer (some ⟨b5, 0, none⟩), .pointer (some ⟨b6, 0, none⟩), .agg a1, .agg #[.slice o1 ts.length k1, .map (some x1)], .agg a2, .agg #[.slice o2 us.length k2, .map (some x2)], undef], defers := [] } V) (o1 : Option Addr) (k1 x1 : Nat) (b5 : Nat) (V : World) (hB : Below w.heap.size w V) (hS : V.heap[q2]? = some (.cells a1 28 (0, 0)) ∧ V.heap[q3]? = some (.cells a2 28 (0, 0))) (j1 : Rr w o1 k1 x1 ts V) (z5 : V.heap[b5]? = some (.cells #[.slice none 0 0, .map none] 76 (0, 0))) (l5 : w.heap.size ≤ b5) : wpAnyH Try.prog .any ops18 Q (fun V => V.heap[q2]? = some (.cells a1 28 (0, 0)) ∧ V.heap[q3]? = some (.cells a2 28 (0, 0))) 4 #[true, true, true, false, true, false, false, false] { tmps := #[.agg a1, .agg a2, .pointer (some ⟨q2, 0, none⟩), .pointer (some ⟨q3, 0, none⟩), .nilFunc, .pointer (some ⟨b5, 0, none⟩), undef, .agg a1, .agg #[.slice o1 ts.length k1, .map (some x1)], .agg a2, undef, undef], defers := [] } V := by
  refine wpAnyH_ready (rs := [3, 5]) (by kernel_rfl) (by simp) ?_
  refine AllReadyH.cons (o := { dst := some 10, op := Op.call { callee := Callee.value (Operand.func 38), args := #[Operand.tmp 9], argTypes := #[28] }, type := 76, pos := "diff.go:13", after := #[{ on := 2, ground := Ground.data }, { on := 1, ground := Ground.chain }], guard := none }) rfl (fun K hK => ?_) ?_
  · go_simp
    refine (X.c2 V hB).mono ?_
    rintro e y1 ⟨o2, k2, x2, rfl, jr, jm, jb, bn⟩
    have jn : Rr w o2 k2 x2 us y1 := ⟨row_down jr hB.size, jm, Nat.le_trans hB.size jb⟩
    (try dsimp only)
    have hS1 := (bn.block _ (lt_of_heap hS.1)).trans hS.1
    have hS2 := (bn.block _ (lt_of_heap hS.2)).trans hS.2
    refine hK.out _ _ ⟨hS1, hS2⟩ (fun hHeld => ?_)
    clear hK K hHeld
    (try simp only [Act.put, List.setIfInBounds_toArray, List.set_cons_zero, List.set_cons_succ])
    exact N2_a0 X HQ o1 k1 x1 o2 k2 x2 b5 y1 (hB.trans (bn.mono hB.size)) ⟨hS1, hS2⟩ (j1.below bn) jn ((bn.block _ (lt_of_heap z5)).trans z5) l5
  refine AllReadyH.cons (o := { dst := some 6, op := Op.alloc 76, type := 0, pos := "diff.go:13", after := #[], guard := none }) rfl (fun K hK => ?_) AllReadyH.nil
  go_simp
  have bn : Below V.heap.size V (V.alloc (.cells #[.slice none 0 0, .map none] 76)) := (Below.refl _ _).alloc (Nat.le_refl _) _
  have hS1 := (bn.block _ (lt_of_heap hS.1)).trans hS.1
  have hS2 := (bn.block _ (lt_of_heap hS.2)).trans hS.2
  refine hK.out _ _ ⟨hS1, hS2⟩ (fun hHeld => ?_)
  clear hK K hHeld
  (try simp only [Act.put, List.setIfInBounds_toArray, List.set_cons_zero, List.set_cons_succ])
  exact N1_ab X HQ o1 k1 x1 b5 V.heap.size (V.alloc (.cells #[.slice none 0 0, .map none] 76)) (hB.trans (bn.mono hB.size)) ⟨hS1, hS2⟩ (j1.below bn) ((bn.block _ (lt_of_heap z5)).trans z5) l5 (heap_alloc_new V _) hB.size (fun e => by have := lt_of_heap z5; omega)
set_option maxRecDepth 100000 in
set_option maxHeartbeats 4000000 in
theorem N1_0b {w : World} {q2 q3 : Nat} {a1 a2 : Array Value} {ts us : List X.K3} {Q : Exit → Act → World → Prop} (X : Cb w a1 a2 ts us) (HQ : ∀ o1 k1 x1 o2 k2 x2 b5 b6 V, Rl b5 o1 k1 x1 ts V → Rl b6 o2 k2 x2 us V → (∀ j, (RM b5 o1 x1 j ∨ RM b6 o2 x2 j) → w.heap.size ≤ j) → Below w.heap.size w V → Q .normal { tmps := #[.agg a1, .agg a2, .pointer (some ⟨q2, 0, none⟩), .pointer (some ⟨q3, 0, none⟩), .nilFunc, .pointer (some ⟨b5, 0, none⟩), .pointer (some ⟨b6, 0, none⟩), .agg a1, .agg #[.slice o1 ts.length k1, .map (some x1)], .agg a2, .agg #[.slice o2 us.length k2, .map (some x2)], undef], defers := [] } V) (o1 : Option Addr) (k1 x1 : Nat) (b6 : Nat) (V : World) (hB : Below w.heap.size w V) (hS : V.heap[q2]? = some (.cells a1 28 (0, 0)) ∧ V.heap[q3]? = some (.cells a2 28 (0, 0))) (j1 : Rr w o1 k1 x1 ts V) (z6 : V.heap[b6]? = some (.cells #[.slice none 0 0, .map none] 76 (0, 0))) (l6 : w.heap.size ≤ b6) : wpAnyH Try.prog .any ops18 Q (fun V => V.heap[q2]? = some (.cells a1 28 (0, 0)) ∧ V.heap[q3]? = some (.cells a2 28 (0, 0))) 4 #[true, true, true, false, false, true, false, false] { tmps := #[.agg a1, .agg a2, .pointer (some ⟨q2, 0, none⟩), .pointer (some ⟨q3, 0, none⟩), .nilFunc, undef, .pointer (some ⟨b6, 0, none⟩), .agg a1, .agg #[.slice o1 ts.length k1, .map (some x1)], .agg a2, undef, undef], defers := [] } V := by
  refine wpAnyH_ready (rs := [3, 4]) (by kernel_rfl) (by simp) ?_
  refine AllReadyH.cons (o := { dst := some 10, op := Op.call { callee := Callee.value (Operand.func 38), args := #[Operand.tmp 9], argTypes := #[28] }, type := 76, pos := "diff.go:13", after := #[{ on := 2, ground := Ground.data }, { on := 1, ground := Ground.chain }], guard := none }) rfl (fun K hK => ?_) ?_
  · go_simp
    refine (X.c2 V hB).mono ?_
    rintro e y1 ⟨o2, k2, x2, rfl, jr, jm, jb, bn⟩
    have jn : Rr w o2 k2 x2 us y1 := ⟨row_down jr hB.size, jm, Nat.le_trans hB.size jb⟩
    (try dsimp only)
    have hS1 := (bn.block _ (lt_of_heap hS.1)).trans hS.1
    have hS2 := (bn.block _ (lt_of_heap hS.2)).trans hS.2
    refine hK.out _ _ ⟨hS1, hS2⟩ (fun hHeld => ?_)
    clear hK K hHeld
    (try simp only [Act.put, List.setIfInBounds_toArray, List.set_cons_zero, List.set_cons_succ])
    exact N2_0b X HQ o1 k1 x1 o2 k2 x2 b6 y1 (hB.trans (bn.mono hB.size)) ⟨hS1, hS2⟩ (j1.below bn) jn ((bn.block _ (lt_of_heap z6)).trans z6) l6
  refine AllReadyH.cons (o := { dst := some 5, op := Op.alloc 76, type := 0, pos := "diff.go:13", after := #[], guard := none }) rfl (fun K hK => ?_) AllReadyH.nil
  go_simp
  have bn : Below V.heap.size V (V.alloc (.cells #[.slice none 0 0, .map none] 76)) := (Below.refl _ _).alloc (Nat.le_refl _) _
  have hS1 := (bn.block _ (lt_of_heap hS.1)).trans hS.1
  have hS2 := (bn.block _ (lt_of_heap hS.2)).trans hS.2
  refine hK.out _ _ ⟨hS1, hS2⟩ (fun hHeld => ?_)
  clear hK K hHeld
  (try simp only [Act.put, List.setIfInBounds_toArray, List.set_cons_zero, List.set_cons_succ])
  exact N1_ab X HQ o1 k1 x1 V.heap.size b6 (V.alloc (.cells #[.slice none 0 0, .map none] 76)) (hB.trans (bn.mono hB.size)) ⟨hS1, hS2⟩ (j1.below bn) (heap_alloc_new V _) hB.size ((bn.block _ (lt_of_heap z6)).trans z6) l6 (fun e => by have := lt_of_heap z6; omega)
set_option maxRecDepth 100000 in
set_option maxHeartbeats 4000000 in
theorem N0_ab {w : World} {q2 q3 : Nat} {a1 a2 : Array Value} {ts us : List X.K3} {Q : Exit → Act → World → Prop} (X : Cb w a1 a2 ts us) (HQ : ∀ o1 k1 x1 o2 k2 x2 b5 b6 V, Rl b5 o1 k1 x1 ts V → Rl b6 o2 k2 x2 us V → (∀ j, (RM b5 o1 x1 j ∨ RM b6 o2 x2 j) → w.heap.size ≤ j) → Below w.heap.size w V → Q .normal { tmps := #[.agg a1, .agg a2, .pointer (some ⟨q2, 0, none⟩), .pointer (some ⟨q3, 0, none⟩), .nilFunc, .pointer (some ⟨b5, 0, none⟩), .pointer (some ⟨b6, 0, none⟩), .agg a1, .agg #[.slice o1 ts.length k1, .map (some x1)], .agg a2, .agg #[.slice o2 us.length k2, .map (some x2)], undef], defers := [] } V) (b5 : Nat) (b6 : Nat) (V : World) (hB : Below w.heap.size w V) (hS : V.heap[q2]? = some (.cells a1 28 (0, 0)) ∧ V.heap[q3]? = some (.cells a2 28 (0, 0))) (z5 : V.heap[b5]? = some (.cells #[.slice none 0 0, .map none] 76 (0, 0))) (l5 : w.heap.size ≤ b5) (z6 : V.heap[b6]? = some (.cells #[.slice none 0 0, .map none] 76 (0, 0))) (l6 : w.heap.size ≤ b6) (n56 : b5 ≠ b6) : wpAnyH Try.prog .any ops18 Q (fun V => V.heap[q2]? = some (.cells a1 28 (0, 0)) ∧ V.heap[q3]? = some (.cells a2 28 (0, 0))) 4 #[true, false, true, false, true, true, false, false] { tmps := #[.agg a1, .agg a2, .pointer (some ⟨q2, 0, none⟩), .pointer (some ⟨q3, 0, none⟩), .nilFunc, .pointer (some ⟨b5, 0, none⟩), .pointer (some ⟨b6, 0, none⟩), .agg a1, undef, .agg a2, undef, undef], defers := [] } V := by
  refine wpAnyH_ready (rs := [1]) (by kernel_rfl) (by simp) ?_
  refine AllReadyH.cons (o := { dst := some 8, op := Op.call { callee := Callee.value (Operand.func 38), args := #[Operand.tmp 7], argTypes := #[28] }, type := 76, pos := "diff.go:13", after := #[{ on := 0, ground := Ground.data }], guard := none }) rfl (fun K hK => ?_) AllReadyH.nil
  go_simp
  refine (X.c1 V hB).mono ?_
  rintro e y1 ⟨o1, k1, x1, rfl, jr, jm, jb, bn⟩
  have jn : Rr w o1 k1 x1 ts y1 := ⟨row_down jr hB.size, jm, Nat.le_trans hB.size jb⟩
  (try dsimp only)
  have hS1 := (bn.block _ (lt_of_heap hS.1)).trans hS.1
  have hS2 := (bn.block _ (lt_of_heap hS.2)).trans hS.2
  refine hK.out _ _ ⟨hS1, hS2⟩ (fun hHeld => ?_)
  clear hK K hHeld
  (try simp only [Act.put, List.setIfInBounds_toArray, List.set_cons_zero, List.set_cons_succ])
  exact N1_ab X HQ o1 k1 x1 b5 b6 y1 (hB.trans (bn.mono hB.size)) ⟨hS1, hS2⟩ jn ((bn.block _ (lt_of_heap z5)).trans z5) l5 ((bn.block _ (lt_of_heap z6)).trans z6) l6 n56
set_option maxRecDepth 100000 in
set_option maxHeartbeats 4000000 in
theorem N1_00 {w : World} {q2 q3 : Nat} {a1 a2 : Array Value} {ts us : List X.K3} {Q : Exit → Act → World → Prop} (X : Cb w a1 a2 ts us) (HQ : ∀ o1 k1 x1 o2 k2 x2 b5 b6 V, Rl b5 o1 k1 x1 ts V → Rl b6 o2 k2 x2 us V → (∀ j, (RM b5 o1 x1 j ∨ RM b6 o2 x2 j) → w.heap.size ≤ j) → Below w.heap.size w V → Q .normal { tmps := #[.agg a1, .agg a2, .pointer (some ⟨q2, 0, none⟩), .pointer (some ⟨q3, 0, none⟩), .nilFunc, .pointer (some ⟨b5, 0, none⟩), .pointer (some ⟨b6, 0, none⟩), .agg a1, .agg #[.slice o1 ts.length k1, .map (some x1)], .agg a2, .agg #[.slice o2 us.length k2, .map (some x2)], undef], defers := [] } V) (o1 : Option Addr) (k1 x1 : Nat) (V : World) (hB : Below w.heap.size w V) (hS : V.heap[q2]? = some (.cells a1 28 (0, 0)) ∧ V.heap[q3]? = some (.cells a2 28 (0, 0))) (j1 : Rr w o1 k1 x1 ts V) : wpAnyH Try.prog .any ops18 Q (fun V => V.heap[q2]? = some (.cells a1 28 (0, 0)) ∧ V.heap[q3]? = some (.cells a2 28 (0, 0))) 5 #[true, true, true, false, false, false, false, false] { tmps := #[.agg a1, .agg a2, .pointer (some ⟨q2, 0, none⟩), .pointer (some ⟨q3, 0, none⟩), .nilFunc, undef, undef, .agg a1, .agg #[.slice o1 ts.length k1, .map (some x1)], .agg a2, undef, undef], defers := [] } V := by
  refine wpAnyH_ready (rs := [3, 4, 5]) (by kernel_rfl) (by simp) ?_
  refine AllReadyH.cons (o := { dst := some 10, op := Op.call { callee := Callee.value (Operand.func 38), args := #[Operand.tmp 9], argTypes := #[28] }, type := 76, pos := "diff.go:13", after := #[{ on := 2, ground := Ground.data }, { on := 1, ground := Ground.chain }], guard := none }) rfl (fun K hK => ?_) ?_
  · go_simp
    refine (X.c2 V hB).mono ?_
    rintro e y1 ⟨o2, k2, x2, rfl, jr, jm, jb, bn⟩
    have jn : Rr w o2 k2 x2 us y1 := ⟨row_down jr hB.size, jm, Nat.le_trans hB.size jb⟩
    (try dsimp only)
    have hS1 := (bn.block _ (lt_of_heap hS.1)).trans hS.1
    have hS2 := (bn.block _ (lt_of_heap hS.2)).trans hS.2
    refine hK.out _ _ ⟨hS1, hS2⟩ (fun hHeld => ?_)
    clear hK K hHeld
    (try simp only [Act.put, List.setIfInBounds_toArray, List.set_cons_zero, List.set_cons_succ])
    exact N2_00 X HQ o1 k1 x1 o2 k2 x2 y1 (hB.trans (bn.mono hB.size)) ⟨hS1, hS2⟩ (j1.below bn) jn
  refine AllReadyH.cons (o := { dst := some 5, op := Op.alloc 76, type := 0, pos := "diff.go:13", after := #[], guard := none }) rfl (fun K hK => ?_) ?_
  · go_simp
    have bn : Below V.heap.size V (V.alloc (.cells #[.slice none 0 0, .map none] 76)) := (Below.refl _ _).alloc (Nat.le_refl _) _
    have hS1 := (bn.block _ (lt_of_heap hS.1)).trans hS.1
    have hS2 := (bn.block _ (lt_of_heap hS.2)).trans hS.2
    refine hK.out _ _ ⟨hS1, hS2⟩ (fun hHeld => ?_)
    clear hK K hHeld
    (try simp only [Act.put, List.setIfInBounds_toArray, List.set_cons_zero, List.set_cons_succ])
    exact N1_a0 X HQ o1 k1 x1 V.heap.size (V.alloc (.cells #[.slice none 0 0, .map none] 76)) (hB.trans (bn.mono hB.size)) ⟨hS1, hS2⟩ (j1.below bn) (heap_alloc_new V _) hB.size
  refine AllReadyH.cons (o := { dst := some 6, op := Op.alloc 76, type := 0, pos := "diff.go:13", after := #[], guard := none }) rfl (fun K hK => ?_) AllReadyH.nil
  go_simp
  have bn : Below V.heap.size V (V.alloc (.cells #[.slice none 0 0, .map none] 76)) := (Below.refl _ _).alloc (Nat.le_refl _) _
  have hS1 := (bn.block _ (lt_of_heap hS.1)).trans hS.1
  have hS2 := (bn.block _ (lt_of_heap hS.2)).trans hS.2
  refine hK.out _ _ ⟨hS1, hS2⟩ (fun hHeld => ?_)
  clear hK K hHeld
  (try simp only [Act.put, List.setIfInBounds_toArray, List.set_cons_zero, List.set_cons_succ])
  exact N1_0b X HQ o1 k1 x1 V.heap.size (V.alloc (.cells #[.slice none 0 0, .map none] 76)) (hB.trans (bn.mono hB.size)) ⟨hS1, hS2⟩ (j1.below bn) (heap_alloc_new V _) hB.size
set_option maxRecDepth 100000 in
set_option maxHeartbeats 4000000 in
theorem N0_a0 {w : World} {q2 q3 : Nat} {a1 a2 : Array Value} {ts us : List X.K3} {Q : Exit → Act → World → Prop} (X : Cb w a1 a2 ts us) (HQ : ∀ o1 k1 x1 o2 k2 x2 b5 b6 V, Rl b5 o1 k1 x1 ts V → Rl b6 o2 k2 x2 us V → (∀ j, (RM b5 o1 x1 j ∨ RM b6 o2 x2 j) → w.heap.size ≤ j) → Below w.heap.size w V → Q .normal { tmps := #[.agg a1, .agg a2, .pointer (some ⟨q2, 0, none⟩), .pointer (some ⟨q3, 0, none⟩), .nilFunc, .pointer (some ⟨b5, 0, none⟩), .pointer (some ⟨b6, 0, none⟩), .agg a1, .agg #[.slice o1 ts.length k1, .map (some x1)], .agg a2, .agg #[.slice o2 us.length k2, .map (some x2)], undef], defers := [] } V) (b5 : Nat) (V : World) (hB : Below w.heap.size w V) (hS : V.heap[q2]? = some (.cells a1 28 (0, 0)) ∧ V.heap[q3]? = some (.cells a2 28 (0, 0))) (z5 : V.heap[b5]? = some (.cells #[.slice none 0 0, .map none] 76 (0, 0))) (l5 : w.heap.size ≤ b5) : wpAnyH Try.prog .any ops18 Q (fun V => V.heap[q2]? = some (.cells a1 28 (0, 0)) ∧ V.heap[q3]? = some (.cells a2 28 (0, 0))) 5 #[true, false, true, false, true, false, false, false] { tmps := #[.agg a1, .agg a2, .pointer (some ⟨q2, 0, none⟩), .pointer (some ⟨q3, 0, none⟩), .nilFunc, .pointer (some ⟨b5, 0, none⟩), undef, .agg a1, undef, .agg a2, undef, undef], defers := [] } V := by
  refine wpAnyH_ready (rs := [1, 5]) (by kernel_rfl) (by simp) ?_
  refine AllReadyH.cons (o := { dst := some 8, op := Op.call { callee := Callee.value (Operand.func 38), args := #[Operand.tmp 7], argTypes := #[28] }, type := 76, pos := "diff.go:13", after := #[{ on := 0, ground := Ground.data }], guard := none }) rfl (fun K hK => ?_) ?_
  · go_simp
    refine (X.c1 V hB).mono ?_
    rintro e y1 ⟨o1, k1, x1, rfl, jr, jm, jb, bn⟩
    have jn : Rr w o1 k1 x1 ts y1 := ⟨row_down jr hB.size, jm, Nat.le_trans hB.size jb⟩
    (try dsimp only)
    have hS1 := (bn.block _ (lt_of_heap hS.1)).trans hS.1
    have hS2 := (bn.block _ (lt_of_heap hS.2)).trans hS.2
    refine hK.out _ _ ⟨hS1, hS2⟩ (fun hHeld => ?_)
    clear hK K hHeld
    (try simp only [Act.put, List.setIfInBounds_toArray, List.set_cons_zero, List.set_cons_succ])
    exact N1_a0 X HQ o1 k1 x1 b5 y1 (hB.trans (bn.mono hB.size)) ⟨hS1, hS2⟩ jn ((bn.block _ (lt_of_heap z5)).trans z5) l5
  refine AllReadyH.cons (o := { dst := some 6, op := Op.alloc 76, type := 0, pos := "diff.go:13", after := #[], guard := none }) rfl (fun K hK => ?_) AllReadyH.nil
  go_simp
  have bn : Below V.heap.size V (V.alloc (.cells #[.slice none 0 0, .map none] 76)) := (Below.refl _ _).alloc (Nat.le_refl _) _
  have hS1 := (bn.block _ (lt_of_heap hS.1)).trans hS.1
  have hS2 := (bn.block _ (lt_of_heap hS.2)).trans hS.2
  refine hK.out _ _ ⟨hS1, hS2⟩ (fun hHeld => ?_)
  clear hK K hHeld
  (try simp only [Act.put, List.setIfInBounds_toArray, List.set_cons_zero, List.set_cons_succ])
  exact N0_ab X HQ b5 V.heap.size (V.alloc (.cells #[.slice none 0 0, .map none] 76)) (hB.trans (bn.mono hB.size)) ⟨hS1, hS2⟩ ((bn.block _ (lt_of_heap z5)).trans z5) l5 (heap_alloc_new V _) hB.size (fun e => by have := lt_of_heap z5; omega)
set_option maxRecDepth 100000 in
set_option maxHeartbeats 4000000 in
theorem N0_0b {w : World} {q2 q3 : Nat} {a1 a2 : Array Value} {ts us : List X.K3} {Q : Exit → Act → World → Prop} (X : Cb w a1 a2 ts us) (HQ : ∀ o1 k1 x1 o2 k2 x2 b5 b6 V, Rl b5 o1 k1 x1 ts V → Rl b6 o2 k2 x2 us V → (∀ j, (RM b5 o1 x1 j ∨ RM b6 o2 x2 j) → w.heap.size ≤ j) → Below w.heap.size w V → Q .normal { tmps := #[.agg a1, .agg a2, .pointer (some ⟨q2, 0, none⟩), .pointer (some ⟨q3, 0, none⟩), .nilFunc, .pointer (some ⟨b5, 0, none⟩), .pointer (some ⟨b6, 0, none⟩), .agg a1, .agg #[.slice o1 ts.length k1, .map (some x1)], .agg a2, .agg #[.slice o2 us.length k2, .map (some x2)], undef], defers := [] } V) (b6 : Nat) (V : World) (hB : Below w.heap.size w V) (hS : V.heap[q2]? = some (.cells a1 28 (0, 0)) ∧ V.heap[q3]? = some (.cells a2 28 (0, 0))) (z6 : V.heap[b6]? = some (.cells #[.slice none 0 0, .map none] 76 (0, 0))) (l6 : w.heap.size ≤ b6) : wpAnyH Try.prog .any ops18 Q (fun V => V.heap[q2]? = some (.cells a1 28 (0, 0)) ∧ V.heap[q3]? = some (.cells a2 28 (0, 0))) 5 #[true, false, true, false, false, true, false, false] { tmps := #[.agg a1, .agg a2, .pointer (some ⟨q2, 0, none⟩), .pointer (some ⟨q3, 0, none⟩), .nilFunc, undef, .pointer (some ⟨b6, 0, none⟩), .agg a1, undef, .agg a2, undef, undef], defers := [] } V := by
  refine wpAnyH_ready (rs := [1, 4]) (by kernel_rfl) (by simp) ?_
  refine AllReadyH.cons (o := { dst := some 8, op := Op.call { callee := Callee.value (Operand.func 38), args := #[Operand.tmp 7], argTypes := #[28] }, type := 76, pos := "diff.go:13", after := #[{ on := 0, ground := Ground.data }], guard := none }) rfl (fun K hK => ?_) ?_
  · go_simp
    refine (X.c1 V hB).mono ?_
    rintro e y1 ⟨o1, k1, x1, rfl, jr, jm, jb, bn⟩
    have jn : Rr w o1 k1 x1 ts y1 := ⟨row_down jr hB.size, jm, Nat.le_trans hB.size jb⟩
    (try dsimp only)
    have hS1 := (bn.block _ (lt_of_heap hS.1)).trans hS.1
    have hS2 := (bn.block _ (lt_of_heap hS.2)).trans hS.2
    refine hK.out _ _ ⟨hS1, hS2⟩ (fun hHeld => ?_)
    clear hK K hHeld
    (try simp only [Act.put, List.setIfInBounds_toArray, List.set_cons_zero, List.set_cons_succ])
    exact N1_0b X HQ o1 k1 x1 b6 y1 (hB.trans (bn.mono hB.size)) ⟨hS1, hS2⟩ jn ((bn.block _ (lt_of_heap z6)).trans z6) l6
  refine AllReadyH.cons (o := { dst := some 5, op := Op.alloc 76, type := 0, pos := "diff.go:13", after := #[], guard := none }) rfl (fun K hK => ?_) AllReadyH.nil
  go_simp
  have bn : Below V.heap.size V (V.alloc (.cells #[.slice none 0 0, .map none] 76)) := (Below.refl _ _).alloc (Nat.le_refl _) _
  have hS1 := (bn.block _ (lt_of_heap hS.1)).trans hS.1
  have hS2 := (bn.block _ (lt_of_heap hS.2)).trans hS.2
  refine hK.out _ _ ⟨hS1, hS2⟩ (fun hHeld => ?_)
  clear hK K hHeld
  (try simp only [Act.put, List.setIfInBounds_toArray, List.set_cons_zero, List.set_cons_succ])
  exact N0_ab X HQ V.heap.size b6 (V.alloc (.cells #[.slice none 0 0, .map none] 76)) (hB.trans (bn.mono hB.size)) ⟨hS1, hS2⟩ (heap_alloc_new V _) hB.size ((bn.block _ (lt_of_heap z6)).trans z6) l6 (fun e => by have := lt_of_heap z6; omega)
set_option maxRecDepth 100000 in
set_option maxHeartbeats 4000000 in
theorem N0_00 {w : World} {q2 q3 : Nat} {a1 a2 : Array Value} {ts us : List X.K3} {Q : Exit → Act → World → Prop} (X : Cb w a1 a2 ts us) (HQ : ∀ o1 k1 x1 o2 k2 x2 b5 b6 V, Rl b5 o1 k1 x1 ts V → Rl b6 o2 k2 x2 us V → (∀ j, (RM b5 o1 x1 j ∨ RM b6 o2 x2 j) → w.heap.size ≤ j) → Below w.heap.size w V → Q .normal { tmps := #[.agg a1, .agg a2, .pointer (some ⟨q2, 0, none⟩), .pointer (some ⟨q3, 0, none⟩), .nilFunc, .pointer (some ⟨b5, 0, none⟩), .pointer (some ⟨b6, 0, none⟩), .agg a1, .agg #[.slice o1 ts.length k1, .map (some x1)], .agg a2, .agg #[.slice o2 us.length k2, .map (some x2)], undef], defers := [] } V) (V : World) (hB : Below w.heap.size w V) (hS : V.heap[q2]? = some (.cells a1 28 (0, 0)) ∧ V.heap[q3]? = some (.cells a2 28 (0, 0))) : wpAnyH Try.prog .any ops18 Q (fun V => V.heap[q2]? = some (.cells a1 28 (0, 0)) ∧ V.heap[q3]? = some (.cells a2 28 (0, 0))) 6 #[true, false, true, false, false, false, false, false] { tmps := #[.agg a1, .agg a2, .pointer (some ⟨q2, 0, none⟩), .pointer (some ⟨q3, 0, none⟩), .nilFunc, undef, undef, .agg a1, undef, .agg a2, undef, undef], defers := [] } V := by
  refine wpAnyH_ready (rs := [1, 4, 5]) (by kernel_rfl) (by simp) ?_
  refine AllReadyH.cons (o := { dst := some 8, op := Op.call { callee := Callee.value (Operand.func 38), args := #[Operand.tmp 7], argTypes := #[28] }, type := 76, pos := "diff.go:13", after := #[{ on := 0, ground := Ground.data }], guard := none }) rfl (fun K hK => ?_) ?_
  · go_simp
    refine (X.c1 V hB).mono ?_
    rintro e y1 ⟨o1, k1, x1, rfl, jr, jm, jb, bn⟩
    have jn : Rr w o1 k1 x1 ts y1 := ⟨row_down jr hB.size, jm, Nat.le_trans hB.size jb⟩
    (try dsimp only)
    have hS1 := (bn.block _ (lt_of_heap hS.1)).trans hS.1
    have hS2 := (bn.block _ (lt_of_heap hS.2)).trans hS.2
    refine hK.out _ _ ⟨hS1, hS2⟩ (fun hHeld => ?_)
    clear hK K hHeld
    (try simp only [Act.put, List.setIfInBounds_toArray, List.set_cons_zero, List.set_cons_succ])
    exact N1_00 X HQ o1 k1 x1 y1 (hB.trans (bn.mono hB.size)) ⟨hS1, hS2⟩ jn
  refine AllReadyH.cons (o := { dst := some 5, op := Op.alloc 76, type := 0, pos := "diff.go:13", after := #[], guard := none }) rfl (fun K hK => ?_) ?_
  · go_simp
    have bn : Below V.heap.size V (V.alloc (.cells #[.slice none 0 0, .map none] 76)) := (Below.refl _ _).alloc (Nat.le_refl _) _
    have hS1 := (bn.block _ (lt_of_heap hS.1)).trans hS.1
    have hS2 := (bn.block _ (lt_of_heap hS.2)).trans hS.2
    refine hK.out _ _ ⟨hS1, hS2⟩ (fun hHeld => ?_)
    clear hK K hHeld
    (try simp only [Act.put, List.setIfInBounds_toArray, List.set_cons_zero, List.set_cons_succ])
    exact N0_a0 X HQ V.heap.size (V.alloc (.cells #[.slice none 0 0, .map none] 76)) (hB.trans (bn.mono hB.size)) ⟨hS1, hS2⟩ (heap_alloc_new V _) hB.size
  refine AllReadyH.cons (o := { dst := some 6, op := Op.alloc 76, type := 0, pos := "diff.go:13", after := #[], guard := none }) rfl (fun K hK => ?_) AllReadyH.nil
  go_simp
  have bn : Below V.heap.size V (V.alloc (.cells #[.slice none 0 0, .map none] 76)) := (Below.refl _ _).alloc (Nat.le_refl _) _
  have hS1 := (bn.block _ (lt_of_heap hS.1)).trans hS.1
  have hS2 := (bn.block _ (lt_of_heap hS.2)).trans hS.2
  refine hK.out _ _ ⟨hS1, hS2⟩ (fun hHeld => ?_)
  clear hK K hHeld
  (try simp only [Act.put, List.setIfInBounds_toArray, List.set_cons_zero, List.set_cons_succ])
  exact N0_0b X HQ V.heap.size (V.alloc (.cells #[.slice none 0 0, .map none] 76)) (hB.trans (bn.mono hB.size)) ⟨hS1, hS2⟩ (heap_alloc_new V _) hB.size
set_option maxRecDepth 100000 in
set_option maxHeartbeats 8000000 in
theorem between_any (F G : U.Pf) (ts us : List X.K3) (w : World) (X : Cb w F.arr G.arr ts us) : Calls Try.prog 18 #[.agg F.arr, .agg G.arr] w fun e w' => ∃ o1 k1 x1 o2 k2 x2 b5 b6, e = .returned (.func (.func 39) #[] #[.pointer (some ⟨b5, 0, none⟩), .pointer (some ⟨b6, 0, none⟩)]) ∧ Rl b5 o1 k1 x1 ts w' ∧ Rl b6 o2 k2 x2 us w' ∧ (∀ j, (RM b5 o1 x1 j ∨ RM b6 o2 x2 j) → w.heap.size ≤ j) ∧ Below w.heap.size w w' := by
  have HX := hide' X
  clear X
  go_enter Try.func18, Try.ntmps18
  go_wp2_with fail
  have B0 : Hid (Below w.heap.size w ((w.alloc (.cells F.arr 28)).alloc (.cells G.arr 28)) ∧ ((w.alloc (.cells F.arr 28)).alloc (.cells G.arr 28)).heap[w.heap.size]? = some (.cells F.arr 28 (0, 0)) ∧ ((w.alloc (.cells F.arr 28)).alloc (.cells G.arr 28)).heap[w.heap.size + 1]? = some (.cells G.arr 28 (0, 0))) := ⟨((Below.refl _ _).alloc (Nat.le_refl _) _).alloc (by simp) _, (Below.heap_alloc _ _ _ (by simp)).trans (heap_alloc_new w _), by have := heap_alloc_new (w.alloc (.cells F.arr 28)) (.cells G.arr 28); rwa [World.size_alloc] at this⟩
  generalize (w.alloc (.cells F.arr 28)).alloc (.cells G.arr 28) = V at *
  obtain ⟨q2, hq2⟩ : ∃ q2, q2 = w.heap.size := ⟨_, rfl⟩
  obtain ⟨q3, hq3⟩ : ∃ q3, q3 = w.heap.size + 1 := ⟨_, rfl⟩
  rw [← hq3]
  rw [← hq2]
  have B1 : Hid (Below w.heap.size w V ∧ V.heap[q2]? = some (.cells F.arr 28 (0, 0)) ∧ V.heap[q3]? = some (.cells G.arr 28 (0, 0))) := by rw [hq2, hq3]; exact ⟨B0.out.1, B0.out.2.1, B0.out.2.2⟩
  clear hq2 hq3 B0
  have hdr : Below V.heap.size V V.drew := ⟨rfl, rfl, rfl, Nat.le_refl _, fun _ _ => rfl⟩
  refine wp_region_held_drew (S := fun V => V.heap[q2]? = some (.cells F.arr 28 (0, 0)) ∧ V.heap[q3]? = some (.cells G.arr 28 (0, 0))) (by kernel_rfl) ⟨B1.out.2.1, B1.out.2.2⟩ (fun hHeld => ?_)
  refine wpAnyH_take (i := 0) (oi := { dst := some 7, op := Op.load 28 (Operand.tmp 2), type := 28, pos := "diff.go:13", after := #[], guard := none }) (v := .agg F.arr) rfl (by kernel_rfl) (by kernel_rfl) (by kernel_rfl) (fun _ _ _ h => h) (Or.inl ⟨by kernel_rfl, fun w hSw => ?_⟩) (by assumption) ?_
  · exact U.ex_row 28 _ rfl q2 rfl 28 _ (0, 0) _ hSw.1 Try.underlying28 rfl (U.size_arr _)
  (try simp only [Act.put, List.setIfInBounds_toArray, List.set_cons_zero, List.set_cons_succ])
  refine wpAnyH_take (i := 2) (oi := { dst := some 9, op := Op.load 28 (Operand.tmp 3), type := 28, pos := "diff.go:13", after := #[], guard := none }) (v := .agg G.arr) rfl (by kernel_rfl) (by kernel_rfl) (by kernel_rfl) (fun _ _ _ h => h) (Or.inl ⟨by kernel_rfl, fun w hSw => ?_⟩) (by assumption) ?_
  · exact U.ex_row 28 _ rfl q3 rfl 28 _ (0, 0) _ hSw.2 Try.underlying28 rfl (U.size_arr _)
  (try simp only [Act.put, List.setIfInBounds_toArray, List.set_cons_zero, List.set_cons_succ])
  refine N0_00 HX.out ?_ V.drew (B1.out.1.trans (hdr.mono B1.out.1.size)) ⟨B1.out.2.1, B1.out.2.2⟩
  clear hHeld hdr B1 V HX
  intro o1 k1 x1 o2 k2 x2 b5 b6 V r1 r2 hm hb
  have HR := hide' (And.intro (And.intro r1 r2) (And.intro hm hb))
  clear r1 r2 hm hb
  simp only [Exit.then]
  go_wp2_with fail
  go_ret
  exact ⟨_, _, _, _, _, _, _, _, rfl, HR.out.1.1, HR.out.1.2, HR.out.2.1, HR.out.2.2⟩
end D
end Go.Proofs.Ytollaamlnddhcaa
set_option linter.unusedVariables false
set_option linter.unusedSimpArgs false
namespace Go.Proofs.Ytollaamlnddhcaa
open Go.RowKit Go.Maps
attribute [local go_sem] Oper.semAt_some
namespace D
def cc (c : Ch) : List Value := [.string c.1.1, .string c.1.2.1, .string c.1.2.2, .bool c.2]
/-- a row of changes of one's own -/
def Cr (B : Nat) (ao : Option Addr) (cap : Nat) (zs : List Ch) (w : World) : Prop := w.ownsRow B 44 4 (.slice ao zs.length cap) zs.length (zs.flatMap cc)
def CAt (ao : Option Addr) (j : Nat) : Prop := ∃ a, ao = some a ∧ j = a.block
theorem Cr.nil (B : Nat) (w : World) : Cr B none 0 [] w := World.ownsRow_nil _ _ _ _
theorem Cr.form {B : Nat} {ao : Option Addr} {cap : Nat} {zs : List Ch} {w : World} (h : Cr B ao cap zs w) : (ao = none ∧ zs = [] ∧ cap = 0) ∨ ∃ g, ao = some ⟨g, 0, none⟩ ∧ B ≤ g ∧ g < w.heap.size ∧ zs.length ≤ cap := by
  rcases h.2 with ⟨hv, h0⟩ | ⟨g, cap', cur, hv, hb, hg, h1, h2, h3, h4⟩
  · simp only [Value.slice.injEq] at hv
    exact .inl ⟨hv.1, List.eq_nil_of_length_eq_zero hv.2.1, hv.2.2⟩
  · simp only [Value.slice.injEq] at hv
    obtain ⟨rfl, _, rfl⟩ := hv
    exact .inr ⟨g, rfl, hb, lt_of_heap hg, by omega⟩
theorem Cr.cap {B : Nat} {ao : Option Addr} {cap : Nat} {zs : List Ch} {w : World} (h : Cr B ao cap zs w) : zs.length ≤ cap := by
  rcases h.form with ⟨_, rfl, rfl⟩ | ⟨g, _, _, _, h⟩
  · simp
  · exact h
theorem Cr.turn {S : Nat → Prop} {B : Nat} {ao : Option Addr} {cap : Nat} {zs : List Ch} {w w' : World} (h : Cr B ao cap zs w) (t : Turn S w w') (hn : ∀ j, CAt ao j → ¬ S j) : Cr B ao cap zs w' :=
  t.row h (fun g hg => hn g (by cases ao with | none => cases hg | some a => exact ⟨a, rfl, by simpa [Value.ownBlock] using hg.symm⟩))
theorem Cr.below {B : Nat} {ao : Option Addr} {cap : Nat} {zs : List Ch} {w w' : World} (h : Cr B ao cap zs w) (t : Below w.heap.size w w') : Cr B ao cap zs w' := h.turn (turn_below (S := fun _ => False) t) (fun _ _ q => q)
theorem Cr.down {B B' : Nat} {ao : Option Addr} {cap : Nat} {zs : List Ch} {w : World} (h : Cr B ao cap zs w) (hB : B' ≤ B) : Cr B' ao cap zs w := by
  refine ⟨h.1, ?_⟩
  rcases h.2 with q | ⟨g, c, cur, q1, q2, q3⟩
  · exact .inl q
  · exact .inr ⟨g, c, cur, q1, Nat.le_trans hB q2, q3⟩
theorem Cr.lt {B : Nat} {ao : Option Addr} {cap : Nat} {zs : List Ch} {w : World} (h : Cr B ao cap zs w) : ∀ j, CAt ao j → B ≤ j ∧ j < w.heap.size := by
  rintro j ⟨a, rfl, rfl⟩
  rcases h.form with ⟨e, _⟩ | ⟨g, e, h1, h2, _⟩
  · cases e
  · cases e; exact ⟨h1, h2⟩
theorem kindC {B : Nat} {ao : Option Addr} {cap : Nat} {zs : List Ch} {w : World} (h : Cr B ao cap zs w) {j : Nat} (q : CAt ao j) : ∃ cur, w.heap[j]? = some (.cells cur 44 (0, 0)) := by
  obtain ⟨a, rfl, rfl⟩ := q
  rcases h.2 with ⟨hv, h0⟩ | ⟨g, cap', cur, hv, hb, hg, _⟩
  · simp at hv
  · simp only [Value.slice.injEq, Option.some.injEq] at hv
    obtain ⟨rfl, _⟩ := hv
    exact ⟨cur, hg⟩
theorem Cr.rowI {B : Nat} {ao : Option Addr} {cap : Nat} {zs : List Ch} {w : World} (h : Cr B ao cap zs w) : G.RowI 44 4 B ao cap (zs.map cc) w := by
  unfold G.RowI
  rw [List.length_map]
  have e : (zs.map cc).flatten = zs.flatMap cc := rfl
  rw [e]
  exact h
theorem Cr.at {B : Nat} {ao : Option Addr} {cap : Nat} {zs : List Ch} {w : World} (h : Cr B ao cap zs w) {j : Nat} {c : Ch} (hj : zs[j]? = some c) : ∃ g, ao = some ⟨g, 0, none⟩ ∧ g < w.heap.size ∧ w.cell? ⟨g, j * 4, none⟩ = some (.string c.1.1) ∧ w.cell? ⟨g, j * 4 + 1, none⟩ = some (.string c.1.2.1) ∧ w.cell? ⟨g, j * 4 + 2, none⟩ = some (.string c.1.2.2) ∧ w.cell? ⟨g, j * 4 + 3, none⟩ = some (.bool c.2) := by
  have hl : ∀ k ∈ zs.map cc, k.length = 4 := fun k hk => by obtain ⟨x, _, rfl⟩ := List.mem_map.1 hk; rfl
  have hz : (zs.map cc)[j]? = some (cc c) := by rw [List.getElem?_map, hj]; rfl
  obtain ⟨g, e0, c0, _, hg⟩ := h.rowI.at hl hz (r := 0) rfl
  obtain ⟨g1, e1, c1, _⟩ := h.rowI.at hl hz (r := 1) rfl
  obtain ⟨g2, e2, c2, _⟩ := h.rowI.at hl hz (r := 2) rfl
  obtain ⟨g3, e3, c3, _⟩ := h.rowI.at hl hz (r := 3) rfl
  rw [e0] at e1 e2 e3
  cases e1; cases e2; cases e3
  exact ⟨g, e0, hg, c0, c1, c2, c3⟩
theorem Cr.grown {B : Nat} {ao : Option Addr} {cap n : Nat} {zs : List Ch} {k : Ch} {w0 w1 : World} {ob : Obj} {g cap' : Nat} (h : Cr B ao cap zs w0) (hn : zs.length = n) (hrow1 : w1.ownsRow B 44 4 (.slice (some ⟨g, 0, none⟩) (n + 1) cap') (n + 1) (zs.flatMap cc ++ [.string k.1.1, .string k.1.2.1, .string k.1.2.2, .bool k.2])) (hgrow : (w0.alloc ob).grownBy w1 (Value.slice ao n cap).ownBlock) (hat : (Value.slice ao n cap).ownBlock = some g ∨ g = w0.heap.size + 1) :
    Cr B (some ⟨g, 0, none⟩) cap' (zs ++ [k]) w1 ∧ Turn (CAt ao) w0 w1 ∧ (ao = some ⟨g, 0, none⟩ ∨ w0.heap.size ≤ g) := by
  subst hn
  refine ⟨by unfold Cr; rw [List.length_append, List.flatMap_append]; simpa [cc] using hrow1, ((Turn.refl _ w0).alloc _).grown hgrow (fun j hj _ => by
    cases ao with
    | none => cases hj
    | some ad => exact ⟨ad, rfl, by simpa [Value.ownBlock] using hj.symm⟩), ?_⟩
  rcases hat with q | q
  · cases ao with
    | none => cases q
    | some ad =>
      left
      rcases h.form with ⟨e, _⟩ | ⟨g', e, _⟩
      · cases e
      · cases e; simp only [Value.ownBlock, Option.some.injEq] at q; rw [q]
  · right; omega
/-- an append within a round, and where the row lies behind it -/
theorem appendIn {F : Fence} {n : Nat} {P : Program} (w : World) {ops : Array Oper} {rest : List Oper} {o : Oper} {a : Act} {Q : Exit → Act → World → Prop}
    (hg : o.guard = none) (s x : Operand) (t : TypeId) (hop : o.op = Op.call { callee := Callee.builtin Builtin.append, args := #[s, x], argTypes := #[t, t] })
    (base : Nat) (e : TypeId) (i : TypeInfo) (z : Value) (size bytes : Nat) (h1 : P.underlying t = some (.slice e)) (h2 : P.info? e = some i) (h3 : i.zero = some z) (h4 : i.size = size) (h5 : i.bytes = bytes) (h6 : z.cells.size = size) (h7 : 0 < size)
    (v : Value) (k : Nat) (xs : List Value) (hs : a.eval s = v) (hown : w.ownsRow base e size v k xs) (ad : Addr) (m c : Nat) (news : List Value) (hx : a.eval x = .slice (some ad) m c) (hn : news.length = m * size)
    (hc : ∀ j u, news[j]? = some u → w.cell? (ad.add j) = some u) (h1c : ∀ u ∈ news, u.oneCell' = true) (hm : 0 < m) (b1 : k + m ≤ maxLen) (b2 : (k + m) * bytes ≤ 140737488355328) (b3 : base ≤ w.heap.size)
    (hK : ∀ g cap w', w'.ownsRow base e size (.slice (some ⟨g, 0, none⟩) (k + m) cap) (k + m) (xs ++ news) → w.grownBy w' v.ownBlock → (v.ownBlock = some g ∨ g = w.heap.size) → wpListIn F n P ops Q rest (a.put o.dst (.slice (some ⟨g, 0, none⟩) (k + m) cap)) w') :
    wpListIn F n P ops Q (o :: rest) a w := by
  obtain ⟨g, cap, w', hrun, r1, r2, r3, _⟩ := run_append_lies (P := P) w t o.type base e i z size bytes h1 h2 h3 h4 h5 h6 h7 v k xs hown ad m c news hn hc h1c hm b1 b2 b3 w.heap.size rfl
  refine wpListIn_plain hg fun K hK' => ⟨?_, ?_⟩
  · simp [Oper.about, hop, resolve, Target.leads, Sem.run_pure]
  · rw [Oper.semAt_plain F _ _ (by rw [hop]; intro c hc'; cases hc')]
    simp [execOp, hop, resolve, invoke, builtin, hs, hx, hrun, Result.andThen]
    exact hK' _ _ (hK g cap w' r1 r2 r3)
theorem four_new (w : World) (x y z u' : Value) (t : TypeId) : ∀ j u, [x, y, z, u'][j]? = some u → (w.alloc (.cells #[x, y, z, u'] t)).cell? ((⟨w.heap.size, 0, none⟩ : Addr).add j) = some u := by
  intro j u hj
  exact World.news_of_block (heap_alloc_new w (.cells #[x, y, z, u'] t)) j u (by simpa using hj)
theorem infoC : (Try.prog.info? 44).map (fun i => (i.zero, i.size, i.bytes)) = some (some (.agg #[.string ByteArray.empty, .string ByteArray.empty, .string ByteArray.empty, .bool false]), 4, 56) := by kernel_rfl
/-- what stands while List gathers -/
structure Li (w : World) (q5 : Nat) (ch : List Ch) (M : Nat → Prop) (k : Nat) (o : Option Addr) (c : Nat) (X : World) : Prop where
  h5 : X.heap[q5]? = some (.cells #[.slice o k c] 30 (0, 0))
  r : Cr w.heap.size o c (ch.take k) X
  kl : (ch.take k).length = k
  nm : ∀ j, CAt o j → ¬ M j
  n5 : ¬ M q5
  b : Below w.heap.size w X
  l5 : w.heap.size ≤ q5
theorem Li.qt {w : World} {q5 B : Nat} {ch : List Ch} {M M' : Nat → Prop} {k : Nat} {o : Option Addr} {c : Nat} {X1 X2 : World} (h : Li w q5 ch M k o c X1) (t : QT B X1 X2) (hB : w.heap.size ≤ B) (hm : ∀ j, M' j → M j ∨ X1.heap.size ≤ j) : Li w q5 ch M' k o c X2 where
  h5 := t.block h.h5
  r := h.r.turn t (fun j r q => by obtain ⟨cur, kk⟩ := kindC h.r r; obtain ⟨_, o, q2, q3⟩ := q; rw [kk] at q2; cases q2; cases q3)
  kl := h.kl
  nm := fun j r q => by have := (h.r.lt j r).2; rcases hm j q with q | q; exact h.nm j r q; omega
  n5 := fun q => by have := lt_of_heap h.h5; rcases hm _ q with q | q; exact h.n5 q; omega
  b := h.b.trans (below_own t (fun j q => Nat.le_trans hB q.1) h.b.size)
  l5 := h.l5
/-- one more -/
theorem Li.next {w : World} {q5 : Nat} {ch : List Ch} {M : Nat → Prop} {k : Nat} {o : Option Addr} {c : Nat} {x : Ch} {X1 w3 : World} {ob : Obj} {g cap' : Nat} (h : Li w q5 ch M k o c X1) (hx : ch[k]? = some x) (hM : ∀ j, M j → j < X1.heap.size) (hrow1 : w3.ownsRow w.heap.size 44 4 (.slice (some ⟨g, 0, none⟩) (k + 1) cap') (k + 1) ((ch.take k).flatMap cc ++ [.string x.1.1, .string x.1.2.1, .string x.1.2.2, .bool x.2])) (hgrow : (X1.alloc ob).grownBy w3 (Value.slice o k c).ownBlock) (hat : (Value.slice o k c).ownBlock = some g ∨ g = X1.heap.size + 1) :
    Li w q5 ch M (k + 1) (some ⟨g, 0, none⟩) cap' (w3.setCell ⟨q5, 0, none⟩ (.slice (some ⟨g, 0, none⟩) (k + 1) cap')) ∧ (∀ B, KeepsFrom B X1 (w3.setCell ⟨q5, 0, none⟩ (.slice (some ⟨g, 0, none⟩) (k + 1) cap'))) ∧ (∀ j, M j → (w3.setCell ⟨q5, 0, none⟩ (.slice (some ⟨g, 0, none⟩) (k + 1) cap')).heap[j]? = X1.heap[j]?) ∧ w3.heap[q5]? = some (.cells #[.slice o k c] 30 (0, 0)) := by
  obtain ⟨r1, t1, hg⟩ := Cr.grown h.r h.kl hrow1 hgrow hat
  have hq : ¬ CAt o q5 := fun r => by obtain ⟨cur, kk⟩ := kindC h.r r; exact U.cells_ne kk h.h5 (by decide) rfl
  have h5 := (t1.block _ (lt_of_heap h.h5) hq).trans h.h5
  have t2 : Turn (fun j => j = q5) w3 (w3.setCell ⟨q5, 0, none⟩ (.slice (some ⟨g, 0, none⟩) (k + 1) cap')) := (Turn.refl (fun j => j = q5) w3).setCell (p := ⟨q5, 0, none⟩) (fun _ => rfl) _
  have tt : Turn (fun j => CAt o j ∨ j = q5) X1 (w3.setCell ⟨q5, 0, none⟩ (.slice (some ⟨g, 0, none⟩) (k + 1) cap')) := (t1.mono (fun j _ q => Or.inl q)).then t2 (fun j _ q => Or.inr q)
  have hg' : ¬ M g := by
    rcases hg with e | e
    · exact h.nm g ⟨_, e, rfl⟩
    · exact fun q => by have := hM g q; omega
  have htk : ch.take (k + 1) = ch.take k ++ [x] := by rw [List.take_add_one, hx]; rfl
  refine ⟨⟨by simp [World.setCell, Array.getElem?_modify, h5], ?_, ?_, ?_, h.n5, ?_, h.l5⟩, fun B => ⟨tt.size, fun j o' _ hj ho => (tt.block j (lt_of_heap hj) ?_).trans hj⟩, fun j q => tt.block j (hM j q) ?_, h5⟩
  · rw [htk]
    exact r1.turn t2 (fun j r e => by obtain ⟨cur, kk⟩ := kindC r1 r; exact U.cells_ne kk h5 (by decide) e)
  · rw [htk, List.length_append, h.kl]; rfl
  · rintro j ⟨a, e, rfl⟩
    cases e
    exact hg'
  · exact h.b.trans (below_own tt (fun j q => by rcases q with q | q; exact (h.r.lt j q).1; rw [q]; exact h.l5) h.b.size)
  · rintro (q | q)
    · obtain ⟨cur, kk⟩ := kindC h.r q
      rw [hj] at kk; cases kk; cases ho
    · rw [q, h.h5] at hj; cases hj; cases ho
  · rintro (r | r)
    · exact h.nm j r q
    · exact h.n5 (by rw [← r]; exact q)
end D
end Go.Proofs.Ytollaamlnddhcaa
set_option linter.unusedVariables false
set_option linter.unusedSimpArgs false
namespace Go.Proofs.Ytollaamlnddhcaa
open Go.RowKit Go.Maps
attribute [local go_sem] Oper.semAt_some
namespace D
theorem stay_app {F : Fence} {n : Nat} {P : Program} {ops : Array Oper} {rest : List Oper} {o : Oper} {a : Act} {Q : Exit → Act → World → Prop} {w : World} (s x : Operand) (t : TypeId) (hop : o.op = Op.call { callee := Callee.builtin Builtin.append, args := #[s, x], argTypes := #[t, t] }) (h : U.Stay (wpListIn F n P ops Q (o :: rest) a w)) : wpListIn F n P ops Q (o :: rest) a w := h
/-- relations that are fit to be told -/
structure Fit (ts us : List X.K3) : Prop where
  k1 : ∀ t ∈ ts, X.okk t
  l1 : ts.length ≤ 1048576
  k2 : ∀ t ∈ us, X.okk t
  l2 : us.length ≤ 1048576
theorem wo_le (ts us : List X.K3) : (wo ts us).length ≤ ts.length := List.length_filter_le _ _
theorem Cb.up {w V : World} {a1 a2 : Array Value} {ts us : List X.K3} (X : Cb w a1 a2 ts us) (b : Below w.heap.size w V) : Cb V a1 a2 ts us := ⟨fun V' b' => X.c1 V' (b.trans (b'.mono b.size)), fun V' b' => X.c2 V' (b.trans (b'.mono b.size))⟩
/-- what List tells -/
def LstIs (ts us : List X.K3) (w : World) (e : Ending) (w' : World) : Prop := ∃ o c, e = .returned (.slice o (chg ts us).length c) ∧ Cr w.heap.size o c (chg ts us) w' ∧ Below w.heap.size w w'
set_option maxRecDepth 100000 in
set_option maxHeartbeats 8000000 in
theorem list_any (F G : U.Pf) (ts us : List X.K3) (w : World) (X : Cb w F.arr G.arr ts us) (hf : Fit ts us) : Calls Try.prog 12 #[.agg F.arr, .agg G.arr] w fun e w' => LstIs ts us w e w' := by
  have HX := hide' X
  have HF := hide' hf
  have hcl : Hid ((chg ts us).length ≤ 2097152) := by have := hf.l1; have := hf.l2; have := wo_le ts us; have := wo_le us ts; show _ ≤ _; rw [chg_len]; omega
  clear X hf
  refine (callsIn_wide (n := 1)).1 ?_
  refine callsIn_of_wp_marks Try.func12 rfl trivial ?_ rfl
  refine wpIn_wide.2 ?_
  simp only [Try.ntmps12, List.size_toArray, List.length_cons, List.length_nil, Nat.reduceAdd, Nat.reduceSub, Array.replicate_succ, Array.replicate_zero, List.push_toArray, List.append_toArray, List.nil_append, List.cons_append]
  go_wp2_with (with_reducible refine U.stay_load 28 _ rfl ?_)
  unfold U.Stay
  have B0 : Hid (Below w.heap.size w (((w.alloc (.cells F.arr 28)).alloc (.cells G.arr 28)).alloc (.cells #[.slice none 0 0] 30)) ∧ (((w.alloc (.cells F.arr 28)).alloc (.cells G.arr 28)).alloc (.cells #[.slice none 0 0] 30)).heap[w.heap.size]? = some (.cells F.arr 28 (0, 0)) ∧ (((w.alloc (.cells F.arr 28)).alloc (.cells G.arr 28)).alloc (.cells #[.slice none 0 0] 30)).heap[w.heap.size + 1]? = some (.cells G.arr 28 (0, 0)) ∧ (((w.alloc (.cells F.arr 28)).alloc (.cells G.arr 28)).alloc (.cells #[.slice none 0 0] 30)).heap[w.heap.size + 1 + 1]? = some (.cells #[.slice none 0 0] 30 (0, 0))) := by
    refine ⟨(((Below.refl _ _).alloc (Nat.le_refl _) _).alloc (by simp) _).alloc (by simp; omega) _, ?_, ?_, ?_⟩
    · exact (Below.heap_alloc _ _ _ (by simp; omega)).trans ((Below.heap_alloc _ _ _ (by simp)).trans (heap_alloc_new w _))
    · refine (Below.heap_alloc _ _ _ (by simp)).trans ?_
      have := heap_alloc_new (w.alloc (.cells F.arr 28)) (.cells G.arr 28)
      rwa [World.size_alloc] at this
    · have := heap_alloc_new ((w.alloc (.cells F.arr 28)).alloc (.cells G.arr 28)) (.cells #[.slice none 0 0] 30)
      rwa [World.size_alloc, World.size_alloc] at this
  generalize ((w.alloc (.cells F.arr 28)).alloc (.cells G.arr 28)).alloc (.cells #[.slice none 0 0] 30) = V at *
  obtain ⟨q5, hq5⟩ : ∃ q5, q5 = w.heap.size + 1 + 1 := ⟨_, rfl⟩
  obtain ⟨q3, hq3⟩ : ∃ q3, q3 = w.heap.size + 1 := ⟨_, rfl⟩
  obtain ⟨q2, hq2⟩ : ∃ q2, q2 = w.heap.size := ⟨_, rfl⟩
  rw [← hq5, ← hq3, ← hq2]
  have B1 : Hid (Below w.heap.size w V ∧ V.heap[q2]? = some (.cells F.arr 28 (0, 0)) ∧ V.heap[q3]? = some (.cells G.arr 28 (0, 0)) ∧ V.heap[q5]? = some (.cells #[.slice none 0 0] 30 (0, 0)) ∧ w.heap.size ≤ q5) := by rw [hq2, hq3, hq5]; exact ⟨B0.out.1, B0.out.2.1, B0.out.2.2.1, B0.out.2.2.2, by omega⟩
  clear hq2 hq3 hq5 B0
  refine wpList_load_row rfl 28 _ rfl q2 rfl 28 F.arr (0, 0) _ B1.out.2.1 Try.underlying28 rfl (U.size_arr F) ?_
  go_wp2_with (with_reducible refine U.stay_load 28 _ rfl ?_)
  unfold U.Stay
  refine wpList_load_row rfl 28 _ rfl q3 rfl 28 G.arr (0, 0) _ B1.out.2.2.1 Try.underlying28 rfl (U.size_arr G) ?_
  go_wp2_with fail
  refine (between_any F G ts us V (HX.out.up B1.out.1)).mono ?_
  rintro e V1 ⟨o1, k1, x1, o2, k2, x2, b5, b6, rfl, r1, r2, hm, hb⟩
  obtain ⟨M0, hM0⟩ : ∃ M0, M0 = (fun j => RM b5 o1 x1 j ∨ RM b6 o2 x2 j) := ⟨_, rfl⟩
  have SQ := hide' (between_seq r1 r2 HF.out.k1 HF.out.l1 HF.out.k2 HF.out.l2)
  rw [← hM0] at SQ
  have ML : Hid (∀ j, M0 j → j < V1.heap.size) := fun j q => by rw [hM0] at q; rcases q with q | q; exact r1.lt q; exact r2.lt q
  have L0 : Hid (Li w q5 (chg ts us) M0 0 none 0 V1) := ⟨(hb.block _ (lt_of_heap B1.out.2.2.2.1)).trans B1.out.2.2.2.1, by rw [List.take_zero]; exact Cr.nil _ _, rfl, (fun j r => by obtain ⟨a, e, _⟩ := r; cases e), (fun q => by rw [hM0] at q; have := hm _ q; have := lt_of_heap B1.out.2.2.2.1; omega), B1.out.1.trans (hb.mono B1.out.1.size), B1.out.2.2.2.2⟩
  have ZV : Hid (w.heap.size ≤ V1.heap.size) := L0.out.b.size
  clear r1 r2 hm hb hM0 B1 V
  go_wp2_with fail
  refine (wpIn_wide (n := 1)).1 ?_
  refine range_f rfl (Nat.le_refl _) (gf := 39) (lb := #[.pointer (some ⟨b5, 0, none⟩), .pointer (some ⟨b6, 0, none⟩)]) rfl trivial Try.call39 SQ.out (Nat.le_refl _) (fun j q => ⟨ML.out j q, rfl⟩) (fun x => rfl)
    (fun M k X => ∃ o c, Li w q5 (chg ts us) M k o c X) (fun c k X => False)
    (fun M k x a' X => (∃ o c, Li w q5 (chg ts us) M k o c X) ∧ (∀ j, M j → j < X.heap.size) ∧ ∃ b, X.heap[b]? = some (.cells #[.string x.1.1, .string x.1.2.1, .string x.1.2.2, .bool x.2] 44 (0, 0)) ∧ a' = { tmps := #[.agg F.arr, .agg G.arr, .pointer (some ⟨q2, 0, none⟩), .pointer (some ⟨q3, 0, none⟩), .slice none 0 0, .pointer (some ⟨q5, 0, none⟩), .pointer (some ⟨b, 0, none⟩), .agg F.arr, .agg G.arr, .func (.func 39) #[] #[.pointer (some ⟨b5, 0, none⟩), .pointer (some ⟨b6, 0, none⟩)], .agg #[.string x.1.1, .string x.1.2.1, .string x.1.2.2, .bool x.2], undef, undef, undef, undef, undef], defers := [] })
    ?start ?stab ?stabx ?staba ?assign ?body ?done ?stop
  case start => exact ⟨none, 0, L0.out⟩
  case stab =>
    rintro M M' k X1 X2 ⟨o, c, h⟩ t hm
    exact ⟨o, c, h.qt t ZV.out hm⟩
  case stabx => exact fun _ _ _ _ q _ => q
  case staba =>
    rintro M k x a' X1 X2 ⟨⟨o, c, h⟩, hm, b, hb, ha⟩ t
    exact ⟨⟨o, c, h.qt t ZV.out (fun j q => .inl q)⟩, fun j q => Nat.lt_of_lt_of_le (hm j q) (Turn.size t), b, t.block hb, ha⟩
  case assign =>
    intro m l' M k x X1 K hx h hm hK
    obtain ⟨⟨x1', x2', x3'⟩, x4'⟩ := x
    have HKK := hide' hK
    have Hh := hide' (And.intro h hm)
    clear hK h hm hx
    unfold encC
    gi_wp2
    obtain ⟨o, c, h⟩ := Hh.out.1
    exact HKK.out _ _ ((Turn.refl _ X1).alloc _) ⟨⟨o, c, h.qt ((QT.refl V1.heap.size X1).alloc _) ZV.out (fun j q => .inl q)⟩, fun j q => Nat.lt_of_lt_of_le (Hh.out.2 j q).1 (by simp), X1.heap.size, heap_alloc_new X1 _, rfl⟩
  case body =>
    rintro m l' M k ⟨⟨y1, y2, y3⟩, y4⟩ a' X1 hx ⟨⟨o, c, h⟩, hm, b, hb, rfl⟩
    simp only at hb
    have e5 : X1.cell? ⟨q5, 0, none⟩ = some (.slice o k c) := by rw [Lib.cell_of_heap h.h5]; rfl
    have e0 : X1.cell? ⟨b, 0, none⟩ = some (.string y1) := by rw [Lib.cell_of_heap hb]; rfl
    have e1 : X1.cell? ⟨b, 1, none⟩ = some (.string y2) := by rw [Lib.cell_of_heap hb]; rfl
    have e2 : X1.cell? ⟨b, 2, none⟩ = some (.string y3) := by rw [Lib.cell_of_heap hb]; rfl
    have e3 : X1.cell? ⟨b, 3, none⟩ = some (.bool y4) := by rw [Lib.cell_of_heap hb]; rfl
    have hkl : Hid (k < (chg ts us).length) := (List.getElem?_eq_some_iff.1 hx).1
    have B1 : Hid (k + 1 ≤ maxLen) := by have := hkl.out; have := hcl.out; show _ ≤ _; unfold maxLen; omega
    have B2 : Hid ((k + 1) * 56 ≤ 140737488355328) := by have := hkl.out; have := hcl.out; show _ ≤ _; omega
    have B3 : Hid (w.heap.size ≤ X1.heap.size) := h.b.size
    have hrow : X1.ownsRow w.heap.size 44 4 (.slice o k c) k (((chg ts us).take k).flatMap cc) := by have q := h.r; unfold Cr at q; rw [h.kl] at q; exact q
    have HR := hide' hrow
    have HH := hide' (And.intro h (And.intro hx hm))
    obtain ⟨i0, hi, hz0, hz1, hz2⟩ := info_parts infoC
    clear h hx hm hb hrow
    gi_wp2_with (with_reducible refine stay_app _ _ 30 rfl ?_)
    unfold U.Stay
    refine appendIn _ rfl _ _ 30 rfl w.heap.size 44 i0 _ 4 56 Try.underlying30 hi hz0 hz1 hz2 rfl (by decide) (.slice o k c) k (((chg ts us).take k).flatMap cc) rfl (HR.out.alloc _) ⟨X1.heap.size, 0, none⟩ 1 1 [.string y1, .string y2, .string y3, .bool y4] rfl rfl (four_new _ _ _ _ _ _) (by simp [Value.oneCell']) (by decide) B1.out B2.out (by have := B3.out; simp; omega) ?_
    intro g cap' w3 hrow3 hgrow3 hat3
    have P3 := HH.out.1.next (x := ((y1, y2, y3), y4)) HH.out.2.1 HH.out.2.2 hrow3 hgrow3 (by simpa using hat3)
    have PP := hide' P3
    have f5 : w3.cell? ⟨q5, 0, none⟩ = some (.slice o k c) := by rw [Lib.cell_of_heap P3.2.2.2]; rfl
    have f6 : w3.frozen? ⟨q5, 0, none⟩ = false := Lib.frozen_of_heap P3.2.2.2 0
    clear P3 hrow3 hgrow3 hat3
    gi_wp2
    exact ⟨PP.out.2.1 _, ⟨_, _, PP.out.1⟩, PP.out.2.2.1⟩
  case stop => exact fun _ _ _ q => q.elim
  rintro M Vd ⟨o, c, hI⟩ hD
  have e5 : Vd.cell? ⟨q5, 0, none⟩ = some (.slice o (chg ts us).length c) := by rw [Lib.cell_of_heap hI.h5]; rfl
  have HH := hide' (And.intro hI hD)
  clear hI hD
  go_wp2
  refine ⟨by simp, .inl ⟨_, _, rfl, run_takeDeferred HH.out.2, ?_⟩⟩
  have r := HH.out.1.r
  rw [List.take_length] at r
  have t2 : Turn (fun j => j = V1.heap.size) Vd (Vd.putObj V1.heap.size (.deferred none)) := ⟨rfl, rfl, rfl, by simp, fun k _ hk => World.putObj_heap_other hk⟩
  refine ⟨.slice o (chg ts us).length c, ?_, o, c, rfl, r.turn t2 (fun j q e => ?_), HH.out.1.b.trans (below_own t2 (fun j e => by rw [e]; exact ZV.out) HH.out.1.b.size)⟩
  · simp [results, Try.f12, go_sem]
  · obtain ⟨cur, kk⟩ := kindC r q
    rw [e, HH.out.2] at kk; cases kk
end D
end Go.Proofs.Ytollaamlnddhcaa
set_option linter.unusedVariables false
set_option linter.unusedSimpArgs false
namespace Go.Proofs.Ytollaamlnddhcaa
open Go.RowKit Go.Maps
attribute [local go_sem] Oper.semAt_some
namespace D
/-- what stands while Same looks for a change -/
structure Si (w : World) (q4 : Nat) (M : Nat → Prop) (X : World) : Prop where
  h4 : X.heap[q4]? = some (.cells #[.bool false] 4 (0, 0))
  n4 : ¬ M q4
  b : Below w.heap.size w X
  l4 : w.heap.size ≤ q4
theorem Si.qt {w : World} {q4 B : Nat} {M M' : Nat → Prop} {X1 X2 : World} (h : Si w q4 M X1) (t : QT B X1 X2) (hB : w.heap.size ≤ B) (hm : ∀ j, M' j → M j ∨ X1.heap.size ≤ j) : Si w q4 M' X2 where
  h4 := t.block h.h4
  n4 := fun q => by have := lt_of_heap h.h4; rcases hm _ q with q | q; exact h.n4 q; omega
  b := h.b.trans (below_own t (fun j q => Nat.le_trans hB q.1) h.b.size)
  l4 := h.l4
theorem Si.put {w : World} {q4 : Nat} {M : Nat → Prop} {X : World} (h : Si w q4 M X) (v : Value) : (X.setCell ⟨q4, 0, none⟩ v).heap[q4]? = some (.cells #[v] 4 (0, 0)) ∧ Below w.heap.size w (X.setCell ⟨q4, 0, none⟩ v) ∧ ∀ B, KeepsFrom B X (X.setCell ⟨q4, 0, none⟩ v) := by
  have t : Turn (fun j => j = q4) X (X.setCell ⟨q4, 0, none⟩ v) := (Turn.refl (fun j => j = q4) X).setCell (p := ⟨q4, 0, none⟩) (fun _ => rfl) _
  refine ⟨by simp [World.setCell, Array.getElem?_modify, h.h4], h.b.trans (below_own t (fun j e => by rw [e]; exact h.l4) h.b.size), fun B => ⟨t.size, fun j o _ hj ho => (t.block j (lt_of_heap hj) (fun e => ?_)).trans hj⟩⟩
  rw [e, h.h4] at hj; cases hj; cases ho
set_option maxRecDepth 100000 in
set_option maxHeartbeats 8000000 in
theorem same_any (F G : U.Pf) (ts us : List X.K3) (w : World) (X : Cb w F.arr G.arr ts us) (hf : Fit ts us) : Calls Try.prog 15 #[.agg F.arr, .agg G.arr] w fun e w' => e = .returned (.bool ((chg ts us).length == 0)) ∧ Below w.heap.size w w' := by
  have HX := hide' X
  have HF := hide' hf
  clear X hf
  refine (callsIn_wide (n := 1)).1 ?_
  refine callsIn_of_wp_marks Try.func15 rfl trivial ?_ rfl
  refine wpIn_wide.2 ?_
  simp only [Try.ntmps15, List.size_toArray, List.length_cons, List.length_nil, Nat.reduceAdd, Nat.reduceSub, Array.replicate_succ, Array.replicate_zero, List.push_toArray, List.append_toArray, List.nil_append, List.cons_append]
  go_wp2_with (with_reducible refine U.stay_load 28 _ rfl ?_)
  unfold U.Stay
  have B0 : Hid (Below w.heap.size w (((w.alloc (.cells F.arr 28)).alloc (.cells G.arr 28)).alloc (.cells #[.bool false] 4)) ∧ (((w.alloc (.cells F.arr 28)).alloc (.cells G.arr 28)).alloc (.cells #[.bool false] 4)).heap[w.heap.size]? = some (.cells F.arr 28 (0, 0)) ∧ (((w.alloc (.cells F.arr 28)).alloc (.cells G.arr 28)).alloc (.cells #[.bool false] 4)).heap[w.heap.size + 1]? = some (.cells G.arr 28 (0, 0)) ∧ (((w.alloc (.cells F.arr 28)).alloc (.cells G.arr 28)).alloc (.cells #[.bool false] 4)).heap[w.heap.size + 1 + 1]? = some (.cells #[.bool false] 4 (0, 0))) := by
    refine ⟨(((Below.refl _ _).alloc (Nat.le_refl _) _).alloc (by simp) _).alloc (by simp; omega) _, ?_, ?_, ?_⟩
    · exact (Below.heap_alloc _ _ _ (by simp; omega)).trans ((Below.heap_alloc _ _ _ (by simp)).trans (heap_alloc_new w _))
    · refine (Below.heap_alloc _ _ _ (by simp)).trans ?_
      have := heap_alloc_new (w.alloc (.cells F.arr 28)) (.cells G.arr 28)
      rwa [World.size_alloc] at this
    · have := heap_alloc_new ((w.alloc (.cells F.arr 28)).alloc (.cells G.arr 28)) (.cells #[.bool false] 4)
      rwa [World.size_alloc, World.size_alloc] at this
  generalize ((w.alloc (.cells F.arr 28)).alloc (.cells G.arr 28)).alloc (.cells #[.bool false] 4) = V at *
  obtain ⟨q4, hq4⟩ : ∃ q4, q4 = w.heap.size + 1 + 1 := ⟨_, rfl⟩
  obtain ⟨q3, hq3⟩ : ∃ q3, q3 = w.heap.size + 1 := ⟨_, rfl⟩
  obtain ⟨q2, hq2⟩ : ∃ q2, q2 = w.heap.size := ⟨_, rfl⟩
  rw [← hq4, ← hq3, ← hq2]
  have B1 : Hid (Below w.heap.size w V ∧ V.heap[q2]? = some (.cells F.arr 28 (0, 0)) ∧ V.heap[q3]? = some (.cells G.arr 28 (0, 0)) ∧ V.heap[q4]? = some (.cells #[.bool false] 4 (0, 0)) ∧ w.heap.size ≤ q4) := by rw [hq2, hq3, hq4]; exact ⟨B0.out.1, B0.out.2.1, B0.out.2.2.1, B0.out.2.2.2, by omega⟩
  clear hq2 hq3 hq4 B0
  refine wpList_load_row rfl 28 _ rfl q2 rfl 28 F.arr (0, 0) _ B1.out.2.1 Try.underlying28 rfl (U.size_arr F) ?_
  go_wp2_with (with_reducible refine U.stay_load 28 _ rfl ?_)
  unfold U.Stay
  refine wpList_load_row rfl 28 _ rfl q3 rfl 28 G.arr (0, 0) _ B1.out.2.2.1 Try.underlying28 rfl (U.size_arr G) ?_
  go_wp2_with fail
  refine (between_any F G ts us V (HX.out.up B1.out.1)).mono ?_
  rintro e V1 ⟨o1, k1, x1, o2, k2, x2, b5, b6, rfl, r1, r2, hm, hb⟩
  obtain ⟨M0, hM0⟩ : ∃ M0, M0 = (fun j => RM b5 o1 x1 j ∨ RM b6 o2 x2 j) := ⟨_, rfl⟩
  have SQ := hide' (between_seq r1 r2 HF.out.k1 HF.out.l1 HF.out.k2 HF.out.l2)
  rw [← hM0] at SQ
  have ML : Hid (∀ j, M0 j → j < V1.heap.size) := fun j q => by rw [hM0] at q; rcases q with q | q; exact r1.lt q; exact r2.lt q
  have L0 : Hid (Si w q4 M0 V1) := ⟨(hb.block _ (lt_of_heap B1.out.2.2.2.1)).trans B1.out.2.2.2.1, (fun q => by rw [hM0] at q; have := hm _ q; have := lt_of_heap B1.out.2.2.2.1; omega), B1.out.1.trans (hb.mono B1.out.1.size), B1.out.2.2.2.2⟩
  have ZV : Hid (w.heap.size ≤ V1.heap.size) := L0.out.b.size
  clear r1 r2 hm hb hM0 B1 V
  go_wp2_with fail
  refine (wpIn_wide (n := 1)).1 ?_
  refine range_f rfl (Nat.le_refl _) (gf := 39) (lb := #[.pointer (some ⟨b5, 0, none⟩), .pointer (some ⟨b6, 0, none⟩)]) rfl trivial Try.call39 SQ.out (Nat.le_refl _) (fun j q => ⟨ML.out j q, rfl⟩) (fun x => rfl)
    (fun M k X => k = 0 ∧ Si w q4 M X) (fun c k X => c = .ret ∧ 0 < (chg ts us).length ∧ X.heap[q4]? = some (.cells #[.bool false] 4 (0, 0)) ∧ Below w.heap.size w X)
    (fun M k x a' X => k = 0 ∧ Si w q4 M X ∧ a' = { tmps := #[.agg F.arr, .agg G.arr, .pointer (some ⟨q2, 0, none⟩), .pointer (some ⟨q3, 0, none⟩), .pointer (some ⟨q4, 0, none⟩), .agg F.arr, .agg G.arr, .func (.func 39) #[] #[.pointer (some ⟨b5, 0, none⟩), .pointer (some ⟨b6, 0, none⟩)], .agg #[.string x.1.1, .string x.1.2.1, .string x.1.2.2, .bool x.2]], defers := [] })
    ?start ?stab ?stabx ?staba ?assign ?body ?done ?stop
  case start => exact ⟨rfl, L0.out⟩
  case stab =>
    rintro M M' k X1 X2 ⟨hk, h⟩ t hm
    exact ⟨hk, h.qt t ZV.out hm⟩
  case stabx =>
    rintro c k X1 X2 ⟨hc, hl, h4, b⟩ t
    exact ⟨hc, hl, t.block h4, b.trans (below_own t (fun j q => Nat.le_trans ZV.out q.1) b.size)⟩
  case staba =>
    rintro M k x a' X1 X2 ⟨hk, h, ha⟩ t
    exact ⟨hk, h.qt t ZV.out (fun j q => .inl q), ha⟩
  case assign =>
    intro m l' M k x X1 K hx h hm hK
    obtain ⟨⟨x1', x2', x3'⟩, x4'⟩ := x
    have HKK := hide' hK
    have Hh := hide' h
    clear hK h hm hx
    unfold encC
    gi_wp2
    exact HKK.out _ _ (Turn.refl _ X1) ⟨Hh.out.1, Hh.out.2, rfl⟩
  case body =>
    rintro m l' M k ⟨⟨y1, y2, y3⟩, y4⟩ a' X1 hx ⟨hk, h, rfl⟩
    have e4 : X1.cell? ⟨q4, 0, none⟩ = some (.bool false) := by rw [Lib.cell_of_heap h.h4]; rfl
    have f4 : X1.frozen? ⟨q4, 0, none⟩ = false := Lib.frozen_of_heap h.h4 0
    have hkl : Hid (0 < (chg ts us).length) := by have := (List.getElem?_eq_some_iff.1 hx).1; show _ < _; omega
    have HP := hide' (h.put (.bool false))
    clear h hx hk
    gi_wp2
    exact ⟨HP.out.2.2 _, rfl, hkl.out, HP.out.1, HP.out.2.1⟩
  case stop =>
    rintro c k Xs ⟨rfl, hl, h4, b⟩ hD
    have HX2 := hide' (And.intro hl (And.intro h4 (And.intro b hD)))
    clear hl h4 b hD
    refine wpIn_wide.2 ?_
    go_wp2
    refine ⟨by simp, .inl ⟨_, _, rfl, run_takeDeferred HX2.out.2.2.2, ?_⟩⟩
    have t2 : Turn (fun j => j = V1.heap.size) Xs (Xs.putObj V1.heap.size (.deferred none)) := ⟨rfl, rfl, rfl, by simp, fun k _ hk => World.putObj_heap_other hk⟩
    have hne : q4 ≠ V1.heap.size := fun e => by have h := HX2.out.2.1; rw [e, HX2.out.2.2.2] at h; cases h
    have z := (t2.block _ (lt_of_heap HX2.out.2.1) hne).trans HX2.out.2.1
    have z0 : (Xs.putObj V1.heap.size (.deferred none)).cell? ⟨q4, 0, none⟩ = some (.bool false) := by rw [Lib.cell_of_heap z]; rfl
    have hb : ((chg ts us).length == 0) = false := by have := HX2.out.1; simp; intro h; rw [h] at this; simp at this
    refine ⟨.bool false, ?_, by rw [hb], HX2.out.2.2.1.trans (below_own t2 (fun j e => by rw [e]; exact ZV.out) HX2.out.2.2.1.size)⟩
    simp [results, Try.f15, go_sem, z0]
  rintro M Vd ⟨hk, hI⟩ hD
  have e4 : Vd.cell? ⟨q4, 0, none⟩ = some (.bool false) := by rw [Lib.cell_of_heap hI.h4]; rfl
  have f4 : Vd.frozen? ⟨q4, 0, none⟩ = false := Lib.frozen_of_heap hI.h4 0
  have HP := hide' (hI.put (.bool true))
  have hne : Hid (q4 ≠ V1.heap.size) := fun e => by have h := hI.h4; rw [e, hD] at h; cases h
  have HD : Hid ((Vd.setCell ⟨q4, 0, none⟩ (.bool true)).heap[V1.heap.size]? = some (.deferred (some []))) := (HP.out.2.2 0).same _ _ (Nat.zero_le _) hD rfl
  have HK := hide' hk
  clear hI hD hk
  go_wp2
  refine ⟨by simp, .inl ⟨_, _, rfl, run_takeDeferred HD.out, ?_⟩⟩
  generalize Vd.setCell ⟨q4, 0, none⟩ (.bool true) = Ve at *
  have t2 : Turn (fun j => j = V1.heap.size) Ve (Ve.putObj V1.heap.size (.deferred none)) := ⟨rfl, rfl, rfl, by simp, fun k _ hk => World.putObj_heap_other hk⟩
  have z := (t2.block _ (lt_of_heap HP.out.1) hne.out).trans HP.out.1
  have z0 : (Ve.putObj V1.heap.size (.deferred none)).cell? ⟨q4, 0, none⟩ = some (.bool true) := by rw [Lib.cell_of_heap z]; rfl
  have hb : ((chg ts us).length == 0) = true := by rw [HK.out]; rfl
  refine ⟨.bool true, ?_, by rw [hb], HP.out.2.1.trans (below_own t2 (fun j e => by rw [e]; exact ZV.out) HP.out.2.1.size)⟩
  simp [results, Try.f15, go_sem, z0]
end D
end Go.Proofs.Ytollaamlnddhcaa
