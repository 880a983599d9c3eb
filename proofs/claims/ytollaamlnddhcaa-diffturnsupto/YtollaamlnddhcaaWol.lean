import Derived.Test.YtollaamlnddhcaaPty
set_option linter.unusedVariables false
set_option linter.unusedSimpArgs false
namespace Go.Proofs.Ytollaamlnddhcaa
open Go.RowKit Go.Maps
namespace U
/-- a policy, as it lies: texts and pairs are read; its other lists are slices of whatever -/
structure Po where
  ao : Option Addr
  ac : Nat
  al : List ByteArray
  so : Option Addr
  sc : Nat
  sl : List (ByteArray × Nat)
  ro : Value
  oo : Option Addr
  oc : Nat
  ol : List ByteArray
  gr : Value
  m : P3
  i : P3
  p : P3
  w : P3
  ru : Value
  ex : Value
def p3 (p : P3) : Value := .slice p.1 p.2.2.length p.2.1
def Po.val (P : Po) : Value := .agg #[.slice P.ao P.al.length P.ac, .slice P.so P.sl.length P.sc, P.ro, .slice P.oo P.ol.length P.oc, P.gr, .slice P.m.1 P.m.2.2.length P.m.2.1, .slice P.i.1 P.i.2.2.length P.i.2.1, .slice P.p.1 P.p.2.2.length P.p.2.1, .slice P.w.1 P.w.2.2.length P.w.2.1, P.ru, P.ex]
def p3ok (p : P3) (w : World) : Prop := Q.Ints p.1 p.2.2 w ∧ p.2.2.length ≤ p.2.1
/-- subjects that can be read -/
def Subs (to : Option Addr) (xs : List (ByteArray × Nat)) (w : World) : Prop := xs = [] ∨ ∃ b off, to = some ⟨b, off, none⟩ ∧ b < w.heap.size ∧ ∀ i k, xs[i]? = some k → w.cell? ⟨b, off + i * 2, none⟩ = some (.string k.1) ∧ w.cell? ⟨b, off + i * 2 + 1, none⟩ = some (.float .f64 k.2)
theorem Subs.below {to : Option Addr} {xs : List (ByteArray × Nat)} {w w' : World} (h : Subs to xs w) (t : Below w.heap.size w w') : Subs to xs w' := by
  rcases h with h | ⟨b, off, h1, h2, h3⟩
  · exact .inl h
  · exact .inr ⟨b, off, h1, Nat.lt_of_lt_of_le h2 t.size, fun i k q => ⟨(t.cell (p := ⟨b, off + i * 2, none⟩) h2).trans (h3 i k q).1, (t.cell (p := ⟨b, off + i * 2 + 1, none⟩) h2).trans (h3 i k q).2⟩⟩
theorem Subs.at {to : Option Addr} {xs : List (ByteArray × Nat)} {w : World} (h : Subs to xs w) {i : Nat} {k : ByteArray × Nat} (q : xs[i]? = some k) : ∃ b off, to = some ⟨b, off, none⟩ ∧ b < w.heap.size ∧ w.cell? ⟨b, off + i * 2, none⟩ = some (.string k.1) ∧ w.cell? ⟨b, off + i * 2 + 1, none⟩ = some (.float .f64 k.2) := by
  rcases h with rfl | ⟨b, off, h1, h2, h3⟩
  · simp at q
  · exact ⟨b, off, h1, h2, h3 i k q⟩
/-- a policy that can be read, and is not too long -/
structure Po.In (P : Po) (w : World) : Prop where
  a : S.Ints P.ao P.al w
  ac : P.al.length ≤ P.ac
  s : Subs P.so P.sl w
  sc : P.sl.length ≤ P.sc
  o : S.Ints P.oo P.ol w
  oc : P.ol.length ≤ P.oc
  m : p3ok P.m w
  i : p3ok P.i w
  p : p3ok P.p w
  w : p3ok P.w w
structure Po.Small (P : Po) : Prop where
  a : P.al.length ≤ 1048576
  s : P.sl.length ≤ 1048576
  o : P.ol.length ≤ 1048576
  mi : P.m.2.2.length + P.i.2.2.length ≤ 1048576
  pw : P.p.2.2.length + P.w.2.2.length ≤ 1048576
  tm : ∀ q ∈ P.m.2.2 ++ P.i.2.2, q.1.size ≤ 1048576 ∧ q.2.size ≤ 1048576
  tp : ∀ q ∈ P.p.2.2 ++ P.w.2.2, q.1.size ≤ 1048576 ∧ q.2.size ≤ 1048576
theorem p3ok.below {p : P3} {w w' : World} (h : p3ok p w) (t : Below w.heap.size w w') : p3ok p w' := ⟨h.1.below t, h.2⟩
theorem Po.In.below {P : Po} {w w' : World} (h : P.In w) (t : Below w.heap.size w w') : P.In w' := ⟨h.a.below t, h.ac, h.s.below t, h.sc, h.o.below t, h.oc, h.m.below t, h.i.below t, h.p.below t, h.w.below t⟩
theorem okk_of {s : ByteArray} (h : s.size ≤ 1048576) : S.okk s := by show s.size ≤ maxLen; unfold maxLen; omega
theorem lines2 (lb : Nat) (x y : P3) (w : World) (hl : lb < w.heap.size) (hc : w.heap[lb]? = some (.cells #[p3 x, p3 y] 24 (0, 0))) (hx : p3ok x w) (hy : p3ok y w) (ht : ∀ q ∈ x.2.2 ++ y.2.2, q.1.size ≤ 1048576 ∧ q.2.size ≤ 1048576) (hlen : x.2.2.length + y.2.2.length ≤ 1048576) :
    Calls Try.prog 64 #[.slice (some ⟨lb, 0, none⟩) 2 2] w fun e w' => LinesIs (x.2.2 ++ y.2.2) w e w' := by
  have e : flat [x, y] = x.2.2 ++ y.2.2 := by simp [flat]
  have h := linesOf_any lb 2 [x, y] w hl (by simp) (fun i p hp => by
    match i, hp with
    | 0, hp => simp at hp; subst hp; exact ⟨by rw [Lib.cell_of_heap hc]; rfl, hx.1, hx.2⟩
    | 1, hp => simp at hp; subst hp; exact ⟨by rw [Lib.cell_of_heap hc]; rfl, hy.1, hy.2⟩
    | n + 2, hp => simp at hp) (fun q hq => okk_of (ht q (by rw [← e]; exact hq)).1) ⟨by simp, by rw [e, List.length_append]; exact hlen⟩
  rw [e] at h
  exact h
theorem Lm.mono {bm B C : Nat} {qs : List K2} {f : ByteArray → Option V3} {w : World} (h : Lm bm B qs f w) (hC : C ≤ B) : Lm bm C qs f w := ⟨h.map, Nat.le_trans hC h.bB, fun k g l c e => ⟨(h.each k g l c e).1, (h.each k g l c e).2.mono hC⟩, h.non, h.ap⟩
set_option maxRecDepth 100000 in
set_option maxHeartbeats 1000000 in
theorem whoLines_any (P : Po) (w : World) (h : P.In w) (hs : P.Small) : Calls Try.prog 44 #[P.val] w fun e w' => LinesIs (P.m.2.2 ++ P.i.2.2) w e w' := by
  have b2 : ∀ o o', Below w.heap.size w ((w.alloc o).alloc o') := fun o o' => ((Below.refl _ _).alloc (Nat.le_refl _) _).alloc (by simp) _
  have HL : Hid (∀ o, Calls Try.prog 64 #[.slice (some ⟨w.heap.size + 1, 0, none⟩) 2 2] ((w.alloc o).alloc (.cells #[p3 P.m, p3 P.i] 24)) fun e w' => LinesIs (P.m.2.2 ++ P.i.2.2) w e w') := fun o => by
    have e := heap_alloc_new (w.alloc o) (.cells #[p3 P.m, p3 P.i] 24)
    rw [show (w.alloc o).heap.size = w.heap.size + 1 by simp] at e
    have hI := h.below (b2 o (.cells #[p3 P.m, p3 P.i] 24))
    refine (lines2 (w.heap.size + 1) P.m P.i _ (lt_of_heap e) e hI.m hI.i hs.tm hs.mi).mono ?_
    rintro e w' ⟨bm, f, rfl, hL, hB⟩
    have hz : w.heap.size ≤ ((w.alloc o).alloc (.cells #[p3 P.m, p3 P.i] 24)).heap.size := (b2 _ _).size
    exact ⟨bm, f, rfl, hL.mono hz, (b2 _ _).trans (hB.mono hz)⟩
  unfold p3 at HL
  clear h hs b2
  unfold Po.val
  go_enter Try.func44, Try.ntmps44
  go_wp2_with fail
  refine (HL.out _).mono ?_
  rintro e w1 ⟨bm, f, rfl, hL, hB⟩
  have K : Hid (LinesIs (P.m.2.2 ++ P.i.2.2) w (.returned (.map (some bm))) w1) := ⟨bm, f, rfl, hL, hB⟩
  clear hL hB HL
  go_wp2_with fail
  go_ret
  exact K.out
set_option maxRecDepth 100000 in
set_option maxHeartbeats 1000000 in
theorem whatLines_any (P : Po) (w : World) (h : P.In w) (hs : P.Small) : Calls Try.prog 65 #[P.val] w fun e w' => LinesIs (P.p.2.2 ++ P.w.2.2) w e w' := by
  have b2 : ∀ o o', Below w.heap.size w ((w.alloc o).alloc o') := fun o o' => ((Below.refl _ _).alloc (Nat.le_refl _) _).alloc (by simp) _
  have HL : Hid (∀ o, Calls Try.prog 64 #[.slice (some ⟨w.heap.size + 1, 0, none⟩) 2 2] ((w.alloc o).alloc (.cells #[p3 P.p, p3 P.w] 24)) fun e w' => LinesIs (P.p.2.2 ++ P.w.2.2) w e w') := fun o => by
    have e := heap_alloc_new (w.alloc o) (.cells #[p3 P.p, p3 P.w] 24)
    rw [show (w.alloc o).heap.size = w.heap.size + 1 by simp] at e
    have hI := h.below (b2 o (.cells #[p3 P.p, p3 P.w] 24))
    refine (lines2 (w.heap.size + 1) P.p P.w _ (lt_of_heap e) e hI.p hI.w hs.tp hs.pw).mono ?_
    rintro e w' ⟨bm, f, rfl, hL, hB⟩
    have hz : w.heap.size ≤ ((w.alloc o).alloc (.cells #[p3 P.p, p3 P.w] 24)).heap.size := (b2 _ _).size
    exact ⟨bm, f, rfl, hL.mono hz, (b2 _ _).trans (hB.mono hz)⟩
  unfold p3 at HL
  clear h hs b2
  unfold Po.val
  go_enter Try.func65, Try.ntmps65
  go_wp2_with fail
  refine (HL.out _).mono ?_
  rintro e w1 ⟨bm, f, rfl, hL, hB⟩
  have K : Hid (LinesIs (P.p.2.2 ++ P.w.2.2) w (.returned (.map (some bm))) w1) := ⟨bm, f, rfl, hL, hB⟩
  clear hL hB HL
  go_wp2_with fail
  go_ret
  exact K.out
set_option maxRecDepth 100000 in
set_option maxHeartbeats 1000000 in
theorem is_any (nm : ByteArray) (tr nb : Nat) (ms : List ByteArray) (s : ByteArray) (w : World) (h : Nset nb ms w) (hs : S.okk s) :
    Calls Try.prog 68 #[.agg #[.string nm, .float .f64 tr, .map (some nb)], .string s] w fun e w' => e = .returned (.bool (isIn ms s)) ∧ Below w.heap.size w w' := by
  have hr : ∀ o, (Instr.lookup 95 (.map (some nb)) (.string s) true).run Try.prog (w.alloc o) = .ok (.tuple #[.agg #[], .bool (isIn ms s)]) (w.alloc o) := fun o => look_set (h.turn ((Turn.refl (fun _ => False) w).alloc o) id) hs
  clear h
  go_enter Try.func68, Try.ntmps68
  go_wp2_with fail
  go_ret
  exact ⟨rfl, ((Below.refl _ _).alloc (Nat.le_refl _) _).alloc (by simp) _⟩
set_option maxRecDepth 100000 in
set_option maxHeartbeats 1000000 in
theorem is_none (nm : ByteArray) (tr : Nat) (s : ByteArray) (w : World) (hs : S.okk s) :
    Calls Try.prog 68 #[.agg #[.string nm, .float .f64 tr, .map none], .string s] w fun e w' => e = .returned (.bool false) ∧ Below w.heap.size w w' := by
  have hr : ∀ o, (Instr.lookup 95 (.map none) (.string s) true).run Try.prog (w.alloc o) = .ok (.tuple #[.agg #[], .bool false]) (w.alloc o) := fun o => look_nil _ hs
  go_enter Try.func68, Try.ntmps68
  go_wp2_with fail
  go_ret
  exact ⟨rfl, ((Below.refl _ _).alloc (Nat.le_refl _) _).alloc (by simp) _⟩
/-- the first subject of a name -/
def fst (sl : List (ByteArray × Nat)) (z : ByteArray) : Option Nat := sl.findIdx? (fun u => decide (u.1 = z))
set_option maxRecDepth 100000 in
set_option maxHeartbeats 1000000 in
theorem cl78 (k : ByteArray × Nat) (xb : Nat) (z : ByteArray) (w : World) (hx : w.cell? ⟨xb, 0, none⟩ = some (.string z)) (hl : xb < w.heap.size) :
    Calls Try.prog 81 #[.agg #[.string k.1, .float .f64 k.2], .pointer (some ⟨xb, 0, none⟩)] w fun e w' => e = .returned (.bool (decide (k.1 = z))) ∧ Below w.heap.size w w' := by
  have hx1 : ∀ o, (w.alloc o).cell? ⟨xb, 0, none⟩ = some (.string z) := fun o => (World.cell?_of_block (w := w) (Below.heap_alloc _ _ _ hl)).trans hx
  have hne : xb ≠ w.heap.size := by omega
  by_cases e : k.1 = z
  · have te := text_eq z
    rw [e]
    go_enter Try.func81, Try.ntmps81
    go_wp2_with fail
    go_ret
    exact ⟨by simp, (Below.refl _ _).alloc (Nat.le_refl _) _⟩
  · have te := text_ne e
    go_enter Try.func81, Try.ntmps81
    go_wp2_with fail
    go_ret
    exact ⟨by simp [e], (Below.refl _ _).alloc (Nat.le_refl _) _⟩
end U
end Go.Proofs.Ytollaamlnddhcaa
