import Derived.Test.YtbbopkhgmgdlfaaEp1b
import Derived.Test.YtbbopkhgmgdlfaaWinP
set_option linter.unusedVariables false
set_option linter.unusedSimpArgs false
namespace Go.Proofs.Ytbbopkhgmgdlfaa
open Go.RowKit
namespace M
variable {D : Nat → Prop} {B x : Nat} {ws : List Int} {tr : List Ac} {bad : Nat} {w w' : World}
variable {b e f n : Nat}
/-- BLOCK b IS A SLOTS -/
def Sl (b x e f n : Nat) (w : World) : Prop := w.heap[b]? = some (.cells #[.pointer (some ⟨x, 0, none⟩), .int .i64 (e : Nat), .int .i64 (f : Nat), .int .i64 (n : Nat)] 90 (0, 0))
/-- BLOCK b IS A SECTION: its slot, its steps, the epoch that it saw -/
def Sc (b x e f n s : Nat) (md sn : Int) (w : World) : Prop := w.heap[b]? = some (.cells #[.pointer (some ⟨x, 0, none⟩), .int .i64 (e : Nat), .int .i64 (f : Nat), .int .i64 (n : Nat), .int .i64 (s : Nat), .int .i64 md, .int .i64 sn] 115 (0, 0))
/-- BLOCK b IS A GRACE PERIOD: its epoch, what its next step is for -/
def Gr (b x e f n : Nat) (si nx : Int) (w : World) : Prop := w.heap[b]? = some (.cells #[.pointer (some ⟨x, 0, none⟩), .int .i64 (e : Nat), .int .i64 (f : Nat), .int .i64 (n : Nat), .int .i64 si, .int .i64 nx] 113 (0, 0))
variable {s : Nat} {md sn si nx : Int}
theorem Sl.rw (h : Sl b x e f n w) : Rw b x e f n w := ⟨⟨_, _, h, .inl rfl⟩, by rw [Lib.cell_of_heap h]; rfl, by rw [Lib.cell_of_heap h]; rfl, by rw [Lib.cell_of_heap h]; rfl, by rw [Lib.cell_of_heap h]; rfl⟩
theorem Sc.rw (h : Sc b x e f n s md sn w) : Rw b x e f n w := ⟨⟨_, _, h, .inr (.inr rfl)⟩, by rw [Lib.cell_of_heap h]; rfl, by rw [Lib.cell_of_heap h]; rfl, by rw [Lib.cell_of_heap h]; rfl, by rw [Lib.cell_of_heap h]; rfl⟩
theorem Gr.rw (h : Gr b x e f n si nx w) : Rw b x e f n w := ⟨⟨_, _, h, .inr (.inl rfl)⟩, by rw [Lib.cell_of_heap h]; rfl, by rw [Lib.cell_of_heap h]; rfl, by rw [Lib.cell_of_heap h]; rfl, by rw [Lib.cell_of_heap h]; rfl⟩
theorem Sl.kept {S : Nat → Prop} (h : Sl b x e f n w) (t : Turn S w w') (hn : ¬ S b) : Sl b x e f n w' := (t.block b (lt_of_heap h) hn).trans h
theorem Sc.kept {S : Nat → Prop} (h : Sc b x e f n s md sn w) (t : Turn S w w') (hn : ¬ S b) : Sc b x e f n s md sn w' := (t.block b (lt_of_heap h) hn).trans h
theorem Gr.kept {S : Nat → Prop} (h : Gr b x e f n si nx w) (t : Turn S w w') (hn : ¬ S b) : Gr b x e f n si nx w' := (t.block b (lt_of_heap h) hn).trans h
theorem Sl.below (h : Sl b x e f n w) (t : Below w.heap.size w w') : Sl b x e f n w' := (t.block b (lt_of_heap h)).trans h
theorem Sc.below (h : Sc b x e f n s md sn w) (t : Below w.heap.size w w') : Sc b x e f n s md sn w' := (t.block b (lt_of_heap h)).trans h
theorem Gr.below (h : Gr b x e f n si nx w) (t : Below w.heap.size w w') : Gr b x e f n si nx w' := (t.block b (lt_of_heap h)).trans h
theorem Sc.c4 (h : Sc b x e f n s md sn w) : w.cell? ⟨b, 4, none⟩ = some (.int .i64 (s : Nat)) := by rw [Lib.cell_of_heap h]; rfl
theorem Sc.c5 (h : Sc b x e f n s md sn w) : w.cell? ⟨b, 5, none⟩ = some (.int .i64 md) := by rw [Lib.cell_of_heap h]; rfl
theorem Sc.c6 (h : Sc b x e f n s md sn w) : w.cell? ⟨b, 6, none⟩ = some (.int .i64 sn) := by rw [Lib.cell_of_heap h]; rfl
theorem Sc.fz (h : Sc b x e f n s md sn w) (j : Nat) : w.frozen? ⟨b, j, none⟩ = false := Lib.frozen_of_heap h j
theorem Gr.c4 (h : Gr b x e f n si nx w) : w.cell? ⟨b, 4, none⟩ = some (.int .i64 si) := by rw [Lib.cell_of_heap h]; rfl
theorem Gr.c5 (h : Gr b x e f n si nx w) : w.cell? ⟨b, 5, none⟩ = some (.int .i64 nx) := by rw [Lib.cell_of_heap h]; rfl
theorem Gr.fz (h : Gr b x e f n si nx w) (j : Nat) : w.frozen? ⟨b, j, none⟩ = false := Lib.frozen_of_heap h j
theorem Sc.s5 (h : Sc b x e f n s md sn w) (v : Int) : Sc b x e f n s v sn (w.setCell ⟨b, 5, none⟩ (.int .i64 v)) := by have := set_block (off := 5) (v := .int .i64 v) h; exact this
theorem Sc.s6 (h : Sc b x e f n s md sn w) (v : Int) : Sc b x e f n s md v (w.setCell ⟨b, 6, none⟩ (.int .i64 v)) := by have := set_block (off := 6) (v := .int .i64 v) h; exact this
theorem Gr.s4 (h : Gr b x e f n si nx w) (v : Int) : Gr b x e f n v nx (w.setCell ⟨b, 4, none⟩ (.int .i64 v)) := by have := set_block (off := 4) (v := .int .i64 v) h; exact this
theorem Gr.s5 (h : Gr b x e f n si nx w) (v : Int) : Gr b x e f n si v (w.setCell ⟨b, 5, none⟩ (.int .i64 v)) := by have := set_block (off := 5) (v := .int .i64 v) h; exact this
theorem turn_b (b off : Nat) (v : Value) (w : World) : Turn (fun j => j = b) w (w.setCell ⟨b, off, none⟩ v) := (Turn.refl (fun k => k = b) w).setCell (p := ⟨b, off, none⟩) (fun _ => rfl) _
set_option maxRecDepth 100000 in
set_option maxHeartbeats 1000000 in
theorem wthin_any (a : Int) (n : Nat) (hn : n ≤ 16) (h : Mem D B x ws tr bad w) : Calls Try.prog 31 #[.pointer (some ⟨x, 0, none⟩), .int .i64 a, .int .i64 (n : Nat)] w fun r w' => r = .returned (.bool (decide (0 ≤ a ∧ a + (n : Int) ≤ (ws.length : Int)))) ∧ w' = w := by
  have HC := hide' (len_any h)
  have few := h.few
  have hw : wrap64 ((ws.length : Int) - (n : Int)) = (ws.length : Int) - (n : Int) := by unfold wrap64; omega
  clear h
  generalize ws.length = L at *
  by_cases h0 : 0 ≤ a
  · by_cases h1 : a ≤ (L : Int) - (n : Int)
    · rw [show decide (0 ≤ a ∧ a + (n : Int) ≤ (L : Int)) = true from decide_eq_true ⟨h0, by omega⟩]
      have d1 : decide (a ≤ (L : Int) - (n : Int)) = true := decide_eq_true h1
      clear few hn
      go_enter Try.func31, Try.ntmps31
      go_wp2_with fail
      refine HC.out.mono ?_
      rintro r w2 ⟨rfl, rfl⟩
      go_wp2
      go_ret
      exact ⟨rfl, rfl⟩
    · rw [show decide (0 ≤ a ∧ a + (n : Int) ≤ (L : Int)) = false from decide_eq_false (fun q => by omega)]
      have d1 : decide (a ≤ (L : Int) - (n : Int)) = false := decide_eq_false h1
      clear few hn
      go_enter Try.func31, Try.ntmps31
      go_wp2_with fail
      refine HC.out.mono ?_
      rintro r w2 ⟨rfl, rfl⟩
      go_wp2
      go_ret
      exact ⟨rfl, rfl⟩
  · rw [show decide (0 ≤ a ∧ a + (n : Int) ≤ (L : Int)) = false from decide_eq_false (fun q => h0 q.1)]
    have d1 : decide (0 ≤ a) = false := decide_eq_false h0
    clear HC hw few
    go_enter Try.func31, Try.ntmps31
    go_wp2
    go_ret
    exact ⟨rfl, rfl⟩
theorem snew_nil (a c d : Int) (w : World) : Calls Try.prog 10 #[.pointer none, .int .i64 a, .int .i64 c, .int .i64 d] w fun r w' => r = .returned (.tuple #[.pointer none, .int .i64 2]) ∧ w' = w := by
  go_enter Try.func10, Try.ntmps10
  go_wp2
  go_ret2
  exact ⟨rfl, rfl⟩
theorem snew_range (a c d : Int) (w : World) (x : Nat) (hd : ¬ (1 ≤ d ∧ d ≤ 16)) : Calls Try.prog 10 #[.pointer (some ⟨x, 0, none⟩), .int .i64 a, .int .i64 c, .int .i64 d] w fun r w' => r = .returned (.tuple #[.pointer none, .int .i64 3]) ∧ w' = w := by
  by_cases h1 : d < 1
  · clear hd
    go_enter Try.func10, Try.ntmps10
    go_wp2
    go_ret2
    exact ⟨rfl, rfl⟩
  · have h2 : 16 < d := by omega
    clear hd
    go_enter Try.func10, Try.ntmps10
    go_wp2
    go_ret2
    exact ⟨rfl, rfl⟩
/-- n words from an address on -/
def wi (L : Nat) (a : Int) (n : Nat) : Prop := 0 ≤ a ∧ a + (n : Int) ≤ (L : Int)
set_option maxRecDepth 100000 in
set_option maxHeartbeats 1000000 in
theorem snew_out (a c : Int) (n : Nat) (h : Mem D B x ws tr bad w) (hn : 1 ≤ n ∧ n ≤ 16) (ho : ¬ (wi ws.length a 1 ∧ wi ws.length c n)) : Calls Try.prog 10 #[.pointer (some ⟨x, 0, none⟩), .int .i64 a, .int .i64 c, .int .i64 (n : Nat)] w fun r w' => r = .returned (.tuple #[.pointer none, .int .i64 140]) ∧ w' = w := by
  have H1 := hide' (wthin_any a 1 (by omega) h)
  have H2 := hide' (wthin_any c n hn.2 h)
  have n1 : ¬ ((n : Int) < 1) := by omega
  have n2 : ¬ (16 < (n : Int)) := by omega
  clear h hn
  by_cases h1 : wi ws.length a 1
  · have h2 : ¬ wi ws.length c n := fun q => ho ⟨h1, q⟩
    rw [decide_eq_true (show 0 ≤ a ∧ a + ((1 : Nat) : Int) ≤ (ws.length : Int) from h1)] at H1
    rw [decide_eq_false (show ¬ (0 ≤ c ∧ c + (n : Int) ≤ (ws.length : Int)) from h2)] at H2
    clear h1 h2 ho
    go_enter Try.func10, Try.ntmps10
    go_wp2_with fail
    refine H1.out.mono ?_
    rintro r w2 ⟨rfl, hw⟩
    replace hw := hw.symm
    subst hw
    go_wp2_with fail
    refine H2.out.mono ?_
    rintro r w2 ⟨rfl, hw⟩
    replace hw := hw.symm
    subst hw
    go_wp2
    go_ret2
    exact ⟨rfl, rfl⟩
  · rw [decide_eq_false (show ¬ (0 ≤ a ∧ a + ((1 : Nat) : Int) ≤ (ws.length : Int)) from h1)] at H1
    clear h1 ho H2
    go_enter Try.func10, Try.ntmps10
    go_wp2_with fail
    refine H1.out.mono ?_
    rintro r w2 ⟨rfl, hw⟩
    replace hw := hw.symm
    subst hw
    go_wp2
    go_ret2
    exact ⟨rfl, rfl⟩
set_option maxRecDepth 100000 in
set_option maxHeartbeats 1000000 in
theorem snew_arg (e f n : Nat) (h : Mem D B x ws tr bad w) (hn : 1 ≤ n ∧ n ≤ 16) (h1 : e < ws.length) (h2 : f + n ≤ ws.length) (ha : f ≤ e ∧ e < f + n) : Calls Try.prog 10 #[.pointer (some ⟨x, 0, none⟩), .int .i64 (e : Nat), .int .i64 (f : Nat), .int .i64 (n : Nat)] w fun r w' => r = .returned (.tuple #[.pointer none, .int .i64 1]) ∧ w' = w := by
  have H1 := hide' (wthin_any (e : Int) 1 (by omega) h)
  have H2 := hide' (wthin_any (f : Int) n hn.2 h)
  have n1 : ¬ ((n : Int) < 1) := by omega
  have n2 : ¬ (16 < (n : Int)) := by omega
  have few := h.few
  have hw : wrap64 ((f : Int) + (n : Int)) = (f : Int) + (n : Int) := by unfold wrap64; omega
  rw [decide_eq_true (show 0 ≤ (e : Int) ∧ (e : Int) + ((1 : Nat) : Int) ≤ (ws.length : Int) by omega)] at H1
  rw [decide_eq_true (show 0 ≤ (f : Int) ∧ (f : Int) + (n : Int) ≤ (ws.length : Int) by omega)] at H2
  have d1 : (f : Int) ≤ (e : Int) := by omega
  have d2 : (e : Int) < (f : Int) + (n : Int) := by omega
  clear h hn few h1 h2 ha
  go_enter Try.func10, Try.ntmps10
  go_wp2_with fail
  refine H1.out.mono ?_
  rintro r w2 ⟨rfl, hw⟩
  replace hw := hw.symm
  subst hw
  go_wp2_with fail
  refine H2.out.mono ?_
  rintro r w2 ⟨rfl, hw⟩
  replace hw := hw.symm
  subst hw
  go_wp2
  go_ret2
  exact ⟨rfl, rfl⟩
set_option maxRecDepth 100000 in
set_option maxHeartbeats 1000000 in
theorem snew_ok (e f n : Nat) (h : Mem D B x ws tr bad w) (hn : 1 ≤ n ∧ n ≤ 16) (h1 : e < ws.length) (h2 : f + n ≤ ws.length) (ha : ¬ (f ≤ e ∧ e < f + n)) : Calls Try.prog 10 #[.pointer (some ⟨x, 0, none⟩), .int .i64 (e : Nat), .int .i64 (f : Nat), .int .i64 (n : Nat)] w fun r w' => r = .returned (.tuple #[.pointer (some ⟨w.heap.size, 0, none⟩), .int .i64 0]) ∧ w' = w.alloc (.cells #[.pointer (some ⟨x, 0, none⟩), .int .i64 (e : Nat), .int .i64 (f : Nat), .int .i64 (n : Nat)] 90) := by
  have H1 := hide' (wthin_any (e : Int) 1 (by omega) h)
  have H2 := hide' (wthin_any (f : Int) n hn.2 h)
  have n1 : ¬ ((n : Int) < 1) := by omega
  have n2 : ¬ (16 < (n : Int)) := by omega
  have few := h.few
  have hw : wrap64 ((f : Int) + (n : Int)) = (f : Int) + (n : Int) := by unfold wrap64; omega
  rw [decide_eq_true (show 0 ≤ (e : Int) ∧ (e : Int) + ((1 : Nat) : Int) ≤ (ws.length : Int) by omega)] at H1
  rw [decide_eq_true (show 0 ≤ (f : Int) ∧ (f : Int) + (n : Int) ≤ (ws.length : Int) by omega)] at H2
  by_cases hd : f ≤ e
  · have d1 : decide ((f : Int) ≤ (e : Int)) = true := decide_eq_true (by omega)
    have d2 : decide ((e : Int) < (f : Int) + (n : Int)) = false := decide_eq_false (by omega)
    have d3 : ¬ (e < f + n) := by omega
    clear h hn few h1 h2 ha
    go_enter Try.func10, Try.ntmps10
    go_wp2_with fail
    refine H1.out.mono ?_
    rintro r w2 ⟨rfl, hw⟩
    replace hw := hw.symm
    subst hw
    go_wp2_with fail
    refine H2.out.mono ?_
    rintro r w2 ⟨rfl, hw⟩
    replace hw := hw.symm
    subst hw
    go_wp2
    go_ret2
    exact ⟨rfl, rfl⟩
  · have d1 : decide ((f : Int) ≤ (e : Int)) = false := decide_eq_false (by omega)
    clear h hn few h1 h2 ha
    go_enter Try.func10, Try.ntmps10
    go_wp2_with fail
    refine H1.out.mono ?_
    rintro r w2 ⟨rfl, hw⟩
    replace hw := hw.symm
    subst hw
    go_wp2_with fail
    refine H2.out.mono ?_
    rintro r w2 ⟨rfl, hw⟩
    replace hw := hw.symm
    subst hw
    go_wp2
    go_ret2
    exact ⟨rfl, rfl⟩
theorem snew_sl (x e f n : Nat) (w : World) : Sl w.heap.size x e f n (w.alloc (.cells #[.pointer (some ⟨x, 0, none⟩), .int .i64 (e : Nat), .int .i64 (f : Nat), .int .i64 (n : Nat)] 90)) := heap_alloc_new _ _
set_option maxRecDepth 100000 in
set_option maxHeartbeats 1000000 in
theorem enter_no (z : Int) (h : Sl b x e f n w) (hz : isl n z = false) : Calls Try.prog 25 #[.pointer (some ⟨b, 0, none⟩), .int .i64 z] w fun r w' => r = .returned (.tuple #[.pointer none, .int .i64 181]) ∧ w' = w := by
  have H1 := hide' (has_any z h.rw)
  rw [hz] at H1
  clear h hz
  go_enter Try.func25, Try.ntmps25
  go_wp2_with fail
  refine H1.out.mono ?_
  rintro r w2 ⟨rfl, hw⟩
  replace hw := hw.symm
  subst hw
  go_wp2
  go_ret2
  exact ⟨rfl, rfl⟩
set_option maxRecDepth 100000 in
set_option maxHeartbeats 1000000 in
theorem enter_ok (s : Nat) (h : Sl b x e f n w) (hz : s < n) : Calls Try.prog 25 #[.pointer (some ⟨b, 0, none⟩), .int .i64 (s : Nat)] w fun r w' => r = .returned (.tuple #[.pointer (some ⟨w.heap.size, 0, none⟩), .int .i64 0]) ∧ w' = w.alloc (.cells #[.pointer (some ⟨x, 0, none⟩), .int .i64 (e : Nat), .int .i64 (f : Nat), .int .i64 (n : Nat), .int .i64 (s : Nat), .int .i64 0, .int .i64 0] 115) := by
  have H1 := hide' (has_any (s : Int) h.rw)
  rw [show isl n (s : Int) = true from decide_eq_true (by omega)] at H1
  have c0 := h.rw.c0
  have c1 := h.rw.c1
  have c2 := h.rw.c2
  have c3 := h.rw.c3
  clear h hz
  go_enter Try.func25, Try.ntmps25
  go_wp2_with fail
  refine H1.out.mono ?_
  rintro r w2 ⟨rfl, hw⟩
  replace hw := hw.symm
  subst hw
  go_wp2
  go_ret2
  exact ⟨rfl, rfl⟩
theorem enter_sc (x e f n s : Nat) (w : World) : Sc w.heap.size x e f n s 0 0 (w.alloc (.cells #[.pointer (some ⟨x, 0, none⟩), .int .i64 (e : Nat), .int .i64 (f : Nat), .int .i64 (n : Nat), .int .i64 (s : Nat), .int .i64 0, .int .i64 0] 115)) := heap_alloc_new _ _
set_option maxRecDepth 100000 in
set_option maxHeartbeats 1000000 in
theorem wait_any (h : Sl b x e f n w) : Calls Try.prog 23 #[.pointer (some ⟨b, 0, none⟩)] w fun r w' => r = .returned (.pointer (some ⟨w.heap.size, 0, none⟩)) ∧ w' = w.alloc (.cells #[.pointer (some ⟨x, 0, none⟩), .int .i64 (e : Nat), .int .i64 (f : Nat), .int .i64 (n : Nat), .int .i64 0, .int .i64 (-1)] 113) := by
  have c0 := h.rw.c0
  have c1 := h.rw.c1
  have c2 := h.rw.c2
  have c3 := h.rw.c3
  clear h
  go_enter Try.func23, Try.ntmps23
  go_wp2
  go_ret
  exact ⟨rfl, rfl⟩
theorem wait_gr (x e f n : Nat) (w : World) : Gr w.heap.size x e f n 0 (-1) (w.alloc (.cells #[.pointer (some ⟨x, 0, none⟩), .int .i64 (e : Nat), .int .i64 (f : Nat), .int .i64 (n : Nat), .int .i64 0, .int .i64 (-1)] 113)) := heap_alloc_new _ _
set_option maxRecDepth 100000 in
set_option maxHeartbeats 1000000 in
theorem leave_no (z : Int) (h : Sl b x e f n w) (hz : isl n z = false) : Calls Try.prog 29 #[.pointer (some ⟨b, 0, none⟩), .int .i64 z] w fun r w' => r = .returned (.int .i64 181) ∧ w' = w := by
  have H1 := hide' (has_any z h.rw)
  rw [hz] at H1
  clear h hz
  go_enter Try.func29, Try.ntmps29
  go_wp2_with fail
  refine H1.out.mono ?_
  rintro r w2 ⟨rfl, hw⟩
  replace hw := hw.symm
  subst hw
  go_wp2
  go_ret
  exact ⟨rfl, rfl⟩
set_option maxRecDepth 100000 in
set_option maxHeartbeats 1000000 in
theorem leave_ok (s a : Nat) (ha : a = f + s) (hs : a < 1000000) (h : Sl b x e f n w) (hm : Mem D B x ws tr bad w) (hl : tr.length < 1999999999999) (hz : s < n) : Calls Try.prog 29 #[.pointer (some ⟨b, 0, none⟩), .int .i64 (s : Nat)] w fun r w' => r = .returned (.int .i64 (er ws a)) ∧ To D B x (put ws a 0) (tr ++ [⟨2, a, 0, std ws a, good ws a⟩]) (bad + bd ws a) w w' := by
  have H1 := hide' (has_any (s : Int) h.rw)
  rw [show isl n (s : Int) = true from decide_eq_true (by omega)] at H1
  have H2 := hide' (rput_any s a 0 ha hs hm h.rw hl)
  generalize put ws a 0 = ws1 at *
  generalize tr ++ [(⟨2, a, 0, std ws a, good ws a⟩ : Ac)] = tr1 at *
  generalize bad + bd ws a = bad1 at *
  generalize er ws a = E at *
  clear h hz hm hl ha hs
  go_enter Try.func29, Try.ntmps29
  go_wp2_with fail
  refine H1.out.mono ?_
  rintro r w2 ⟨rfl, hw⟩
  replace hw := hw.symm
  subst hw
  go_wp2_with fail
  refine H2.out.mono ?_
  rintro r w2 ⟨rfl, t2⟩
  go_wp2
  go_ret
  exact ⟨rfl, t2⟩
/-- what a section tells -/
def mk (md sn : Int) : Int := if md < 2 then 0 else sn
set_option maxRecDepth 100000 in
set_option maxHeartbeats 1000000 in
theorem mark_any (h : Sc b x e f n s md sn w) : Calls Try.prog 30 #[.pointer (some ⟨b, 0, none⟩)] w fun r w' => r = .returned (.int .i64 (mk md sn)) ∧ w' = w := by
  have c5 := h.c5
  have c6 := h.c6
  clear h
  by_cases hd : md < 2
  · rw [show mk md sn = 0 from if_pos hd]
    go_enter Try.func30, Try.ntmps30
    go_wp2
    go_ret
    exact ⟨rfl, rfl⟩
  · rw [show mk md sn = sn from if_neg hd]
    have d1 : decide (md < 2) = false := decide_eq_false hd
    go_enter Try.func30, Try.ntmps30
    go_wp2
    go_ret
    exact ⟨rfl, rfl⟩
/-- does a slot that holds this let the period go on? -/
def lts (si v : Int) : Bool := decide (v = 0 ∨ si ≤ v)
set_option maxRecDepth 100000 in
set_option maxHeartbeats 1000000 in
theorem lets_any (v : Int) (h : w.cell? ⟨b, 4, none⟩ = some (.int .i64 si)) : Calls Try.prog 53 #[.pointer (some ⟨b, 0, none⟩), .int .i64 v] w fun r w' => r = .returned (.bool (lts si v)) ∧ w' = w := by
  by_cases hd : v = 0
  · subst hd
    rw [show lts si 0 = true from decide_eq_true (.inl rfl)]
    go_enter Try.func53, Try.ntmps53
    go_wp2
    go_ret
    exact ⟨rfl, rfl⟩
  · have d1 : (v == 0) = false := by simpa using hd
    by_cases he : si ≤ v
    · rw [show lts si v = true from decide_eq_true (.inr he)]
      go_enter Try.func53, Try.ntmps53
      go_wp2
      go_ret
      exact ⟨rfl, rfl⟩
    · rw [show lts si v = false from decide_eq_false (fun q => by rcases q with q | q; exact hd q; exact he q)]
      have d2 : decide (si ≤ v) = false := decide_eq_false he
      go_enter Try.func53, Try.ntmps53
      go_wp2
      go_ret
      exact ⟨rfl, rfl⟩
/-- where a period is -/
def gat (n : Nat) (nx : Int) : Int := if isl n nx = true then nx else -1
set_option maxRecDepth 100000 in
set_option maxHeartbeats 1000000 in
theorem at_any (h : Gr b x e f n si nx w) : Calls Try.prog 27 #[.pointer (some ⟨b, 0, none⟩)] w fun r w' => r = .returned (.int .i64 (gat n nx)) ∧ ∃ k, w' = w.drewN k := by
  have c5 := h.c5
  have H1 := hide' (fun k => has_any nx (show Rw b x e f n (w.drewN k) from h.rw.block rfl))
  clear h
  cases hi : isl n nx with
  | true =>
    rw [show gat n nx = nx from if_pos hi]
    rw [hi] at H1
    go_enter Try.func27, Try.ntmps27
    go_wp2_with fail
    go_quiet ((go_at_call 52; exact Calls.quiet_of_same (H1.out _)))
    go_wp2
    go_ret
    exact ⟨rfl, _, rfl⟩
  | false =>
    rw [show gat n nx = -1 from if_neg (by rw [hi]; decide)]
    rw [hi] at H1
    go_enter Try.func27, Try.ntmps27
    go_wp2_with fail
    go_quiet ((go_at_call 52; exact Calls.quiet_of_same (H1.out _)))
    go_wp2
    go_ret
    exact ⟨rfl, _, rfl⟩
end M
end Go.Proofs.Ytbbopkhgmgdlfaa
