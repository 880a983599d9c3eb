import Derived.Test.YtihdagehenmolaaSam
set_option linter.unusedVariables false
set_option linter.unusedSimpArgs false
namespace Go.Proofs.Ytihdagehenmolaa
open Go.RowKit
namespace J
open M K
/-- an entry in a box -/
def Bx (q : Nat) (e : En) (w : World) : Prop := w.heap[q]? = some (.cells #[.int .i64 e.v, .string (sb e.t)] 24)
theorem Bx.below {q B : Nat} {e : En} {w w' : World} (h : Bx q e w) (b : Below B w w') (hB : w.heap.size ≤ B) : Bx q e w' := (b.block q (Nat.lt_of_lt_of_le (lt_of_heap h) hB)).trans h
theorem Bx.c0 {q : Nat} {e : En} {w : World} (h : Bx q e w) : w.cell? ⟨q, 0, none⟩ = some (.int .i64 e.v) := Lib.cell_of_heap h 0
theorem Bx.c1 {q : Nat} {e : En} {w : World} (h : Bx q e w) : w.cell? ⟨q, 1, none⟩ = some (.string (sb e.t)) := Lib.cell_of_heap h 1
theorem not_beg {a b : En} (ha : a.ok) (hb : b.ok) (h : a ≠ b) : (rcd b).take (rcd a).length ≠ rcd a := fun q => by
  apply h
  have : rcd a ++ (rcd b).drop (rcd a).length = rcd b ++ [] := by
    conv => lhs; lhs; rw [← q]
    rw [List.take_append_drop, List.append_nil]
  exact (rec_free ha hb this).1
theorem en_ne {a b : En} (h : a ≠ b) : (a.v == b.v && (sb a.t).toList == (sb b.t).toList) = false := by
  rw [str_eq]
  cases a with | mk v t =>
  cases b with | mk v' t' =>
  by_cases q : v = v'
  · subst q
    by_cases r : t = t'
    · subst r; exact absurd rfl h
    · simp [r]
  · simp [q]
/-- two boxes, and all that was there -/
structure Tw (w : World) (a b : En) (W : World) : Prop where
  a : Bx w.heap.size a W
  b : Bx (w.heap.size + 1) b W
  bel : Below w.heap.size w W
theorem Tw.new (w : World) (a b : En) : Tw w a b ((w.alloc (.cells #[.int .i64 a.v, .string (sb a.t)] 24)).alloc (.cells #[.int .i64 b.v, .string (sb b.t)] 24)) :=
  ⟨(Below.heap_alloc _ _ _ (by simp)).trans (heap_alloc_new w _), heap_new2 w _ _, below_al2 w _ _⟩
theorem Tw.to {w W W' : World} {a b : En} (h : Tw w a b W) (k : Below W.heap.size W W') : Tw w a b W' := ⟨h.a.below k (Nat.le_refl _), h.b.below k (Nat.le_refl _), h.bel.trans (k.mono h.bel.size)⟩
set_option maxRecDepth 100000 in
set_option maxHeartbeats 2000000 in
theorem apart_eq (a b : En) (ha : a.ok) (hb : b.ok) (hab : b = a) (w : World) : Calls Try.prog 9 #[.agg #[.int .i64 a.v, .string (sb a.t)], .agg #[.int .i64 b.v, .string (sb b.t)]] w fun r w' => r = .returned (.bool true) ∧ Below w.heap.size w w' := by
  obtain ⟨SA, hSA⟩ : ∃ T, T = sb (frs a) := ⟨_, rfl⟩
  have ia : okb a = true := (okb_iff a).2 ha
  rw [frs_ok ha] at hSA
  obtain ⟨SB, hSB⟩ : ∃ T, T = sb (frs b) := ⟨_, rfl⟩
  have ib : okb b = true := (okb_iff b).2 hb
  rw [frs_ok hb] at hSB
  have T0 := hide' (Tw.new w a b)
  have C1 := hide' (alive_any ((w.alloc (.cells #[.int .i64 a.v, .string (sb a.t)] 24)).alloc (.cells #[.int .i64 b.v, .string (sb b.t)] 24)))
  have FA : Hid (∀ W, Calls Try.prog 13 #[.agg #[.int .i64 a.v, .string (sb a.t)]] W fun r w' => r = .returned (.tuple #[.string SA, .int .i64 0]) ∧ Below W.heap.size W w') := hide' (fun W => by rw [hSA]; exact frame_ok a ha W)
  have FB : Hid (∀ W, Calls Try.prog 13 #[.agg #[.int .i64 b.v, .string (sb b.t)]] W fun r w' => r = .returned (.tuple #[.string SB, .int .i64 0]) ∧ Below W.heap.size W w') := hide' (fun W => by rw [hSB]; exact frame_ok b hb W)
  have RA : Hid (∀ W, Calls Try.prog 25 #[.agg #[.int .i64 a.v, .string (sb a.t)]] W fun r w' => r = .returned (.bool true) ∧ Below W.heap.size W w') := hide' (fun W => by have := right_any a W; rw [ia] at this; exact this)
  have RB : Hid (∀ W, Calls Try.prog 25 #[.agg #[.int .i64 b.v, .string (sb b.t)]] W fun r w' => r = .returned (.bool true) ∧ Below W.heap.size W w') := hide' (fun W => by have := right_any b W; rw [ib] at this; exact this)
  have z1 : SA.size = (rcd a).length := by rw [hSA, sb_size]
  have z2 : SB.size = (rcd a).length := by rw [hSB, hab, sb_size]
  have x1 : SB.extract 0 (rcd a).length = SA := by rw [hSB, hab, hSA, sb_cut]; simp
  obtain ⟨n, hn⟩ : ∃ n, n = (rcd a).length := ⟨_, rfl⟩
  rw [← hn] at z1 z2 x1
  have ENE : (a.v == b.v) = true ∧ ((sb a.t).toList == (sb b.t).toList) = true := by rw [hab]; simp
  have g0 : (0 : Int) ≤ (n : Int) := by omega
  clear hSA hSB hab hn ha hb
  clear ia ib
  obtain ⟨va, hva⟩ : ∃ v, v = a.v := ⟨_, rfl⟩
  obtain ⟨vb, hvb⟩ : ∃ v, v = b.v := ⟨_, rfl⟩
  obtain ⟨TA, hTA⟩ : ∃ v, v = sb a.t := ⟨_, rfl⟩
  obtain ⟨TB, hTB⟩ : ∃ v, v = sb b.t := ⟨_, rfl⟩
  have HV := hide' (And.intro hva (And.intro hvb (And.intro hTA hTB)))
  rw [← hva, ← hvb, ← hTA, ← hTB] at C1 T0 ENE ⊢
  rw [← hva, ← hTA] at FA RA
  rw [← hvb, ← hTB] at FB RB
  clear hva hvb hTA hTB
  obtain ⟨q, hq⟩ : ∃ q, q = w.heap.size := ⟨_, rfl⟩
  have HQ := hide' hq
  go_enter Try.func9, Try.ntmps9
  go_wp2_with fail
  refine C1.out.mono ?_
  rintro e w1 ⟨rfl, b1⟩
  have T1 := hide' (T0.out.to b1)
  rw [← hq]
  clear b1 C1 T0 hq
  have c0 := T1.out.a.c0
  have c1 := T1.out.a.c1
  have c2 := T1.out.b.c0
  have c3 := T1.out.b.c1
  rw [← HQ.out] at c0 c1 c2 c3
  rw [← HV.out.1] at c0
  rw [← HV.out.2.2.1] at c1
  rw [← HV.out.2.1] at c2
  rw [← HV.out.2.2.2] at c3
  have D2 := hide' (FA.out w1)
  go_wp2_with fail
  refine D2.out.mono ?_
  rintro e w2 ⟨rfl, b2⟩
  have T2 := hide' (T1.out.to b2)
  clear b2 D2 c0 c1 c2 c3 T1
  have c0 := T2.out.a.c0
  have c1 := T2.out.a.c1
  have c2 := T2.out.b.c0
  have c3 := T2.out.b.c1
  rw [← HQ.out] at c0 c1 c2 c3
  rw [← HV.out.1] at c0
  rw [← HV.out.2.2.1] at c1
  rw [← HV.out.2.1] at c2
  rw [← HV.out.2.2.2] at c3
  have D3 := hide' (FB.out w2)
  go_wp2_with fail
  refine D3.out.mono ?_
  rintro e w3 ⟨rfl, b3⟩
  have T3 := hide' (T2.out.to b3)
  clear b3 D3 c0 c1 c2 c3 T2
  have c0 := T3.out.a.c0
  have c1 := T3.out.a.c1
  have c2 := T3.out.b.c0
  have c3 := T3.out.b.c1
  rw [← HQ.out] at c0 c1 c2 c3
  rw [← HV.out.1] at c0
  rw [← HV.out.2.2.1] at c1
  rw [← HV.out.2.1] at c2
  rw [← HV.out.2.2.2] at c3
  have D4 := hide' (RA.out w3)
  go_wp2_with fail
  refine D4.out.mono ?_
  rintro e w4 ⟨rfl, b4⟩
  have T4 := hide' (T3.out.to b4)
  clear b4 D4 c0 c1 c2 c3 T3
  have c0 := T4.out.a.c0
  have c1 := T4.out.a.c1
  have c2 := T4.out.b.c0
  have c3 := T4.out.b.c1
  rw [← HQ.out] at c0 c1 c2 c3
  rw [← HV.out.1] at c0
  rw [← HV.out.2.2.1] at c1
  rw [← HV.out.2.1] at c2
  rw [← HV.out.2.2.2] at c3
  have D5 := hide' (RB.out w4)
  go_wp2_with fail
  refine D5.out.mono ?_
  rintro e w5 ⟨rfl, b5⟩
  have T5 := hide' (T4.out.to b5)
  clear b5 D5 c0 c1 c2 c3 T4
  have c0 := T5.out.a.c0
  have c1 := T5.out.a.c1
  have c2 := T5.out.b.c0
  have c3 := T5.out.b.c1
  rw [← HQ.out] at c0 c1 c2 c3
  rw [← HV.out.1] at c0
  rw [← HV.out.2.2.1] at c1
  rw [← HV.out.2.1] at c2
  rw [← HV.out.2.2.2] at c3
  go_wp2
  all_goals (first | (go_ret; exact ⟨rfl, T5.out.bel⟩) | (exfalso; clear HV HQ T5 FA FB RA RB; simp_all))
set_option maxRecDepth 100000 in
set_option maxHeartbeats 2000000 in
theorem apart_ne (a b : En) (ha : a.ok) (hb : b.ok) (hab : a ≠ b) (hl : (rcd a).length ≤ (rcd b).length) (w : World) : Calls Try.prog 9 #[.agg #[.int .i64 a.v, .string (sb a.t)], .agg #[.int .i64 b.v, .string (sb b.t)]] w fun r w' => r = .returned (.bool true) ∧ Below w.heap.size w w' := by
  obtain ⟨SA, hSA⟩ : ∃ T, T = sb (frs a) := ⟨_, rfl⟩
  have ia : okb a = true := (okb_iff a).2 ha
  rw [frs_ok ha] at hSA
  obtain ⟨SB, hSB⟩ : ∃ T, T = sb (frs b) := ⟨_, rfl⟩
  have ib : okb b = true := (okb_iff b).2 hb
  rw [frs_ok hb] at hSB
  have T0 := hide' (Tw.new w a b)
  have C1 := hide' (alive_any ((w.alloc (.cells #[.int .i64 a.v, .string (sb a.t)] 24)).alloc (.cells #[.int .i64 b.v, .string (sb b.t)] 24)))
  have FA : Hid (∀ W, Calls Try.prog 13 #[.agg #[.int .i64 a.v, .string (sb a.t)]] W fun r w' => r = .returned (.tuple #[.string SA, .int .i64 0]) ∧ Below W.heap.size W w') := hide' (fun W => by rw [hSA]; exact frame_ok a ha W)
  have FB : Hid (∀ W, Calls Try.prog 13 #[.agg #[.int .i64 b.v, .string (sb b.t)]] W fun r w' => r = .returned (.tuple #[.string SB, .int .i64 0]) ∧ Below W.heap.size W w') := hide' (fun W => by rw [hSB]; exact frame_ok b hb W)
  have RA : Hid (∀ W, Calls Try.prog 25 #[.agg #[.int .i64 a.v, .string (sb a.t)]] W fun r w' => r = .returned (.bool true) ∧ Below W.heap.size W w') := hide' (fun W => by have := right_any a W; rw [ia] at this; exact this)
  have RB : Hid (∀ W, Calls Try.prog 25 #[.agg #[.int .i64 b.v, .string (sb b.t)]] W fun r w' => r = .returned (.bool true) ∧ Below W.heap.size W w') := hide' (fun W => by have := right_any b W; rw [ib] at this; exact this)
  have z1 : SA.size = (rcd a).length := by rw [hSA, sb_size]
  have z2 : SB.size = (rcd b).length := by rw [hSB, sb_size]
  have x1 : ((SB.extract 0 (rcd a).length).toList == SA.toList) = false := by
    rw [hSB, hSA, sb_cut]
    exact str_ne (by simpa using not_beg ha hb hab)
  have ENE : (a.v == b.v && (sb a.t).toList == (sb b.t).toList) = false := en_ne hab
  obtain ⟨n, hn⟩ : ∃ n, n = (rcd a).length := ⟨_, rfl⟩
  obtain ⟨m, hm⟩ : ∃ m, m = (rcd b).length := ⟨_, rfl⟩
  rw [← hn] at z1 x1 hl
  rw [← hm] at z2 hl
  have g1 : (n : Int) ≤ (m : Int) := by omega
  have g0 : (0 : Int) ≤ (n : Int) := by omega
  clear hSA hSB hab hn hm ha hb hl
  clear ia ib
  obtain ⟨va, hva⟩ : ∃ v, v = a.v := ⟨_, rfl⟩
  obtain ⟨vb, hvb⟩ : ∃ v, v = b.v := ⟨_, rfl⟩
  obtain ⟨TA, hTA⟩ : ∃ v, v = sb a.t := ⟨_, rfl⟩
  obtain ⟨TB, hTB⟩ : ∃ v, v = sb b.t := ⟨_, rfl⟩
  have HV := hide' (And.intro hva (And.intro hvb (And.intro hTA hTB)))
  rw [← hva, ← hvb, ← hTA, ← hTB] at C1 T0 ENE ⊢
  rw [← hva, ← hTA] at FA RA
  rw [← hvb, ← hTB] at FB RB
  clear hva hvb hTA hTB
  obtain ⟨q, hq⟩ : ∃ q, q = w.heap.size := ⟨_, rfl⟩
  have HQ := hide' hq
  go_enter Try.func9, Try.ntmps9
  go_wp2_with fail
  refine C1.out.mono ?_
  rintro e w1 ⟨rfl, b1⟩
  have T1 := hide' (T0.out.to b1)
  rw [← hq]
  clear b1 C1 T0 hq
  have c0 := T1.out.a.c0
  have c1 := T1.out.a.c1
  have c2 := T1.out.b.c0
  have c3 := T1.out.b.c1
  rw [← HQ.out] at c0 c1 c2 c3
  rw [← HV.out.1] at c0
  rw [← HV.out.2.2.1] at c1
  rw [← HV.out.2.1] at c2
  rw [← HV.out.2.2.2] at c3
  have D2 := hide' (FA.out w1)
  go_wp2_with fail
  refine D2.out.mono ?_
  rintro e w2 ⟨rfl, b2⟩
  have T2 := hide' (T1.out.to b2)
  clear b2 D2 c0 c1 c2 c3 T1
  have c0 := T2.out.a.c0
  have c1 := T2.out.a.c1
  have c2 := T2.out.b.c0
  have c3 := T2.out.b.c1
  rw [← HQ.out] at c0 c1 c2 c3
  rw [← HV.out.1] at c0
  rw [← HV.out.2.2.1] at c1
  rw [← HV.out.2.1] at c2
  rw [← HV.out.2.2.2] at c3
  have D3 := hide' (FB.out w2)
  go_wp2_with fail
  refine D3.out.mono ?_
  rintro e w3 ⟨rfl, b3⟩
  have T3 := hide' (T2.out.to b3)
  clear b3 D3 c0 c1 c2 c3 T2
  have c0 := T3.out.a.c0
  have c1 := T3.out.a.c1
  have c2 := T3.out.b.c0
  have c3 := T3.out.b.c1
  rw [← HQ.out] at c0 c1 c2 c3
  rw [← HV.out.1] at c0
  rw [← HV.out.2.2.1] at c1
  rw [← HV.out.2.1] at c2
  rw [← HV.out.2.2.2] at c3
  have D4 := hide' (RA.out w3)
  go_wp2_with fail
  refine D4.out.mono ?_
  rintro e w4 ⟨rfl, b4⟩
  have T4 := hide' (T3.out.to b4)
  clear b4 D4 c0 c1 c2 c3 T3
  have c0 := T4.out.a.c0
  have c1 := T4.out.a.c1
  have c2 := T4.out.b.c0
  have c3 := T4.out.b.c1
  rw [← HQ.out] at c0 c1 c2 c3
  rw [← HV.out.1] at c0
  rw [← HV.out.2.2.1] at c1
  rw [← HV.out.2.1] at c2
  rw [← HV.out.2.2.2] at c3
  have D5 := hide' (RB.out w4)
  go_wp2_with fail
  refine D5.out.mono ?_
  rintro e w5 ⟨rfl, b5⟩
  have T5 := hide' (T4.out.to b5)
  clear b5 D5 c0 c1 c2 c3 T4
  have c0 := T5.out.a.c0
  have c1 := T5.out.a.c1
  have c2 := T5.out.b.c0
  have c3 := T5.out.b.c1
  rw [← HQ.out] at c0 c1 c2 c3
  rw [← HV.out.1] at c0
  rw [← HV.out.2.2.1] at c1
  rw [← HV.out.2.1] at c2
  rw [← HV.out.2.2.2] at c3
  go_wp2
  all_goals (first | (go_ret; exact ⟨rfl, T5.out.bel⟩) | (exfalso; clear HV HQ T5 FA FB RA RB; simp_all))
set_option maxRecDepth 100000 in
set_option maxHeartbeats 2000000 in
theorem apart_lt (a b : En) (ha : a.ok) (hb : b.ok) (hab : a ≠ b) (hl : ¬ (rcd a).length ≤ (rcd b).length) (w : World) : Calls Try.prog 9 #[.agg #[.int .i64 a.v, .string (sb a.t)], .agg #[.int .i64 b.v, .string (sb b.t)]] w fun r w' => r = .returned (.bool true) ∧ Below w.heap.size w w' := by
  obtain ⟨SA, hSA⟩ : ∃ T, T = sb (frs a) := ⟨_, rfl⟩
  have ia : okb a = true := (okb_iff a).2 ha
  rw [frs_ok ha] at hSA
  obtain ⟨SB, hSB⟩ : ∃ T, T = sb (frs b) := ⟨_, rfl⟩
  have ib : okb b = true := (okb_iff b).2 hb
  rw [frs_ok hb] at hSB
  have T0 := hide' (Tw.new w a b)
  have C1 := hide' (alive_any ((w.alloc (.cells #[.int .i64 a.v, .string (sb a.t)] 24)).alloc (.cells #[.int .i64 b.v, .string (sb b.t)] 24)))
  have FA : Hid (∀ W, Calls Try.prog 13 #[.agg #[.int .i64 a.v, .string (sb a.t)]] W fun r w' => r = .returned (.tuple #[.string SA, .int .i64 0]) ∧ Below W.heap.size W w') := hide' (fun W => by rw [hSA]; exact frame_ok a ha W)
  have FB : Hid (∀ W, Calls Try.prog 13 #[.agg #[.int .i64 b.v, .string (sb b.t)]] W fun r w' => r = .returned (.tuple #[.string SB, .int .i64 0]) ∧ Below W.heap.size W w') := hide' (fun W => by rw [hSB]; exact frame_ok b hb W)
  have RA : Hid (∀ W, Calls Try.prog 25 #[.agg #[.int .i64 a.v, .string (sb a.t)]] W fun r w' => r = .returned (.bool true) ∧ Below W.heap.size W w') := hide' (fun W => by have := right_any a W; rw [ia] at this; exact this)
  have RB : Hid (∀ W, Calls Try.prog 25 #[.agg #[.int .i64 b.v, .string (sb b.t)]] W fun r w' => r = .returned (.bool true) ∧ Below W.heap.size W w') := hide' (fun W => by have := right_any b W; rw [ib] at this; exact this)
  have z1 : SA.size = (rcd a).length := by rw [hSA, sb_size]
  have z2 : SB.size = (rcd b).length := by rw [hSB, sb_size]
  have ENE : (a.v == b.v && (sb a.t).toList == (sb b.t).toList) = false := en_ne hab
  obtain ⟨n, hn⟩ : ∃ n, n = (rcd a).length := ⟨_, rfl⟩
  obtain ⟨m, hm⟩ : ∃ m, m = (rcd b).length := ⟨_, rfl⟩
  rw [← hn] at z1 hl
  rw [← hm] at z2 hl
  have g1 : ¬ ((n : Int) ≤ (m : Int)) := by omega
  clear hSA hSB hab hn hm ha hb hl
  clear ia ib
  obtain ⟨va, hva⟩ : ∃ v, v = a.v := ⟨_, rfl⟩
  obtain ⟨vb, hvb⟩ : ∃ v, v = b.v := ⟨_, rfl⟩
  obtain ⟨TA, hTA⟩ : ∃ v, v = sb a.t := ⟨_, rfl⟩
  obtain ⟨TB, hTB⟩ : ∃ v, v = sb b.t := ⟨_, rfl⟩
  have HV := hide' (And.intro hva (And.intro hvb (And.intro hTA hTB)))
  rw [← hva, ← hvb, ← hTA, ← hTB] at C1 T0 ENE ⊢
  rw [← hva, ← hTA] at FA RA
  rw [← hvb, ← hTB] at FB RB
  clear hva hvb hTA hTB
  obtain ⟨q, hq⟩ : ∃ q, q = w.heap.size := ⟨_, rfl⟩
  have HQ := hide' hq
  go_enter Try.func9, Try.ntmps9
  go_wp2_with fail
  refine C1.out.mono ?_
  rintro e w1 ⟨rfl, b1⟩
  have T1 := hide' (T0.out.to b1)
  rw [← hq]
  clear b1 C1 T0 hq
  have c0 := T1.out.a.c0
  have c1 := T1.out.a.c1
  have c2 := T1.out.b.c0
  have c3 := T1.out.b.c1
  rw [← HQ.out] at c0 c1 c2 c3
  rw [← HV.out.1] at c0
  rw [← HV.out.2.2.1] at c1
  rw [← HV.out.2.1] at c2
  rw [← HV.out.2.2.2] at c3
  have D2 := hide' (FA.out w1)
  go_wp2_with fail
  refine D2.out.mono ?_
  rintro e w2 ⟨rfl, b2⟩
  have T2 := hide' (T1.out.to b2)
  clear b2 D2 c0 c1 c2 c3 T1
  have c0 := T2.out.a.c0
  have c1 := T2.out.a.c1
  have c2 := T2.out.b.c0
  have c3 := T2.out.b.c1
  rw [← HQ.out] at c0 c1 c2 c3
  rw [← HV.out.1] at c0
  rw [← HV.out.2.2.1] at c1
  rw [← HV.out.2.1] at c2
  rw [← HV.out.2.2.2] at c3
  have D3 := hide' (FB.out w2)
  go_wp2_with fail
  refine D3.out.mono ?_
  rintro e w3 ⟨rfl, b3⟩
  have T3 := hide' (T2.out.to b3)
  clear b3 D3 c0 c1 c2 c3 T2
  have c0 := T3.out.a.c0
  have c1 := T3.out.a.c1
  have c2 := T3.out.b.c0
  have c3 := T3.out.b.c1
  rw [← HQ.out] at c0 c1 c2 c3
  rw [← HV.out.1] at c0
  rw [← HV.out.2.2.1] at c1
  rw [← HV.out.2.1] at c2
  rw [← HV.out.2.2.2] at c3
  have D4 := hide' (RA.out w3)
  go_wp2_with fail
  refine D4.out.mono ?_
  rintro e w4 ⟨rfl, b4⟩
  have T4 := hide' (T3.out.to b4)
  clear b4 D4 c0 c1 c2 c3 T3
  have c0 := T4.out.a.c0
  have c1 := T4.out.a.c1
  have c2 := T4.out.b.c0
  have c3 := T4.out.b.c1
  rw [← HQ.out] at c0 c1 c2 c3
  rw [← HV.out.1] at c0
  rw [← HV.out.2.2.1] at c1
  rw [← HV.out.2.1] at c2
  rw [← HV.out.2.2.2] at c3
  have D5 := hide' (RB.out w4)
  go_wp2_with fail
  refine D5.out.mono ?_
  rintro e w5 ⟨rfl, b5⟩
  have T5 := hide' (T4.out.to b5)
  clear b5 D5 c0 c1 c2 c3 T4
  have c0 := T5.out.a.c0
  have c1 := T5.out.a.c1
  have c2 := T5.out.b.c0
  have c3 := T5.out.b.c1
  rw [← HQ.out] at c0 c1 c2 c3
  rw [← HV.out.1] at c0
  rw [← HV.out.2.2.1] at c1
  rw [← HV.out.2.1] at c2
  rw [← HV.out.2.2.2] at c3
  go_wp2
  all_goals (first | (go_ret; exact ⟨rfl, T5.out.bel⟩) | (exfalso; clear HV HQ T5 FA FB RA RB; simp_all))
set_option maxRecDepth 100000 in
set_option maxHeartbeats 2000000 in
theorem apart_no (a b : En) (ha : ¬ a.ok) (hb : b.ok) (w : World) : Calls Try.prog 9 #[.agg #[.int .i64 a.v, .string (sb a.t)], .agg #[.int .i64 b.v, .string (sb b.t)]] w fun r w' => r = .returned (.bool true) ∧ Below w.heap.size w w' := by
  obtain ⟨SA, hSA⟩ : ∃ T, T = sb (frs a) := ⟨_, rfl⟩
  have hfa : ¬ frc a = 0 := fun q => ha (ok_frc q)
  have ia : okb a = false := by cases q : okb a with | false => rfl | true => exact absurd ((okb_iff a).1 q) ha
  rw [frs_no hfa] at hSA
  obtain ⟨fa, hfa2⟩ : ∃ c, c = frc a := ⟨_, rfl⟩
  have hea : SA = ⟨#[]⟩ := hSA
  obtain ⟨SB, hSB⟩ : ∃ T, T = sb (frs b) := ⟨_, rfl⟩
  have ib : okb b = true := (okb_iff b).2 hb
  rw [frs_ok hb] at hSB
  have T0 := hide' (Tw.new w a b)
  have C1 := hide' (alive_any ((w.alloc (.cells #[.int .i64 a.v, .string (sb a.t)] 24)).alloc (.cells #[.int .i64 b.v, .string (sb b.t)] 24)))
  have FA : Hid (∀ W, Calls Try.prog 13 #[.agg #[.int .i64 a.v, .string (sb a.t)]] W fun r w' => r = .returned (.tuple #[.string SA, .int .i64 fa]) ∧ Below W.heap.size W w') := hide' (fun W => by have := frame_any a W; rw [frs_no hfa, ← hSA, ← hfa2] at this; exact this)
  have FB : Hid (∀ W, Calls Try.prog 13 #[.agg #[.int .i64 b.v, .string (sb b.t)]] W fun r w' => r = .returned (.tuple #[.string SB, .int .i64 0]) ∧ Below W.heap.size W w') := hide' (fun W => by rw [hSB]; exact frame_ok b hb W)
  have RA : Hid (∀ W, Calls Try.prog 25 #[.agg #[.int .i64 a.v, .string (sb a.t)]] W fun r w' => r = .returned (.bool false) ∧ Below W.heap.size W w') := hide' (fun W => by have := right_any a W; rw [ia] at this; exact this)
  have RB : Hid (∀ W, Calls Try.prog 25 #[.agg #[.int .i64 b.v, .string (sb b.t)]] W fun r w' => r = .returned (.bool true) ∧ Below W.heap.size W w') := hide' (fun W => by have := right_any b W; rw [ib] at this; exact this)
  rw [← hfa2] at hfa
  clear hfa2 hSA ha
  clear hSB hb
  have ENE : a.v = a.v ∧ sb a.t = sb a.t ∧ b.v = b.v ∧ sb b.t = sb b.t := ⟨rfl, rfl, rfl, rfl⟩
  clear ia ib
  obtain ⟨va, hva⟩ : ∃ v, v = a.v := ⟨_, rfl⟩
  obtain ⟨vb, hvb⟩ : ∃ v, v = b.v := ⟨_, rfl⟩
  obtain ⟨TA, hTA⟩ : ∃ v, v = sb a.t := ⟨_, rfl⟩
  obtain ⟨TB, hTB⟩ : ∃ v, v = sb b.t := ⟨_, rfl⟩
  have HV := hide' (And.intro hva (And.intro hvb (And.intro hTA hTB)))
  rw [← hva, ← hvb, ← hTA, ← hTB] at C1 T0 ENE ⊢
  rw [← hva, ← hTA] at FA RA
  rw [← hvb, ← hTB] at FB RB
  clear hva hvb hTA hTB
  obtain ⟨q, hq⟩ : ∃ q, q = w.heap.size := ⟨_, rfl⟩
  have HQ := hide' hq
  go_enter Try.func9, Try.ntmps9
  go_wp2_with fail
  refine C1.out.mono ?_
  rintro e w1 ⟨rfl, b1⟩
  have T1 := hide' (T0.out.to b1)
  rw [← hq]
  clear b1 C1 T0 hq
  have c0 := T1.out.a.c0
  have c1 := T1.out.a.c1
  have c2 := T1.out.b.c0
  have c3 := T1.out.b.c1
  rw [← HQ.out] at c0 c1 c2 c3
  rw [← HV.out.1] at c0
  rw [← HV.out.2.2.1] at c1
  rw [← HV.out.2.1] at c2
  rw [← HV.out.2.2.2] at c3
  have D2 := hide' (FA.out w1)
  go_wp2_with fail
  refine D2.out.mono ?_
  rintro e w2 ⟨rfl, b2⟩
  have T2 := hide' (T1.out.to b2)
  clear b2 D2 c0 c1 c2 c3 T1
  have c0 := T2.out.a.c0
  have c1 := T2.out.a.c1
  have c2 := T2.out.b.c0
  have c3 := T2.out.b.c1
  rw [← HQ.out] at c0 c1 c2 c3
  rw [← HV.out.1] at c0
  rw [← HV.out.2.2.1] at c1
  rw [← HV.out.2.1] at c2
  rw [← HV.out.2.2.2] at c3
  have D3 := hide' (FB.out w2)
  go_wp2_with fail
  refine D3.out.mono ?_
  rintro e w3 ⟨rfl, b3⟩
  have T3 := hide' (T2.out.to b3)
  clear b3 D3 c0 c1 c2 c3 T2
  have c0 := T3.out.a.c0
  have c1 := T3.out.a.c1
  have c2 := T3.out.b.c0
  have c3 := T3.out.b.c1
  rw [← HQ.out] at c0 c1 c2 c3
  rw [← HV.out.1] at c0
  rw [← HV.out.2.2.1] at c1
  rw [← HV.out.2.1] at c2
  rw [← HV.out.2.2.2] at c3
  have D4 := hide' (RA.out w3)
  go_wp2_with fail
  refine D4.out.mono ?_
  rintro e w4 ⟨rfl, b4⟩
  have T4 := hide' (T3.out.to b4)
  clear b4 D4 c0 c1 c2 c3 T3
  have c0 := T4.out.a.c0
  have c1 := T4.out.a.c1
  have c2 := T4.out.b.c0
  have c3 := T4.out.b.c1
  rw [← HQ.out] at c0 c1 c2 c3
  rw [← HV.out.1] at c0
  rw [← HV.out.2.2.1] at c1
  rw [← HV.out.2.1] at c2
  rw [← HV.out.2.2.2] at c3
  have D5 := hide' (RB.out w4)
  go_wp2_with fail
  refine D5.out.mono ?_
  rintro e w5 ⟨rfl, b5⟩
  have T5 := hide' (T4.out.to b5)
  clear b5 D5 c0 c1 c2 c3 T4
  have c0 := T5.out.a.c0
  have c1 := T5.out.a.c1
  have c2 := T5.out.b.c0
  have c3 := T5.out.b.c1
  rw [← HQ.out] at c0 c1 c2 c3
  rw [← HV.out.1] at c0
  rw [← HV.out.2.2.1] at c1
  rw [← HV.out.2.1] at c2
  rw [← HV.out.2.2.2] at c3
  go_wp2
  all_goals (first | (go_ret; exact ⟨rfl, T5.out.bel⟩) | (exfalso; clear HV HQ T5 FA FB RA RB; simp_all))
set_option maxRecDepth 100000 in
set_option maxHeartbeats 2000000 in
theorem apart_on (a b : En) (ha : a.ok) (hb : ¬ b.ok) (w : World) : Calls Try.prog 9 #[.agg #[.int .i64 a.v, .string (sb a.t)], .agg #[.int .i64 b.v, .string (sb b.t)]] w fun r w' => r = .returned (.bool true) ∧ Below w.heap.size w w' := by
  obtain ⟨SA, hSA⟩ : ∃ T, T = sb (frs a) := ⟨_, rfl⟩
  have ia : okb a = true := (okb_iff a).2 ha
  rw [frs_ok ha] at hSA
  obtain ⟨SB, hSB⟩ : ∃ T, T = sb (frs b) := ⟨_, rfl⟩
  have hfb : ¬ frc b = 0 := fun q => hb (ok_frc q)
  have ib : okb b = false := by cases q : okb b with | false => rfl | true => exact absurd ((okb_iff b).1 q) hb
  rw [frs_no hfb] at hSB
  obtain ⟨fb, hfb2⟩ : ∃ c, c = frc b := ⟨_, rfl⟩
  have heb : SB = ⟨#[]⟩ := hSB
  have T0 := hide' (Tw.new w a b)
  have C1 := hide' (alive_any ((w.alloc (.cells #[.int .i64 a.v, .string (sb a.t)] 24)).alloc (.cells #[.int .i64 b.v, .string (sb b.t)] 24)))
  have FA : Hid (∀ W, Calls Try.prog 13 #[.agg #[.int .i64 a.v, .string (sb a.t)]] W fun r w' => r = .returned (.tuple #[.string SA, .int .i64 0]) ∧ Below W.heap.size W w') := hide' (fun W => by rw [hSA]; exact frame_ok a ha W)
  have FB : Hid (∀ W, Calls Try.prog 13 #[.agg #[.int .i64 b.v, .string (sb b.t)]] W fun r w' => r = .returned (.tuple #[.string SB, .int .i64 fb]) ∧ Below W.heap.size W w') := hide' (fun W => by have := frame_any b W; rw [frs_no hfb, ← hSB, ← hfb2] at this; exact this)
  have RA : Hid (∀ W, Calls Try.prog 25 #[.agg #[.int .i64 a.v, .string (sb a.t)]] W fun r w' => r = .returned (.bool true) ∧ Below W.heap.size W w') := hide' (fun W => by have := right_any a W; rw [ia] at this; exact this)
  have RB : Hid (∀ W, Calls Try.prog 25 #[.agg #[.int .i64 b.v, .string (sb b.t)]] W fun r w' => r = .returned (.bool false) ∧ Below W.heap.size W w') := hide' (fun W => by have := right_any b W; rw [ib] at this; exact this)
  rw [← hfb2] at hfb
  clear hfb2 hSB hb
  clear hSA ha
  have ENE : a.v = a.v ∧ sb a.t = sb a.t ∧ b.v = b.v ∧ sb b.t = sb b.t := ⟨rfl, rfl, rfl, rfl⟩
  clear ia ib
  obtain ⟨va, hva⟩ : ∃ v, v = a.v := ⟨_, rfl⟩
  obtain ⟨vb, hvb⟩ : ∃ v, v = b.v := ⟨_, rfl⟩
  obtain ⟨TA, hTA⟩ : ∃ v, v = sb a.t := ⟨_, rfl⟩
  obtain ⟨TB, hTB⟩ : ∃ v, v = sb b.t := ⟨_, rfl⟩
  have HV := hide' (And.intro hva (And.intro hvb (And.intro hTA hTB)))
  rw [← hva, ← hvb, ← hTA, ← hTB] at C1 T0 ENE ⊢
  rw [← hva, ← hTA] at FA RA
  rw [← hvb, ← hTB] at FB RB
  clear hva hvb hTA hTB
  obtain ⟨q, hq⟩ : ∃ q, q = w.heap.size := ⟨_, rfl⟩
  have HQ := hide' hq
  go_enter Try.func9, Try.ntmps9
  go_wp2_with fail
  refine C1.out.mono ?_
  rintro e w1 ⟨rfl, b1⟩
  have T1 := hide' (T0.out.to b1)
  rw [← hq]
  clear b1 C1 T0 hq
  have c0 := T1.out.a.c0
  have c1 := T1.out.a.c1
  have c2 := T1.out.b.c0
  have c3 := T1.out.b.c1
  rw [← HQ.out] at c0 c1 c2 c3
  rw [← HV.out.1] at c0
  rw [← HV.out.2.2.1] at c1
  rw [← HV.out.2.1] at c2
  rw [← HV.out.2.2.2] at c3
  have D2 := hide' (FA.out w1)
  go_wp2_with fail
  refine D2.out.mono ?_
  rintro e w2 ⟨rfl, b2⟩
  have T2 := hide' (T1.out.to b2)
  clear b2 D2 c0 c1 c2 c3 T1
  have c0 := T2.out.a.c0
  have c1 := T2.out.a.c1
  have c2 := T2.out.b.c0
  have c3 := T2.out.b.c1
  rw [← HQ.out] at c0 c1 c2 c3
  rw [← HV.out.1] at c0
  rw [← HV.out.2.2.1] at c1
  rw [← HV.out.2.1] at c2
  rw [← HV.out.2.2.2] at c3
  have D3 := hide' (FB.out w2)
  go_wp2_with fail
  refine D3.out.mono ?_
  rintro e w3 ⟨rfl, b3⟩
  have T3 := hide' (T2.out.to b3)
  clear b3 D3 c0 c1 c2 c3 T2
  have c0 := T3.out.a.c0
  have c1 := T3.out.a.c1
  have c2 := T3.out.b.c0
  have c3 := T3.out.b.c1
  rw [← HQ.out] at c0 c1 c2 c3
  rw [← HV.out.1] at c0
  rw [← HV.out.2.2.1] at c1
  rw [← HV.out.2.1] at c2
  rw [← HV.out.2.2.2] at c3
  have D4 := hide' (RA.out w3)
  go_wp2_with fail
  refine D4.out.mono ?_
  rintro e w4 ⟨rfl, b4⟩
  have T4 := hide' (T3.out.to b4)
  clear b4 D4 c0 c1 c2 c3 T3
  have c0 := T4.out.a.c0
  have c1 := T4.out.a.c1
  have c2 := T4.out.b.c0
  have c3 := T4.out.b.c1
  rw [← HQ.out] at c0 c1 c2 c3
  rw [← HV.out.1] at c0
  rw [← HV.out.2.2.1] at c1
  rw [← HV.out.2.1] at c2
  rw [← HV.out.2.2.2] at c3
  have D5 := hide' (RB.out w4)
  go_wp2_with fail
  refine D5.out.mono ?_
  rintro e w5 ⟨rfl, b5⟩
  have T5 := hide' (T4.out.to b5)
  clear b5 D5 c0 c1 c2 c3 T4
  have c0 := T5.out.a.c0
  have c1 := T5.out.a.c1
  have c2 := T5.out.b.c0
  have c3 := T5.out.b.c1
  rw [← HQ.out] at c0 c1 c2 c3
  rw [← HV.out.1] at c0
  rw [← HV.out.2.2.1] at c1
  rw [← HV.out.2.1] at c2
  rw [← HV.out.2.2.2] at c3
  go_wp2
  all_goals (first | (go_ret; exact ⟨rfl, T5.out.bel⟩) | (exfalso; clear HV HQ T5 FA FB RA RB; simp_all))
set_option maxRecDepth 100000 in
set_option maxHeartbeats 2000000 in
theorem apart_nn (a b : En) (ha : ¬ a.ok) (hb : ¬ b.ok) (w : World) : Calls Try.prog 9 #[.agg #[.int .i64 a.v, .string (sb a.t)], .agg #[.int .i64 b.v, .string (sb b.t)]] w fun r w' => r = .returned (.bool true) ∧ Below w.heap.size w w' := by
  obtain ⟨SA, hSA⟩ : ∃ T, T = sb (frs a) := ⟨_, rfl⟩
  have hfa : ¬ frc a = 0 := fun q => ha (ok_frc q)
  have ia : okb a = false := by cases q : okb a with | false => rfl | true => exact absurd ((okb_iff a).1 q) ha
  rw [frs_no hfa] at hSA
  obtain ⟨fa, hfa2⟩ : ∃ c, c = frc a := ⟨_, rfl⟩
  have hea : SA = ⟨#[]⟩ := hSA
  obtain ⟨SB, hSB⟩ : ∃ T, T = sb (frs b) := ⟨_, rfl⟩
  have hfb : ¬ frc b = 0 := fun q => hb (ok_frc q)
  have ib : okb b = false := by cases q : okb b with | false => rfl | true => exact absurd ((okb_iff b).1 q) hb
  rw [frs_no hfb] at hSB
  obtain ⟨fb, hfb2⟩ : ∃ c, c = frc b := ⟨_, rfl⟩
  have heb : SB = ⟨#[]⟩ := hSB
  have T0 := hide' (Tw.new w a b)
  have C1 := hide' (alive_any ((w.alloc (.cells #[.int .i64 a.v, .string (sb a.t)] 24)).alloc (.cells #[.int .i64 b.v, .string (sb b.t)] 24)))
  have FA : Hid (∀ W, Calls Try.prog 13 #[.agg #[.int .i64 a.v, .string (sb a.t)]] W fun r w' => r = .returned (.tuple #[.string SA, .int .i64 fa]) ∧ Below W.heap.size W w') := hide' (fun W => by have := frame_any a W; rw [frs_no hfa, ← hSA, ← hfa2] at this; exact this)
  have FB : Hid (∀ W, Calls Try.prog 13 #[.agg #[.int .i64 b.v, .string (sb b.t)]] W fun r w' => r = .returned (.tuple #[.string SB, .int .i64 fb]) ∧ Below W.heap.size W w') := hide' (fun W => by have := frame_any b W; rw [frs_no hfb, ← hSB, ← hfb2] at this; exact this)
  have RA : Hid (∀ W, Calls Try.prog 25 #[.agg #[.int .i64 a.v, .string (sb a.t)]] W fun r w' => r = .returned (.bool false) ∧ Below W.heap.size W w') := hide' (fun W => by have := right_any a W; rw [ia] at this; exact this)
  have RB : Hid (∀ W, Calls Try.prog 25 #[.agg #[.int .i64 b.v, .string (sb b.t)]] W fun r w' => r = .returned (.bool false) ∧ Below W.heap.size W w') := hide' (fun W => by have := right_any b W; rw [ib] at this; exact this)
  rw [← hfa2] at hfa
  clear hfa2 hSA ha
  rw [← hfb2] at hfb
  clear hfb2 hSB hb
  have ENE : a.v = a.v ∧ sb a.t = sb a.t ∧ b.v = b.v ∧ sb b.t = sb b.t := ⟨rfl, rfl, rfl, rfl⟩
  clear ia ib
  obtain ⟨va, hva⟩ : ∃ v, v = a.v := ⟨_, rfl⟩
  obtain ⟨vb, hvb⟩ : ∃ v, v = b.v := ⟨_, rfl⟩
  obtain ⟨TA, hTA⟩ : ∃ v, v = sb a.t := ⟨_, rfl⟩
  obtain ⟨TB, hTB⟩ : ∃ v, v = sb b.t := ⟨_, rfl⟩
  have HV := hide' (And.intro hva (And.intro hvb (And.intro hTA hTB)))
  rw [← hva, ← hvb, ← hTA, ← hTB] at C1 T0 ENE ⊢
  rw [← hva, ← hTA] at FA RA
  rw [← hvb, ← hTB] at FB RB
  clear hva hvb hTA hTB
  obtain ⟨q, hq⟩ : ∃ q, q = w.heap.size := ⟨_, rfl⟩
  have HQ := hide' hq
  go_enter Try.func9, Try.ntmps9
  go_wp2_with fail
  refine C1.out.mono ?_
  rintro e w1 ⟨rfl, b1⟩
  have T1 := hide' (T0.out.to b1)
  rw [← hq]
  clear b1 C1 T0 hq
  have c0 := T1.out.a.c0
  have c1 := T1.out.a.c1
  have c2 := T1.out.b.c0
  have c3 := T1.out.b.c1
  rw [← HQ.out] at c0 c1 c2 c3
  rw [← HV.out.1] at c0
  rw [← HV.out.2.2.1] at c1
  rw [← HV.out.2.1] at c2
  rw [← HV.out.2.2.2] at c3
  have D2 := hide' (FA.out w1)
  go_wp2_with fail
  refine D2.out.mono ?_
  rintro e w2 ⟨rfl, b2⟩
  have T2 := hide' (T1.out.to b2)
  clear b2 D2 c0 c1 c2 c3 T1
  have c0 := T2.out.a.c0
  have c1 := T2.out.a.c1
  have c2 := T2.out.b.c0
  have c3 := T2.out.b.c1
  rw [← HQ.out] at c0 c1 c2 c3
  rw [← HV.out.1] at c0
  rw [← HV.out.2.2.1] at c1
  rw [← HV.out.2.1] at c2
  rw [← HV.out.2.2.2] at c3
  have D3 := hide' (FB.out w2)
  go_wp2_with fail
  refine D3.out.mono ?_
  rintro e w3 ⟨rfl, b3⟩
  have T3 := hide' (T2.out.to b3)
  clear b3 D3 c0 c1 c2 c3 T2
  have c0 := T3.out.a.c0
  have c1 := T3.out.a.c1
  have c2 := T3.out.b.c0
  have c3 := T3.out.b.c1
  rw [← HQ.out] at c0 c1 c2 c3
  rw [← HV.out.1] at c0
  rw [← HV.out.2.2.1] at c1
  rw [← HV.out.2.1] at c2
  rw [← HV.out.2.2.2] at c3
  have D4 := hide' (RA.out w3)
  go_wp2_with fail
  refine D4.out.mono ?_
  rintro e w4 ⟨rfl, b4⟩
  have T4 := hide' (T3.out.to b4)
  clear b4 D4 c0 c1 c2 c3 T3
  have c0 := T4.out.a.c0
  have c1 := T4.out.a.c1
  have c2 := T4.out.b.c0
  have c3 := T4.out.b.c1
  rw [← HQ.out] at c0 c1 c2 c3
  rw [← HV.out.1] at c0
  rw [← HV.out.2.2.1] at c1
  rw [← HV.out.2.1] at c2
  rw [← HV.out.2.2.2] at c3
  have D5 := hide' (RB.out w4)
  go_wp2_with fail
  refine D5.out.mono ?_
  rintro e w5 ⟨rfl, b5⟩
  have T5 := hide' (T4.out.to b5)
  clear b5 D5 c0 c1 c2 c3 T4
  have c0 := T5.out.a.c0
  have c1 := T5.out.a.c1
  have c2 := T5.out.b.c0
  have c3 := T5.out.b.c1
  rw [← HQ.out] at c0 c1 c2 c3
  rw [← HV.out.1] at c0
  rw [← HV.out.2.2.1] at c1
  rw [← HV.out.2.1] at c2
  rw [← HV.out.2.2.2] at c3
  go_wp2
  all_goals (first | (go_ret; exact ⟨rfl, T5.out.bel⟩) | (exfalso; clear HV HQ T5 FA FB RA RB; simp_all))
theorem apart_any (a b : En) (w : World) : Calls Try.prog 9 #[.agg #[.int .i64 a.v, .string (sb a.t)], .agg #[.int .i64 b.v, .string (sb b.t)]] w fun r w' => r = .returned (.bool true) ∧ Below w.heap.size w w' := by
  by_cases ha : a.ok
  · by_cases hb : b.ok
    · by_cases hab : b = a
      · exact apart_eq a b ha hb hab w
      · by_cases hl : (rcd a).length ≤ (rcd b).length
        · exact apart_ne a b ha hb (fun q => hab q.symm) hl w
        · exact apart_lt a b ha hb (fun q => hab q.symm) hl w
    · exact apart_on a b ha hb w
  · by_cases hb : b.ok
    · exact apart_no a b ha hb w
    · exact apart_nn a b ha hb w
end J
end Go.Proofs.Ytihdagehenmolaa
