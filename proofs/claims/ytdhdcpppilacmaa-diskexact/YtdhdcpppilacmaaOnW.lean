import Derived.Test.YtdhdcpppilacmaaMaW
set_option linter.unusedVariables false
set_option linter.unusedSimpArgs false
namespace Go.Proofs.Ytdhdcpppilacmaa
open Go.RowKit
namespace K
open M
variable {B : Nat} {x : PP} {w w' : World}
/-- what a call leaves of a pair -/
def PT (B : Nat) (x : PP) (w w' : World) : Prop := ∃ y : PP, y.p = x.p ∧ y.r = x.r ∧ Pr B y w' ∧ Turn (PB x) w w' ∧ ∀ j, PB y j → PB x j ∨ w.heap.size ≤ j
theorem PT.same (q : Pr B x w) (b : Below w.heap.size w w') : PT B x w w' := ⟨x, rfl, rfl, q.below b, turn_below b, fun j hj => .inl hj⟩
theorem PT.from {v : World} (b : Below w.heap.size w v) (h : PT B x v w') : PT B x w w' := by
  obtain ⟨y, e1, e2, q, t, p⟩ := h
  refine ⟨y, e1, e2, q, (turn_below (S := PB x) b).trans t, fun j hj => ?_⟩
  rcases p j hj with h | h
  · exact .inl h
  · exact .inr (Nat.le_trans b.size h)
theorem PT.app (q : Pr B x w) {l' : List UInt8} {s' : Nat} {ao' ar' : Option Addr} {cap' cr' : Nat} {w1 w2 : World} (d : Dk B x.p x.room l' s' ao' cap' w1) (t1 : Turn (DB x.p x.ao) w w1) (p1 : ∀ j, DB x.p ao' j → DB x.p x.ao j ∨ w.heap.size ≤ j) (r : RT B x.r x.room (mk l' s') x.ar w1 w2 ar' cr') : PT B x w w2 := by
  refine ⟨⟨x.p, x.r, x.room, l', s', ao', cap', ar', cr'⟩, rfl, rfl, ⟨d.kept r.2.1 (fun j hj h => ?_), r.1⟩, (t1.mono (S' := PB x) (fun k _ hk => .inl hk)).trans (r.2.1.mono (S' := PB x) (fun k _ hk => .inr hk)), fun j hj => ?_⟩
  · rcases p1 j hj with h1 | h1
    · exact q.apart h1 h
    · have := (q.rk.in h).2; omega
  · rcases hj with hj | hj
    · rcases p1 j hj with h1 | h1
      · exact .inl (.inl h1)
      · exact .inr h1
    · rcases r.2.2 j hj with h1 | h1
      · exact .inl (.inr h1)
      · exact .inr (Nat.le_trans t1.size h1)
theorem Pr.rk1 (q : Pr B x w) {w1 : World} (t1 : Turn (DB x.p x.ao) w w1) : Rr B x.r x.room (K.mk x.l x.s) x.ar x.cr w1 := q.rk.kept t1 (fun j hj h => q.apart h hj)
/-- the box with a pair -/
def Bp (b p r : Nat) (w : World) : Prop := w.heap[b]? = some (.cells #[.pointer (some ⟨p, 0, none⟩), .pointer (some ⟨r, 0, none⟩)] 29 (0, 0))
theorem Bp.c0 {b p r : Nat} (q : Bp b p r w) : w.cell? ⟨b, 0, none⟩ = some (.pointer (some ⟨p, 0, none⟩)) := by rw [Lib.cell_of_heap q]; rfl
theorem Bp.c1 {b p r : Nat} (q : Bp b p r w) : w.cell? ⟨b, 1, none⟩ = some (.pointer (some ⟨r, 0, none⟩)) := by rw [Lib.cell_of_heap q]; rfl
theorem Bp.below {b p r : Nat} (q : Bp b p r w) (t : Below w.heap.size w w') : Bp b p r w' := (t.block b (lt_of_heap q)).trans q
theorem Bp.kept {b p r : Nat} (q : Bp b p r w) {S : Nat → Prop} (t : Turn S w w') (hn : ¬ S b) : Bp b p r w' := (t.block b (lt_of_heap q) hn).trans q

set_option maxRecDepth 100000 in
set_option maxHeartbeats 4000000 in
theorem one_app (q : Pr B x w) (o : O4) (hB : B ≤ w.heap.size) (hk : o.k = 1) (h : (o.t.length : Int) ≤ x.room - x.l.length) : Calls Try.prog 8 #[.agg #[.pointer (some ⟨x.p, 0, none⟩), .pointer (some ⟨x.r, 0, none⟩)], .agg #[.int .i64 o.k, .int .i64 o.d, .string (sb o.t), .int .i64 o.n]] w fun e w' => e = .returned (.bool true) ∧ Hid (PT B x w w') := by
  obtain ⟨XT, hXT⟩ : ∃ A, A = sb o.t := ⟨_, rfl⟩
  have HXT := hide' hXT
  obtain ⟨w0, hw0⟩ : ∃ w0, w0 = w.alloc (.cells #[.pointer (some ⟨x.p, 0, none⟩), .pointer (some ⟨x.r, 0, none⟩)] 29) := ⟨_, rfl⟩
  obtain ⟨w1, hw1⟩ : ∃ w1, w1 = w0.alloc (.cells #[.int .i64 o.k, .int .i64 o.d, .string XT, .int .i64 o.n] 37) := ⟨_, rfl⟩
  obtain ⟨bx, hbx⟩ : ∃ x, x = w.heap.size := ⟨_, rfl⟩
  obtain ⟨ob, hob⟩ : ∃ x, x = w.heap.size + 1 := ⟨_, rfl⟩
  have hb0 : Below w.heap.size w w0 := by rw [hw0]; exact (Below.refl _ _).alloc (Nat.le_refl _) _
  have hb1 : Below w.heap.size w w1 := by rw [hw1]; exact hb0.alloc hb0.size _
  have hsz0 : w0.heap.size = w.heap.size + 1 := by rw [hw0]; simp
  have qb : Bp bx x.p x.r w1 := by
    have q0 : Bp bx x.p x.r w0 := by rw [hw0, hbx]; exact heap_alloc_new _ _
    rw [hw1]; exact q0.below ((Below.refl _ _).alloc (Nat.le_refl _) _)
  have qo : Bo ob o w1 := by
    have := Bo.new o w0
    rw [← hXT, ← hw1, hsz0, ← hob] at this
    exact this
  have q1 := q.below hb1
  have Hbx := hide' hbx
  have Hob := hide' hob
  have Hw1 : Hid (w1 = (w.alloc (.cells #[.pointer (some ⟨x.p, 0, none⟩), .pointer (some ⟨x.r, 0, none⟩)] 29)).alloc (.cells #[.int .i64 o.k, .int .i64 o.d, .string XT, .int .i64 o.n] 37)) := hide' (by rw [hw1, hw0])
  have HB1 := hide' (And.intro hb1 (Nat.le_trans hB hb1.size))
  have Q1 := hide' (And.intro q1 (And.intro qb qo))
  have p0 := qb.c0
  have p1 := qb.c1
  have o0 := qo.c0
  have o2 := qo.c2
  have o3 := qo.c3
  have nb := hide' (q1.not (j := bx) qb (by decide) (by decide) (by decide) (by decide))
  have no := hide' (q1.not (j := ob) qo (by decide) (by decide) (by decide) (by decide))
  rw [← hXT] at o2 ⊢
  clear q hB hw0 hw1 hbx hob hb0 hb1 hsz0 qb qo q1 hXT
  have kb1 : (o.k == 1) = true := by simp [hk]
  clear hk
  have C1 := hide' (append_ok Q1.out.1.dk o.t h HB1.out.2)
  rw [← HXT.out] at C1
  go_enter Try.func8, Try.ntmps8
  go_wp2_with fail
  rw [← Hob.out, ← Hbx.out, ← Hw1.out]
  go_wp2_with fail
  refine C1.out.mono ?_
  rintro e w2 ⟨rfl, ao2, cap2, d2, t2, g2⟩
  have t2' := t2.mono (S' := PB x) (fun k _ hk => .inl hk)
  have B2 := Q1.out.2.1.kept t2' nb.out
  have O2 := Q1.out.2.2.kept t2' no.out
  have p1' := B2.c1
  have o2' := O2.c2
  rw [← HXT.out] at o2'
  have C2 := hide' (rappend_ok (Q1.out.1.rk1 t2) o.t (by rw [mk_len]; exact h) (Nat.le_trans HB1.out.2 t2.size))
  rw [← HXT.out, mk_app Q1.out.1.dk.hs] at C2
  have D2 := hide' (And.intro d2 (And.intro t2 g2))
  clear d2 t2 g2 t2' B2 O2 C1 p0 p1 o0 o2 o3
  go_wp2_with fail
  refine C2.out.mono ?_
  rintro e w3 ⟨rfl, H3⟩
  have K3 : Hid (PT B x w w3) := hide' (by
    obtain ⟨ar', cr', r3⟩ := H3.out
    exact PT.from HB1.out.1 (PT.app Q1.out.1 D2.out.1 D2.out.2.1 D2.out.2.2 r3))
  clear H3 C2 D2
  go_wp2
  go_ret
  exact ⟨rfl, K3⟩
set_option maxRecDepth 100000 in
set_option maxHeartbeats 4000000 in
theorem one_full (q : Pr B x w) (o : O4) (hB : B ≤ w.heap.size) (hk : o.k = 1) (h : x.room - x.l.length < (o.t.length : Int)) : Calls Try.prog 8 #[.agg #[.pointer (some ⟨x.p, 0, none⟩), .pointer (some ⟨x.r, 0, none⟩)], .agg #[.int .i64 o.k, .int .i64 o.d, .string (sb o.t), .int .i64 o.n]] w fun e w' => e = .returned (.bool true) ∧ Hid (PT B x w w') := by
  obtain ⟨XT, hXT⟩ : ∃ A, A = sb o.t := ⟨_, rfl⟩
  have HXT := hide' hXT
  obtain ⟨w0, hw0⟩ : ∃ w0, w0 = w.alloc (.cells #[.pointer (some ⟨x.p, 0, none⟩), .pointer (some ⟨x.r, 0, none⟩)] 29) := ⟨_, rfl⟩
  obtain ⟨w1, hw1⟩ : ∃ w1, w1 = w0.alloc (.cells #[.int .i64 o.k, .int .i64 o.d, .string XT, .int .i64 o.n] 37) := ⟨_, rfl⟩
  obtain ⟨bx, hbx⟩ : ∃ x, x = w.heap.size := ⟨_, rfl⟩
  obtain ⟨ob, hob⟩ : ∃ x, x = w.heap.size + 1 := ⟨_, rfl⟩
  have hb0 : Below w.heap.size w w0 := by rw [hw0]; exact (Below.refl _ _).alloc (Nat.le_refl _) _
  have hb1 : Below w.heap.size w w1 := by rw [hw1]; exact hb0.alloc hb0.size _
  have hsz0 : w0.heap.size = w.heap.size + 1 := by rw [hw0]; simp
  have qb : Bp bx x.p x.r w1 := by
    have q0 : Bp bx x.p x.r w0 := by rw [hw0, hbx]; exact heap_alloc_new _ _
    rw [hw1]; exact q0.below ((Below.refl _ _).alloc (Nat.le_refl _) _)
  have qo : Bo ob o w1 := by
    have := Bo.new o w0
    rw [← hXT, ← hw1, hsz0, ← hob] at this
    exact this
  have q1 := q.below hb1
  have Hbx := hide' hbx
  have Hob := hide' hob
  have Hw1 : Hid (w1 = (w.alloc (.cells #[.pointer (some ⟨x.p, 0, none⟩), .pointer (some ⟨x.r, 0, none⟩)] 29)).alloc (.cells #[.int .i64 o.k, .int .i64 o.d, .string XT, .int .i64 o.n] 37)) := hide' (by rw [hw1, hw0])
  have HB1 := hide' (And.intro hb1 (Nat.le_trans hB hb1.size))
  have Q1 := hide' (And.intro q1 (And.intro qb qo))
  have p0 := qb.c0
  have p1 := qb.c1
  have o0 := qo.c0
  have o2 := qo.c2
  have o3 := qo.c3
  have nb := hide' (q1.not (j := bx) qb (by decide) (by decide) (by decide) (by decide))
  have no := hide' (q1.not (j := ob) qo (by decide) (by decide) (by decide) (by decide))
  rw [← hXT] at o2 ⊢
  clear q hB hw0 hw1 hbx hob hb0 hb1 hsz0 qb qo q1 hXT
  have kb1 : (o.k == 1) = true := by simp [hk]
  clear hk
  have C1 := hide' (append_full Q1.out.1.dk o.t h)
  rw [← HXT.out] at C1
  go_enter Try.func8, Try.ntmps8
  go_wp2_with fail
  rw [← Hob.out, ← Hbx.out, ← Hw1.out]
  go_wp2_with fail
  refine C1.out.mono ?_
  rintro e w2 ⟨rfl, b2⟩
  have B2 := Q1.out.2.1.below b2
  have O2 := Q1.out.2.2.below b2
  have p1' := B2.c1
  have o2' := O2.c2
  rw [← HXT.out] at o2'
  have C2 := hide' (rappend_full (Q1.out.1.below b2).rk o.t (by rw [mk_len]; exact h))
  rw [← HXT.out] at C2
  have D2 := hide' b2
  clear b2 B2 O2 C1 p0 p1 o0 o2 o3
  go_wp2_with fail
  refine C2.out.mono ?_
  rintro e w3 ⟨rfl, b3⟩
  have K3 : Hid (PT B x w w3) := hide' (PT.from HB1.out.1 (PT.same Q1.out.1 (D2.out.trans (b3.mono D2.out.size))))
  clear b3 C2 D2
  go_wp2
  go_ret
  exact ⟨rfl, K3⟩
set_option maxRecDepth 100000 in
set_option maxHeartbeats 4000000 in
theorem one_sync (q : Pr B x w) (o : O4) (hB : B ≤ w.heap.size) (hk : o.k = 2) : Calls Try.prog 8 #[.agg #[.pointer (some ⟨x.p, 0, none⟩), .pointer (some ⟨x.r, 0, none⟩)], .agg #[.int .i64 o.k, .int .i64 o.d, .string (sb o.t), .int .i64 o.n]] w fun e w' => e = .returned (.bool true) ∧ Hid (PT B x w w') := by
  obtain ⟨XT, hXT⟩ : ∃ A, A = sb o.t := ⟨_, rfl⟩
  have HXT := hide' hXT
  obtain ⟨w0, hw0⟩ : ∃ w0, w0 = w.alloc (.cells #[.pointer (some ⟨x.p, 0, none⟩), .pointer (some ⟨x.r, 0, none⟩)] 29) := ⟨_, rfl⟩
  obtain ⟨w1, hw1⟩ : ∃ w1, w1 = w0.alloc (.cells #[.int .i64 o.k, .int .i64 o.d, .string XT, .int .i64 o.n] 37) := ⟨_, rfl⟩
  obtain ⟨bx, hbx⟩ : ∃ x, x = w.heap.size := ⟨_, rfl⟩
  obtain ⟨ob, hob⟩ : ∃ x, x = w.heap.size + 1 := ⟨_, rfl⟩
  have hb0 : Below w.heap.size w w0 := by rw [hw0]; exact (Below.refl _ _).alloc (Nat.le_refl _) _
  have hb1 : Below w.heap.size w w1 := by rw [hw1]; exact hb0.alloc hb0.size _
  have hsz0 : w0.heap.size = w.heap.size + 1 := by rw [hw0]; simp
  have qb : Bp bx x.p x.r w1 := by
    have q0 : Bp bx x.p x.r w0 := by rw [hw0, hbx]; exact heap_alloc_new _ _
    rw [hw1]; exact q0.below ((Below.refl _ _).alloc (Nat.le_refl _) _)
  have qo : Bo ob o w1 := by
    have := Bo.new o w0
    rw [← hXT, ← hw1, hsz0, ← hob] at this
    exact this
  have q1 := q.below hb1
  have Hbx := hide' hbx
  have Hob := hide' hob
  have Hw1 : Hid (w1 = (w.alloc (.cells #[.pointer (some ⟨x.p, 0, none⟩), .pointer (some ⟨x.r, 0, none⟩)] 29)).alloc (.cells #[.int .i64 o.k, .int .i64 o.d, .string XT, .int .i64 o.n] 37)) := hide' (by rw [hw1, hw0])
  have HB1 := hide' (And.intro hb1 (Nat.le_trans hB hb1.size))
  have Q1 := hide' (And.intro q1 (And.intro qb qo))
  have p0 := qb.c0
  have p1 := qb.c1
  have o0 := qo.c0
  have o2 := qo.c2
  have o3 := qo.c3
  have nb := hide' (q1.not (j := bx) qb (by decide) (by decide) (by decide) (by decide))
  have no := hide' (q1.not (j := ob) qo (by decide) (by decide) (by decide) (by decide))
  rw [← hXT] at o2 ⊢
  clear q hB hw0 hw1 hbx hob hb0 hb1 hsz0 qb qo q1 hXT
  have kb1 : (o.k == 1) = false := by simp [hk]
  have kb2 : (o.k == 2) = true := by simp [hk]
  clear hk
  have C1 := hide' (sync_any Q1.out.1.dk)
  go_enter Try.func8, Try.ntmps8
  go_wp2_with fail
  rw [← Hob.out, ← Hbx.out, ← Hw1.out]
  go_wp2_with fail
  refine C1.out.mono ?_
  rintro e w2 ⟨rfl, d2, t2⟩
  have t1' : Turn (DB x.p x.ao) w1 w2 := t2.mono (fun k _ hk => .inl hk)
  have t2' := t1'.mono (S' := PB x) (fun k _ hk => .inl hk)
  have B2 := Q1.out.2.1.kept t2' nb.out
  have p1' := B2.c1
  have C2 := hide' (rsync_any (Q1.out.1.rk1 t1'))
  rw [mk_len, mk_sync] at C2
  have D2 := hide' (And.intro d2 t1')
  clear d2 t2 t1' t2' B2 C1 p0 p1 o0 o2 o3
  go_wp2_with fail
  refine C2.out.mono ?_
  rintro e w3 ⟨rfl, r3⟩
  have K3 : Hid (PT B x w w3) := hide' (PT.from HB1.out.1 (PT.app Q1.out.1 D2.out.1 D2.out.2 (fun j hj => .inl hj) r3))
  clear r3 C2 D2
  go_wp2
  go_ret
  exact ⟨rfl, K3⟩
set_option maxRecDepth 100000 in
set_option maxHeartbeats 4000000 in
theorem one_safe (q : Pr B x w) (o : O4) (hB : B ≤ w.heap.size) (hk : o.k = 4) : Calls Try.prog 8 #[.agg #[.pointer (some ⟨x.p, 0, none⟩), .pointer (some ⟨x.r, 0, none⟩)], .agg #[.int .i64 o.k, .int .i64 o.d, .string (sb o.t), .int .i64 o.n]] w fun e w' => e = .returned (.bool true) ∧ Hid (PT B x w w') := by
  obtain ⟨XT, hXT⟩ : ∃ A, A = sb o.t := ⟨_, rfl⟩
  have HXT := hide' hXT
  obtain ⟨w0, hw0⟩ : ∃ w0, w0 = w.alloc (.cells #[.pointer (some ⟨x.p, 0, none⟩), .pointer (some ⟨x.r, 0, none⟩)] 29) := ⟨_, rfl⟩
  obtain ⟨w1, hw1⟩ : ∃ w1, w1 = w0.alloc (.cells #[.int .i64 o.k, .int .i64 o.d, .string XT, .int .i64 o.n] 37) := ⟨_, rfl⟩
  obtain ⟨bx, hbx⟩ : ∃ x, x = w.heap.size := ⟨_, rfl⟩
  obtain ⟨ob, hob⟩ : ∃ x, x = w.heap.size + 1 := ⟨_, rfl⟩
  have hb0 : Below w.heap.size w w0 := by rw [hw0]; exact (Below.refl _ _).alloc (Nat.le_refl _) _
  have hb1 : Below w.heap.size w w1 := by rw [hw1]; exact hb0.alloc hb0.size _
  have hsz0 : w0.heap.size = w.heap.size + 1 := by rw [hw0]; simp
  have qb : Bp bx x.p x.r w1 := by
    have q0 : Bp bx x.p x.r w0 := by rw [hw0, hbx]; exact heap_alloc_new _ _
    rw [hw1]; exact q0.below ((Below.refl _ _).alloc (Nat.le_refl _) _)
  have qo : Bo ob o w1 := by
    have := Bo.new o w0
    rw [← hXT, ← hw1, hsz0, ← hob] at this
    exact this
  have q1 := q.below hb1
  have Hbx := hide' hbx
  have Hob := hide' hob
  have Hw1 : Hid (w1 = (w.alloc (.cells #[.pointer (some ⟨x.p, 0, none⟩), .pointer (some ⟨x.r, 0, none⟩)] 29)).alloc (.cells #[.int .i64 o.k, .int .i64 o.d, .string XT, .int .i64 o.n] 37)) := hide' (by rw [hw1, hw0])
  have HB1 := hide' (And.intro hb1 (Nat.le_trans hB hb1.size))
  have Q1 := hide' (And.intro q1 (And.intro qb qo))
  have p0 := qb.c0
  have p1 := qb.c1
  have o0 := qo.c0
  have o2 := qo.c2
  have o3 := qo.c3
  have nb := hide' (q1.not (j := bx) qb (by decide) (by decide) (by decide) (by decide))
  have no := hide' (q1.not (j := ob) qo (by decide) (by decide) (by decide) (by decide))
  rw [← hXT] at o2 ⊢
  clear q hB hw0 hw1 hbx hob hb0 hb1 hsz0 qb qo q1 hXT
  have kb1 : (o.k == 1) = false := by simp [hk]
  have kb2 : (o.k == 2) = false := by simp [hk]
  have kb3 : (o.k == 3) = false := by simp [hk]
  have kb4 : (o.k == 4) = true := by simp [hk]
  clear hk
  have C1 := hide' (fun n => safe_any (Q1.out.1.below (below_drewN w1 n)).dk)
  have C2 := hide' (fun n => rsafe_any (Q1.out.1.below (below_drewN w1 n)).rk Q1.out.1.dk.hs)
  go_enter Try.func8, Try.ntmps8
  go_wp2_with fail
  rw [← Hob.out, ← Hbx.out, ← Hw1.out]
  go_wp2_with fail
  go_quiet ((first | exact Calls.quiet_of_same (C1.out _) | exact Calls.quiet_of_same (C2.out _)))
  have K3 : Hid (PT B x w (w1.drewN nq)) := hide' (PT.from HB1.out.1 (PT.same Q1.out.1 (below_drewN _ _)))
  clear C1 C2
  go_wp2
  go_ret
  exact ⟨rfl, K3⟩
set_option maxRecDepth 100000 in
set_option maxHeartbeats 4000000 in
theorem one_bytes (q : Pr B x w) (o : O4) (hB : B ≤ w.heap.size) (hk : o.k = 3) : Calls Try.prog 8 #[.agg #[.pointer (some ⟨x.p, 0, none⟩), .pointer (some ⟨x.r, 0, none⟩)], .agg #[.int .i64 o.k, .int .i64 o.d, .string (sb o.t), .int .i64 o.n]] w fun e w' => e = .returned (.bool true) ∧ Hid (PT B x w w') := by
  obtain ⟨XT, hXT⟩ : ∃ A, A = sb o.t := ⟨_, rfl⟩
  have HXT := hide' hXT
  obtain ⟨w0, hw0⟩ : ∃ w0, w0 = w.alloc (.cells #[.pointer (some ⟨x.p, 0, none⟩), .pointer (some ⟨x.r, 0, none⟩)] 29) := ⟨_, rfl⟩
  obtain ⟨w1, hw1⟩ : ∃ w1, w1 = w0.alloc (.cells #[.int .i64 o.k, .int .i64 o.d, .string XT, .int .i64 o.n] 37) := ⟨_, rfl⟩
  obtain ⟨bx, hbx⟩ : ∃ x, x = w.heap.size := ⟨_, rfl⟩
  obtain ⟨ob, hob⟩ : ∃ x, x = w.heap.size + 1 := ⟨_, rfl⟩
  have hb0 : Below w.heap.size w w0 := by rw [hw0]; exact (Below.refl _ _).alloc (Nat.le_refl _) _
  have hb1 : Below w.heap.size w w1 := by rw [hw1]; exact hb0.alloc hb0.size _
  have hsz0 : w0.heap.size = w.heap.size + 1 := by rw [hw0]; simp
  have qb : Bp bx x.p x.r w1 := by
    have q0 : Bp bx x.p x.r w0 := by rw [hw0, hbx]; exact heap_alloc_new _ _
    rw [hw1]; exact q0.below ((Below.refl _ _).alloc (Nat.le_refl _) _)
  have qo : Bo ob o w1 := by
    have := Bo.new o w0
    rw [← hXT, ← hw1, hsz0, ← hob] at this
    exact this
  have q1 := q.below hb1
  have Hbx := hide' hbx
  have Hob := hide' hob
  have Hw1 : Hid (w1 = (w.alloc (.cells #[.pointer (some ⟨x.p, 0, none⟩), .pointer (some ⟨x.r, 0, none⟩)] 29)).alloc (.cells #[.int .i64 o.k, .int .i64 o.d, .string XT, .int .i64 o.n] 37)) := hide' (by rw [hw1, hw0])
  have HB1 := hide' (And.intro hb1 (Nat.le_trans hB hb1.size))
  have Q1 := hide' (And.intro q1 (And.intro qb qo))
  have p0 := qb.c0
  have p1 := qb.c1
  have o0 := qo.c0
  have o2 := qo.c2
  have o3 := qo.c3
  have nb := hide' (q1.not (j := bx) qb (by decide) (by decide) (by decide) (by decide))
  have no := hide' (q1.not (j := ob) qo (by decide) (by decide) (by decide) (by decide))
  rw [← hXT] at o2 ⊢
  clear q hB hw0 hw1 hbx hob hb0 hb1 hsz0 qb qo q1 hXT
  have kb1 : (o.k == 1) = false := by simp [hk]
  have kb2 : (o.k == 2) = false := by simp [hk]
  have kb3 : (o.k == 3) = true := by simp [hk]
  clear hk
  obtain ⟨A, hA⟩ : ∃ A, A = sb x.l := ⟨_, rfl⟩
  have CB1 : Hid (∀ V, Below w1.heap.size w1 V → Calls Try.prog 10 #[.pointer (some ⟨x.p, 0, none⟩)] V fun e w' => e = .returned (.string A) ∧ w' = V) := hide' (fun V b => by rw [hA]; exact bytes_any (Q1.out.1.below b).dk)
  have CB2 : Hid (∀ V, Below w1.heap.size w1 V → Calls Try.prog 11 #[.pointer (some ⟨x.r, 0, none⟩)] V fun e w' => e = .returned (.string A) ∧ Below V.heap.size V w') := hide' (fun V b => by rw [hA]; exact rbytes_any (Q1.out.1.below b).rk Q1.out.1.dk.hs)
  have lb : bx < w1.heap.size := lt_of_heap Q1.out.2.1
  have lo : ob < w1.heap.size := lt_of_heap Q1.out.2.2
  clear hA
  go_enter Try.func8, Try.ntmps8
  go_wp2_with fail
  rw [← Hob.out, ← Hbx.out, ← Hw1.out]
  go_wp2_with fail
  go_region_held3 (fun w' => w'.cell? ⟨bx, 0, none⟩ = some (.pointer (some ⟨x.p, 0, none⟩)) ∧ w'.cell? ⟨bx, 1, none⟩ = some (.pointer (some ⟨x.r, 0, none⟩))) (first | go_keep | exact ⟨k0, k1⟩) ((first | (go_at_call 10; refine (CB1.out _ ?_).mono ?_; exact (Below.refl _ _).drew; rintro e w2 ⟨rfl, rfl⟩) | (go_at_call 11; refine (CB2.out _ ?_).mono ?_; exact (Below.refl _ _).drew; rintro e w3 ⟨rfl, b3⟩; have k0 := (b3.cell (p := ⟨bx, 0, none⟩) lb).trans p0; have k1 := (b3.cell (p := ⟨bx, 1, none⟩) lb).trans p1)))
  have K3 : Hid (PT B x w w3) := hide' (PT.from HB1.out.1 (PT.same Q1.out.1 ((Below.refl _ _).drew.trans b3)))
  clear CB1 CB2
  go_wp2
  go_ret
  exact ⟨rfl, K3⟩
set_option maxRecDepth 100000 in
set_option maxHeartbeats 4000000 in
theorem one_cut (q : Pr B x w) (o : O4) (hB : B ≤ w.heap.size) (hk : o.k = 5) (hn : I64 o.n) : Calls Try.prog 8 #[.agg #[.pointer (some ⟨x.p, 0, none⟩), .pointer (some ⟨x.r, 0, none⟩)], .agg #[.int .i64 o.k, .int .i64 o.d, .string (sb o.t), .int .i64 o.n]] w fun e w' => e = .returned (.bool true) ∧ Hid (PT B x w w') := by
  obtain ⟨XT, hXT⟩ : ∃ A, A = sb o.t := ⟨_, rfl⟩
  have HXT := hide' hXT
  obtain ⟨w0, hw0⟩ : ∃ w0, w0 = w.alloc (.cells #[.pointer (some ⟨x.p, 0, none⟩), .pointer (some ⟨x.r, 0, none⟩)] 29) := ⟨_, rfl⟩
  obtain ⟨w1, hw1⟩ : ∃ w1, w1 = w0.alloc (.cells #[.int .i64 o.k, .int .i64 o.d, .string XT, .int .i64 o.n] 37) := ⟨_, rfl⟩
  obtain ⟨bx, hbx⟩ : ∃ x, x = w.heap.size := ⟨_, rfl⟩
  obtain ⟨ob, hob⟩ : ∃ x, x = w.heap.size + 1 := ⟨_, rfl⟩
  have hb0 : Below w.heap.size w w0 := by rw [hw0]; exact (Below.refl _ _).alloc (Nat.le_refl _) _
  have hb1 : Below w.heap.size w w1 := by rw [hw1]; exact hb0.alloc hb0.size _
  have hsz0 : w0.heap.size = w.heap.size + 1 := by rw [hw0]; simp
  have qb : Bp bx x.p x.r w1 := by
    have q0 : Bp bx x.p x.r w0 := by rw [hw0, hbx]; exact heap_alloc_new _ _
    rw [hw1]; exact q0.below ((Below.refl _ _).alloc (Nat.le_refl _) _)
  have qo : Bo ob o w1 := by
    have := Bo.new o w0
    rw [← hXT, ← hw1, hsz0, ← hob] at this
    exact this
  have q1 := q.below hb1
  have Hbx := hide' hbx
  have Hob := hide' hob
  have Hw1 : Hid (w1 = (w.alloc (.cells #[.pointer (some ⟨x.p, 0, none⟩), .pointer (some ⟨x.r, 0, none⟩)] 29)).alloc (.cells #[.int .i64 o.k, .int .i64 o.d, .string XT, .int .i64 o.n] 37)) := hide' (by rw [hw1, hw0])
  have HB1 := hide' (And.intro hb1 (Nat.le_trans hB hb1.size))
  have Q1 := hide' (And.intro q1 (And.intro qb qo))
  have p0 := qb.c0
  have p1 := qb.c1
  have o0 := qo.c0
  have o2 := qo.c2
  have o3 := qo.c3
  have nb := hide' (q1.not (j := bx) qb (by decide) (by decide) (by decide) (by decide))
  have no := hide' (q1.not (j := ob) qo (by decide) (by decide) (by decide) (by decide))
  rw [← hXT] at o2 ⊢
  clear q hB hw0 hw1 hbx hob hb0 hb1 hsz0 qb qo q1 hXT
  have kb1 : (o.k == 1) = false := by simp [hk]
  have kb2 : (o.k == 2) = false := by simp [hk]
  have kb3 : (o.k == 3) = false := by simp [hk]
  have kb4 : (o.k == 4) = false := by simp [hk]
  have kb5 : (o.k == 5) = true := by simp [hk]
  clear hk
  obtain ⟨A, hA⟩ : ∃ A, A = sb (x.l.take (kp x.s x.l.length o.n)) := ⟨_, rfl⟩
  have CB1 : Hid (∀ V, Below w1.heap.size w1 V → Calls Try.prog 14 #[.pointer (some ⟨x.p, 0, none⟩), .int .i64 o.n] V fun e w' => e = .returned (.string A) ∧ Below V.heap.size V w') := hide' (fun V b => by rw [hA]; exact cut_any (Q1.out.1.below b).dk o.n)
  have CB2 : Hid (∀ V, Below w1.heap.size w1 V → Calls Try.prog 15 #[.pointer (some ⟨x.r, 0, none⟩), .int .i64 o.n] V fun e w' => e = .returned (.string A) ∧ Below V.heap.size V w') := hide' (fun V b => by rw [hA]; exact rcut_any (Q1.out.1.below b).rk Q1.out.1.dk.hs o.n hn)
  have lb : bx < w1.heap.size := lt_of_heap Q1.out.2.1
  have lo : ob < w1.heap.size := lt_of_heap Q1.out.2.2
  clear hA
  go_enter Try.func8, Try.ntmps8
  go_wp2_with fail
  rw [← Hob.out, ← Hbx.out, ← Hw1.out]
  go_wp2_with fail
  go_region_held3 (fun w' => w'.cell? ⟨bx, 0, none⟩ = some (.pointer (some ⟨x.p, 0, none⟩)) ∧ w'.cell? ⟨bx, 1, none⟩ = some (.pointer (some ⟨x.r, 0, none⟩)) ∧ w'.cell? ⟨ob, 3, none⟩ = some (.int .i64 o.n)) (first | go_keep | exact ⟨m0, m1, m3⟩ | exact ⟨k0, k1, k3⟩) ((first | (go_at_call 14; refine (CB1.out _ ?_).mono ?_; exact (Below.refl _ _).drew; rintro e w2 ⟨rfl, b2⟩; have k0 := (b2.cell (p := ⟨bx, 0, none⟩) lb).trans p0; have k1 := (b2.cell (p := ⟨bx, 1, none⟩) lb).trans p1; have k3 := (b2.cell (p := ⟨ob, 3, none⟩) lo).trans o3; have L2 := b2.size) | (go_at_call 15; refine (CB2.out _ ?_).mono ?_; exact ((Below.refl _ _).drew.trans b2); rintro e w3 ⟨rfl, b3⟩; have m0 := (b3.cell (p := ⟨bx, 0, none⟩) (Nat.lt_of_lt_of_le lb L2)).trans k0; have m1 := (b3.cell (p := ⟨bx, 1, none⟩) (Nat.lt_of_lt_of_le lb L2)).trans k1; have m3 := (b3.cell (p := ⟨ob, 3, none⟩) (Nat.lt_of_lt_of_le lo L2)).trans k3)))
  have K3 : Hid (PT B x w w3) := hide' (PT.from HB1.out.1 (PT.same Q1.out.1 (((Below.refl _ _).drew.trans b2).trans (b3.mono b2.size))))
  clear CB1 CB2
  go_wp2
  go_ret
  exact ⟨rfl, K3⟩
set_option maxRecDepth 100000 in
set_option maxHeartbeats 4000000 in
theorem one_none (q : Pr B x w) (o : O4) (hB : B ≤ w.heap.size) (hk : o.k ≠ 1 ∧ o.k ≠ 2 ∧ o.k ≠ 3 ∧ o.k ≠ 4 ∧ o.k ≠ 5) : Calls Try.prog 8 #[.agg #[.pointer (some ⟨x.p, 0, none⟩), .pointer (some ⟨x.r, 0, none⟩)], .agg #[.int .i64 o.k, .int .i64 o.d, .string (sb o.t), .int .i64 o.n]] w fun e w' => e = .returned (.bool true) ∧ Hid (PT B x w w') := by
  obtain ⟨XT, hXT⟩ : ∃ A, A = sb o.t := ⟨_, rfl⟩
  have HXT := hide' hXT
  obtain ⟨w0, hw0⟩ : ∃ w0, w0 = w.alloc (.cells #[.pointer (some ⟨x.p, 0, none⟩), .pointer (some ⟨x.r, 0, none⟩)] 29) := ⟨_, rfl⟩
  obtain ⟨w1, hw1⟩ : ∃ w1, w1 = w0.alloc (.cells #[.int .i64 o.k, .int .i64 o.d, .string XT, .int .i64 o.n] 37) := ⟨_, rfl⟩
  obtain ⟨bx, hbx⟩ : ∃ x, x = w.heap.size := ⟨_, rfl⟩
  obtain ⟨ob, hob⟩ : ∃ x, x = w.heap.size + 1 := ⟨_, rfl⟩
  have hb0 : Below w.heap.size w w0 := by rw [hw0]; exact (Below.refl _ _).alloc (Nat.le_refl _) _
  have hb1 : Below w.heap.size w w1 := by rw [hw1]; exact hb0.alloc hb0.size _
  have hsz0 : w0.heap.size = w.heap.size + 1 := by rw [hw0]; simp
  have qb : Bp bx x.p x.r w1 := by
    have q0 : Bp bx x.p x.r w0 := by rw [hw0, hbx]; exact heap_alloc_new _ _
    rw [hw1]; exact q0.below ((Below.refl _ _).alloc (Nat.le_refl _) _)
  have qo : Bo ob o w1 := by
    have := Bo.new o w0
    rw [← hXT, ← hw1, hsz0, ← hob] at this
    exact this
  have q1 := q.below hb1
  have Hbx := hide' hbx
  have Hob := hide' hob
  have Hw1 : Hid (w1 = (w.alloc (.cells #[.pointer (some ⟨x.p, 0, none⟩), .pointer (some ⟨x.r, 0, none⟩)] 29)).alloc (.cells #[.int .i64 o.k, .int .i64 o.d, .string XT, .int .i64 o.n] 37)) := hide' (by rw [hw1, hw0])
  have HB1 := hide' (And.intro hb1 (Nat.le_trans hB hb1.size))
  have Q1 := hide' (And.intro q1 (And.intro qb qo))
  have p0 := qb.c0
  have p1 := qb.c1
  have o0 := qo.c0
  have o2 := qo.c2
  have o3 := qo.c3
  have nb := hide' (q1.not (j := bx) qb (by decide) (by decide) (by decide) (by decide))
  have no := hide' (q1.not (j := ob) qo (by decide) (by decide) (by decide) (by decide))
  rw [← hXT] at o2 ⊢
  clear q hB hw0 hw1 hbx hob hb0 hb1 hsz0 qb qo q1 hXT
  have kb1 : (o.k == 1) = false := by simp; omega
  have kb2 : (o.k == 2) = false := by simp; omega
  have kb3 : (o.k == 3) = false := by simp; omega
  have kb4 : (o.k == 4) = false := by simp; omega
  have kb5 : (o.k == 5) = false := by simp; omega
  clear hk
  have K3 : Hid (PT B x w w1) := hide' (PT.from HB1.out.1 (PT.same Q1.out.1 (Below.refl _ _)))
  go_enter Try.func8, Try.ntmps8
  go_wp2_with fail
  rw [← Hob.out, ← Hbx.out, ← Hw1.out]
  go_wp2
  go_ret
  exact ⟨rfl, K3⟩
theorem one_any (q : Pr B x w) (o : O4) (hB : B ≤ w.heap.size) (hn : I64 o.n) : Calls Try.prog 8 #[.agg #[.pointer (some ⟨x.p, 0, none⟩), .pointer (some ⟨x.r, 0, none⟩)], .agg #[.int .i64 o.k, .int .i64 o.d, .string (sb o.t), .int .i64 o.n]] w fun e w' => e = .returned (.bool true) ∧ Hid (PT B x w w') := by
  by_cases h1 : o.k = 1
  · by_cases h : (o.t.length : Int) ≤ x.room - x.l.length
    · exact one_app q o hB h1 h
    · exact one_full q o hB h1 (by omega)
  · by_cases h2 : o.k = 2
    · exact one_sync q o hB h2
    · by_cases h3 : o.k = 3
      · exact one_bytes q o hB h3
      · by_cases h4 : o.k = 4
        · exact one_safe q o hB h4
        · by_cases h5 : o.k = 5
          · exact one_cut q o hB h5 hn
          · exact one_none q o hB ⟨h1, h2, h3, h4, h5⟩
end K
end Go.Proofs.Ytdhdcpppilacmaa
