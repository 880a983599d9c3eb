import Derived.Test.YtihdagehenmolaaTwG
set_option linter.unusedVariables false
set_option linter.unusedSimpArgs false
namespace Go.Proofs.Ytihdagehenmolaa
open Go.RowKit
namespace J
open M K
variable {B t d jb : Nat} {room : Int} {es : List En} {s : Nat} {ao : Option Addr} {cap : Nat} {lo : Option Addr} {lc : Nat} {w w' : World}
set_option maxRecDepth 100000 in
set_option maxHeartbeats 2000000 in
theorem act_dead (k : Int) (x : En) {S : Nat → Prop} (q : Sd B t S w) (hd : De t w) : Calls Try.prog 20 #[.pointer (some ⟨t, 0, none⟩), .agg #[.int .i64 k, .int .i64 x.v, .string (sb x.t)]] w fun r w' => r = .returned (.bool true) ∧ AT B t S w w' := by
  obtain ⟨v, hv⟩ : ∃ v, v = x.v := ⟨_, rfl⟩
  obtain ⟨T, hT⟩ : ∃ T, T = sb x.t := ⟨_, rfl⟩
  obtain ⟨w1, hw1⟩ : ∃ w1, w1 = w.alloc (BA k x) := ⟨_, rfl⟩
  have b1 : Below w.heap.size w w1 := by rw [hw1]; exact below_al w _
  obtain ⟨cs, h1, h2⟩ := hd
  have c1 : w1.cell? ⟨t, 1, none⟩ = some (.pointer none) := (Lib.cell_of_heap ((b1.block t (lt_of_heap h1)).trans h1) 1).trans h2
  have K1 : Hid (AT B t S w w1) := hide' ⟨S, q.kept (turn_below (S := fun _ => False) b1) (fun _ _ h => h), turn_below b1, fun j hj => .inl hj⟩
  have Hw1 : Hid (w1 = w.alloc (.cells #[.int .i64 k, .int .i64 v, .string T] 47)) := hide' (by rw [hw1, hv, hT]; rfl)
  rw [← hv, ← hT]
  clear q h1 h2 b1 hv hT hw1
  go_enter Try.func20, Try.ntmps20
  go_upto_region 1 with fail
  rw [← Hw1.out]
  clear Hw1
  go_wp2
  go_ret
  exact ⟨rfl, K1.out⟩
set_option maxRecDepth 100000 in
set_option maxHeartbeats 4000000 in
theorem act4 (x : En) (q : Lv B t d jb room es s ao cap lo lc w) (hB : B ≤ w.heap.size) : Calls Try.prog 20 #[.pointer (some ⟨t, 0, none⟩), .agg #[.int .i64 4, .int .i64 x.v, .string (sb x.t)]] w fun r w' => r = .returned (.bool true) ∧ AT B t (LB t d jb ao lo) w w' := by
  obtain ⟨v, hv⟩ : ∃ v, v = x.v := ⟨_, rfl⟩
  obtain ⟨T, hT⟩ : ∃ T, T = sb x.t := ⟨_, rfl⟩
  obtain ⟨w1, hw1⟩ : ∃ w1, w1 = w.alloc (BA 4 x) := ⟨_, rfl⟩
  obtain ⟨bx, hbx⟩ : ∃ x, x = w.heap.size := ⟨_, rfl⟩
  have b1 : Below w.heap.size w w1 := by rw [hw1]; exact below_al w _
  have x1 : Bk bx 4 x w1 := by rw [hw1, hbx]; exact heap_alloc_new w _
  have q1 := q.below b1
  have c1 := q1.c.2.1
  have o0 := x1.c.1
  have C1 := hide' (open_all q1.hf q.ok (Nat.le_trans hB b1.size))
  have K1 := hide' (And.intro q b1)
  have Hw1 : Hid (w1 = w.alloc (.cells #[.int .i64 4, .int .i64 v, .string T] 47)) := hide' (by rw [hw1, hv, hT]; rfl)
  have Hbx := hide' hbx
  rw [← hv, ← hT]
  clear q b1 x1 q1 hv hT hw1 hbx hB
  go_enter Try.func20, Try.ntmps20
  go_upto_region 1 with fail
  rw [← Hw1.out, ← Hbx.out]
  clear Hw1 Hbx
  go_wp2_with fail
  refine C1.out.mono ?_
  rintro e w2 ⟨rfl, h2⟩
  have K2 : Hid (AT B t (LB t d jb ao lo) w w2) := hide' (by
    obtain ⟨jb', lo', lc', k1, k2, k3, k4⟩ := h2.out
    have hz := K1.out.2.size
    refine AT.lv k1 ((turn_below K1.out.2).trans (k2.mono (fun j _ e => .inl e))) (fun j hj => ?_)
    rcases hj with hj | hj | hj | hj
    · exact .inl (.inl hj)
    · exact .inl (.inr (.inl hj))
    · exact .inr (by omega)
    · exact .inr (by have := k4 j hj; omega))
  clear h2 C1
  go_wp2
  go_ret
  exact ⟨rfl, K2.out⟩
set_option maxRecDepth 100000 in
set_option maxHeartbeats 4000000 in
theorem act0 (k : Int) (h1 : ¬ k = 1) (h2 : ¬ k = 2) (h3 : ¬ k = 3) (h4 : ¬ k = 4) (x : En) (q : Lv B t d jb room es s ao cap lo lc w) : Calls Try.prog 20 #[.pointer (some ⟨t, 0, none⟩), .agg #[.int .i64 k, .int .i64 x.v, .string (sb x.t)]] w fun r w' => r = .returned (.bool true) ∧ AT B t (LB t d jb ao lo) w w' := by
  obtain ⟨v, hv⟩ : ∃ v, v = x.v := ⟨_, rfl⟩
  obtain ⟨T, hT⟩ : ∃ T, T = sb x.t := ⟨_, rfl⟩
  obtain ⟨w1, hw1⟩ : ∃ w1, w1 = w.alloc (BA k x) := ⟨_, rfl⟩
  obtain ⟨bx, hbx⟩ : ∃ x, x = w.heap.size := ⟨_, rfl⟩
  have b1 : Below w.heap.size w w1 := by rw [hw1]; exact below_al w _
  have x1 : Bk bx k x w1 := by rw [hw1, hbx]; exact heap_alloc_new w _
  have q1 := q.below b1
  have c1 := q1.c.2.1
  have o0 := x1.c.1
  have C1 := hide' (looks_any q1)
  have K1 := hide' (And.intro q b1)
  have Hw1 : Hid (w1 = w.alloc (.cells #[.int .i64 k, .int .i64 v, .string T] 47)) := hide' (by rw [hw1, hv, hT]; rfl)
  have Hbx := hide' hbx
  have g1 : (k == 1) = false := beq_false_of_ne h1
  have g2 : (k == 2) = false := beq_false_of_ne h2
  have g3 : (k == 3) = false := beq_false_of_ne h3
  have g4 : (k == 4) = false := beq_false_of_ne h4
  rw [← hv, ← hT]
  clear q b1 x1 q1 hv hT hw1 hbx h1 h2 h3 h4
  go_enter Try.func20, Try.ntmps20
  go_upto_region 1 with fail
  rw [← Hw1.out, ← Hbx.out]
  clear Hw1 Hbx
  go_wp2_with fail
  refine C1.out.mono ?_
  rintro e w2 ⟨rfl, b2⟩
  have K2 : Hid (AT B t (LB t d jb ao lo) w w2) := hide' (K1.out.1.same (K1.out.2.trans (b2.mono K1.out.2.size)))
  clear b2 C1
  go_wp2
  go_ret
  exact ⟨rfl, K2.out⟩
set_option maxRecDepth 100000 in
set_option maxHeartbeats 4000000 in
theorem act2 (x : En) (q : Lv B t d jb room es s ao cap lo lc w) : Calls Try.prog 20 #[.pointer (some ⟨t, 0, none⟩), .agg #[.int .i64 2, .int .i64 x.v, .string (sb x.t)]] w fun r w' => r = .returned (.bool true) ∧ AT B t (LB t d jb ao lo) w w' := by
  obtain ⟨v, hv⟩ : ∃ v, v = x.v := ⟨_, rfl⟩
  obtain ⟨T, hT⟩ : ∃ T, T = sb x.t := ⟨_, rfl⟩
  obtain ⟨w1, hw1⟩ : ∃ w1, w1 = w.alloc (BA 2 x) := ⟨_, rfl⟩
  obtain ⟨bx, hbx⟩ : ∃ x, x = w.heap.size := ⟨_, rfl⟩
  have b1 : Below w.heap.size w w1 := by rw [hw1]; exact below_al w _
  have x1 : Bk bx 2 x w1 := by rw [hw1, hbx]; exact heap_alloc_new w _
  have q1 := q.below b1
  obtain ⟨c0, c1, c2, c3, c4, c5⟩ := q1.c
  have f4 := q1.f 4
  have z := sb_size (recs es)
  obtain ⟨R, hR⟩ : ∃ R, R = sb (recs es) := ⟨_, rfl⟩
  obtain ⟨m, hm⟩ : ∃ m, m = (recs es).length := ⟨_, rfl⟩
  rw [← hR] at c2 z
  rw [← hm] at z
  have o0 := x1.c.1
  obtain ⟨w2, hw2⟩ : ∃ w2, w2 = w1.setCell ⟨t, 4, none⟩ (.int .i64 (m : Int)) := ⟨_, rfl⟩
  have tt : Turn (fun j => j = t) w1 w2 := by rw [hw2]; exact turn_b t 4 _ w1
  have hp2 : w2.heap[t]? = some (.cells #[.pointer (some ⟨d, 0, none⟩), .pointer (some ⟨jb, 0, none⟩), .string (sb (recs es)), .int .i64 room, .int .i64 (m : Int), .slice lo es.length lc] 54 (0, 0)) := by
    rw [hw2, set_block q1.hp]; rfl
  have j2 : Jn jb d (lst es) w2 := q1.jn.kept tt (fun e => cells_ne q1.jn.hp q1.hp (by decide) e)
  have k2 : Dk B d room (recs es) s ao cap w2 := q1.dk.kept tt (dk_nt q1.dk q1.hp)
  have l2 : Es B lo lc es w2 := q1.ls.kept tt (fun g hg e => by
    obtain ⟨_, c, hh⟩ := own_kind q1.ls (own_at hg)
    exact cells_ne hh q1.hp (by decide) e)
  have d1 : w2.cell? ⟨t, 1, none⟩ = some (.pointer (some ⟨jb, 0, none⟩)) := Lib.cell_of_heap hp2 1
  have C1 := hide' (jsync_any j2 k2)
  have K1 := hide' (And.intro q (And.intro b1 (And.intro tt (And.intro hp2 (And.intro j2 (And.intro k2 (And.intro l2 hm)))))))
  have Hw1 : Hid (w1 = w.alloc (.cells #[.int .i64 2, .int .i64 v, .string T] 47)) := hide' (by rw [hw1, hv, hT]; rfl)
  have Hw2 := hide' hw2
  have Hbx := hide' hbx
  rw [← hv, ← hT]
  clear q b1 x1 q1 hv hT hw1 hbx hw2 tt hp2 j2 k2 l2 hR hm
  go_enter Try.func20, Try.ntmps20
  go_upto_region 1 with fail
  rw [← Hw1.out, ← Hbx.out]
  clear Hw1 Hbx
  go_upto_region 10 with fail
  rw [← Hw2.out]
  clear Hw2 c0 c1 c2 c3 c4 c5 f4 o0
  go_wp2_with fail
  refine C1.out.mono ?_
  rintro e w3 ⟨rfl, k3, t3⟩
  have L3 : Lv B t d jb room es m ao cap lo lc w3 := by
    obtain ⟨q, b1, tt, hp2, j2, k2, l2, hm⟩ := K1.out
    refine ⟨(t3.block t (lt_of_heap hp2) (fun e => cells_ne hp2 k2.hp (by decide) e)).trans hp2, by rw [hm]; exact k3, j2.kept t3 (fun e => cells_ne j2.hp k2.hp (by decide) e), l2.kept t3 (fun g hg e => ?_), q.ok, q.hb, q.hj⟩
    obtain ⟨_, c, hh⟩ := own_kind l2 (own_at hg)
    exact cells_ne hh k2.hp (by decide) e
  have T3 : Turn (LB t d jb ao lo) w w3 := (turn_below K1.out.2.1).trans ((K1.out.2.2.1.mono (fun j _ e => .inl e)).trans (t3.mono (fun j _ e => .inr (.inl (.inl e)))))
  have C2 := hide' (looks_any L3)
  have K3 := hide' (And.intro L3 T3)
  clear k3 t3 C1 d1 L3 T3
  go_wp2_with fail
  refine C2.out.mono ?_
  rintro e w4 ⟨rfl, b4⟩
  have K4 : Hid (AT B t (LB t d jb ao lo) w w4) := hide' (AT.lv (K3.out.1.below b4) (K3.out.2.trans (turn_below b4)) (fun j hj => .inl hj))
  clear b4 C2
  go_wp2
  go_ret
  exact ⟨rfl, K4.out⟩
end J
end Go.Proofs.Ytihdagehenmolaa
