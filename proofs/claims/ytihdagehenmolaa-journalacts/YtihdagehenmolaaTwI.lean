import Derived.Test.YtihdagehenmolaaTwH
set_option linter.unusedVariables false
set_option linter.unusedSimpArgs false
namespace Go.Proofs.Ytihdagehenmolaa
open Go.RowKit
namespace J
open M K
variable {B t d jb : Nat} {room : Int} {es : List En} {s : Nat} {ao : Option Addr} {cap : Nat} {lo : Option Addr} {lc : Nat} {w w' : World}
set_option maxRecDepth 100000 in
set_option maxHeartbeats 4000000 in
theorem act3 (x : En) (q : Lv B t d jb room es s ao cap lo lc w) : Calls Try.prog 20 #[.pointer (some ⟨t, 0, none⟩), .agg #[.int .i64 3, .int .i64 x.v, .string (sb x.t)]] w fun r w' => r = .returned (.bool true) ∧ AT B t (LB t d jb ao lo) w w' := by
  obtain ⟨v, hv⟩ : ∃ v, v = x.v := ⟨_, rfl⟩
  obtain ⟨T, hT⟩ : ∃ T, T = sb x.t := ⟨_, rfl⟩
  obtain ⟨w1, hw1⟩ : ∃ w1, w1 = w.alloc (BA 3 x) := ⟨_, rfl⟩
  obtain ⟨bx, hbx⟩ : ∃ x, x = w.heap.size := ⟨_, rfl⟩
  have b1 : Below w.heap.size w w1 := by rw [hw1]; exact below_al w _
  have x1 : Bk bx 3 x w1 := by rw [hw1, hbx]; exact heap_alloc_new w _
  have q1 := q.below b1
  have c1 := q1.c.2.1
  have o0 := x1.c.1
  obtain ⟨lv, hlv⟩ : ∃ v, v = (lst es).v := ⟨_, rfl⟩
  obtain ⟨lT, hlT⟩ : ∃ T, T = sb (lst es).t := ⟨_, rfl⟩
  obtain ⟨bb, hbb⟩ : ∃ b, b = decide (0 < (lst es).v) := ⟨_, rfl⟩
  have C1 := hide' (last_any q1.jn)
  have C2 : Hid (∀ W, Below w.heap.size w W → _) := hide' (fun W (b : Below w.heap.size w W) => rlast_any (q.below b))
  have C4 : Hid (∀ W, Below w.heap.size w W → _) := hide' (fun W (b : Below w.heap.size w W) => looks_any (q.below b))
  simp only [← hbb, ← hlv, ← hlT] at C1 C2
  have K1 := hide' (And.intro q b1)
  have Hw1 : Hid (w1 = w.alloc (.cells #[.int .i64 3, .int .i64 v, .string T] 47)) := hide' (by rw [hw1, hv, hT]; rfl)
  have Hbx := hide' hbx
  rw [← hv, ← hT]
  clear q b1 x1 q1 hv hT hw1 hbx hlv hlT hbb
  go_enter Try.func20, Try.ntmps20
  go_upto_region 1 with fail
  rw [← Hw1.out, ← Hbx.out]
  clear Hw1 Hbx
  go_wp2_with fail
  refine C1.out.mono ?_
  rintro e w2 ⟨rfl, b2⟩
  obtain ⟨y, hy⟩ : ∃ x, x = w2.heap.size := ⟨_, rfl⟩
  obtain ⟨w3, hw3⟩ : ∃ w3, w3 = w2.alloc (.cells #[.int .i64 lv, .string lT] 24) := ⟨_, rfl⟩
  have b3 : Below w.heap.size w w3 := by rw [hw3]; exact (K1.out.2.trans (b2.mono K1.out.2.size)).trans ((below_al w2 _).mono (Nat.le_trans K1.out.2.size b2.size))
  have y3 : w3.heap[y]? = some (.cells #[.int .i64 lv, .string lT] 24) := by rw [hw3, hy]; exact heap_alloc_new _ _
  have c1' := (K1.out.1.below b3).c.2.1
  have C3 := hide' (C2.out w3 b3)
  rw [hw3] at c1' C3
  have K3 := hide' (And.intro hy (And.intro hw3 (And.intro b3 y3)))
  clear b2 C1 C2 hy hw3 b3 y3 c1 o0
  go_wp2_with fail
  refine C3.out.mono ?_
  rintro e w4 ⟨rfl, b4⟩
  rw [← K3.out.2.1] at b4
  rw [← K3.out.1]
  obtain ⟨u, hu⟩ : ∃ x, x = w4.heap.size := ⟨_, rfl⟩
  obtain ⟨w5, hw5⟩ : ∃ w3, w3 = w4.alloc (.cells #[.int .i64 lv, .string lT] 24) := ⟨_, rfl⟩
  have b5 : Below w3.heap.size w3 w5 := by rw [hw5]; exact b4.trans ((below_al w4 _).mono b4.size)
  have y5 : w5.heap[y]? = some (.cells #[.int .i64 lv, .string lT] 24) := (b5.block y (lt_of_heap K3.out.2.2.2)).trans K3.out.2.2.2
  have u5 : w5.heap[u]? = some (.cells #[.int .i64 lv, .string lT] 24) := by rw [hw5, hu]; exact heap_alloc_new _ _
  have b5' : Below w.heap.size w w5 := K3.out.2.2.1.trans (b5.mono K3.out.2.2.1.size)
  have z0 := Lib.cell_of_heap y5 0
  have z1 := Lib.cell_of_heap y5 1
  have z2 := Lib.cell_of_heap u5 0
  have z3 := Lib.cell_of_heap u5 1
  have c15 := (K1.out.1.below b5').c.2.1
  have D1 := hide' (C4.out w5 b5')
  have K5 := hide' (And.intro hu (And.intro hw5 b5'))
  clear b4 C3 c1' hu hw5 b5 y5 u5 b5' C4
  go_upto_region 15 with fail
  rw [← K5.out.2.1, ← K5.out.1]
  go_wp2_with fail
  refine D1.out.mono ?_
  rintro e w6 ⟨rfl, b6⟩
  have K6 : Hid (AT B t (LB t d jb ao lo) w w6) := hide' (K1.out.1.same (K5.out.2.2.trans (b6.mono K5.out.2.2.size)))
  clear b6 D1
  go_wp2
  go_ret
  exact ⟨rfl, K6.out⟩
theorem act_live (k : Int) (x : En) (q : Lv B t d jb room es s ao cap lo lc w) (hB : B ≤ w.heap.size) : Calls Try.prog 20 #[.pointer (some ⟨t, 0, none⟩), .agg #[.int .i64 k, .int .i64 x.v, .string (sb x.t)]] w fun r w' => r = .returned (.bool true) ∧ AT B t (LB t d jb ao lo) w w' := by
  by_cases h1 : k = 1
  · subst h1
    by_cases hx : frc x = 0
    · by_cases hr : ((rcd x).length : Int) ≤ room - (recs es).length
      · exact act1_ok x (ok_frc hx) q hB hr
      · exact act1_full x (ok_frc hx) q (by omega)
    · exact act1_bad x hx q
  · by_cases h2 : k = 2
    · subst h2; exact act2 x q
    · by_cases h3 : k = 3
      · subst h3; exact act3 x q
      · by_cases h4 : k = 4
        · subst h4; exact act4 x q hB
        · exact act0 k h1 h2 h3 h4 x q
theorem act_any (k : Int) (x : En) {S : Nat → Prop} (q : Sd B t S w) (hB : B ≤ w.heap.size) : Calls Try.prog 20 #[.pointer (some ⟨t, 0, none⟩), .agg #[.int .i64 k, .int .i64 x.v, .string (sb x.t)]] w fun r w' => r = .returned (.bool true) ∧ AT B t S w w' := by
  rcases q.now with h | ⟨d, jb, room, es, s, ao, cap, lo, lc, h1, h2⟩
  · exact act_dead k x q h
  · refine (act_live k x h1 hB).mono fun r w' ⟨e, S', a, b, c⟩ => ⟨e, S', a, b.mono (fun j _ hj => h2 j hj), fun j hj => (c j hj).imp (h2 j) id⟩
end J
end Go.Proofs.Ytihdagehenmolaa
