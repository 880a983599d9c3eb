import Derived.Test.YtihdagehenmolaaTwA
set_option linter.unusedVariables false
set_option linter.unusedSimpArgs false
namespace Go.Proofs.Ytihdagehenmolaa
open Go.RowKit
namespace J
open M K
variable {B t d jb : Nat} {room : Int} {es : List En} {s : Nat} {ao : Option Addr} {cap : Nat} {lo : Option Addr} {lc : Nat} {w w' : World}
set_option maxRecDepth 100000 in
set_option maxHeartbeats 4000000 in
theorem looks_any (q : Lv B t d jb room es s ao cap lo lc w) : Calls Try.prog 21 #[.pointer (some ⟨t, 0, none⟩)] w fun r w' => r = .returned (.bool true) ∧ Below w.heap.size w w' := by
  obtain ⟨v, hv⟩ : ∃ v, v = (lst es).v := ⟨_, rfl⟩
  obtain ⟨T, hT⟩ : ∃ T, T = sb (lst es).t := ⟨_, rfl⟩
  obtain ⟨bb, hbb⟩ : ∃ b, b = decide (0 < (lst es).v) := ⟨_, rfl⟩
  obtain ⟨R, hR⟩ : ∃ R, R = sb (recs es) := ⟨_, rfl⟩
  have c1 := q.c.2.1
  have C1 := hide' (last_any q.jn)
  have C2 : Hid (∀ W, Below w.heap.size w W → _) := hide' (fun W (b : Below w.heap.size w W) => rlast_any (q.below b))
  have HQ := hide' q
  simp only [← hbb, ← hv, ← hT] at C1 C2
  have HR := hide' hR
  clear q hv hT hbb hR
  go_enter Try.func21, Try.ntmps21
  go_wp2_with fail
  refine C1.out.mono ?_
  rintro e w1 ⟨rfl, b1⟩
  obtain ⟨x, hx⟩ : ∃ x, x = w1.heap.size := ⟨_, rfl⟩
  obtain ⟨w2, hw2⟩ : ∃ w2, w2 = w1.alloc (.cells #[.int .i64 v, .string T] 24) := ⟨_, rfl⟩
  have b2 : Below w.heap.size w w2 := by rw [hw2]; exact b1.trans ((below_al w1 _).mono b1.size)
  have x2 : w2.heap[x]? = some (.cells #[.int .i64 v, .string T] 24) := by rw [hw2, hx]; exact heap_alloc_new _ _
  have c1' := (HQ.out.below b2).c.2.1
  have C3 := hide' (C2.out w2 b2)
  rw [hw2] at c1' C3
  have K2 := hide' (And.intro hx (And.intro hw2 (And.intro b2 x2)))
  clear b1 C1 C2 hx hw2 b2 x2 c1
  go_wp2_with fail
  refine C3.out.mono ?_
  rintro e w3 ⟨rfl, b3⟩
  rw [← K2.out.2.1] at b3
  rw [← K2.out.1]
  obtain ⟨y, hy⟩ : ∃ x, x = w3.heap.size := ⟨_, rfl⟩
  obtain ⟨w4, hw4⟩ : ∃ w2, w2 = w3.alloc (.cells #[.int .i64 v, .string T] 24) := ⟨_, rfl⟩
  have b4 : Below w2.heap.size w2 w4 := by rw [hw4]; exact b3.trans ((below_al w3 _).mono b3.size)
  have x4 : w4.heap[x]? = some (.cells #[.int .i64 v, .string T] 24) := (b4.block x (lt_of_heap K2.out.2.2.2)).trans K2.out.2.2.2
  have y4 : w4.heap[y]? = some (.cells #[.int .i64 v, .string T] 24) := by rw [hw4, hy]; exact heap_alloc_new _ _
  have q4 := (HQ.out.below (K2.out.2.2.1.trans (b4.mono K2.out.2.2.1.size)))
  have c4 := q4.c
  rw [← HR.out] at c4
  obtain ⟨d0, d1, d2, d3, d4, d5⟩ := c4
  have z0 := Lib.cell_of_heap x4 0
  have z1 := Lib.cell_of_heap x4 1
  have z2 := Lib.cell_of_heap y4 0
  have z3 := Lib.cell_of_heap y4 1
  have D1 := hide' (fun n => bytes_any (q4.below (below_drewN w4 n)).dk)
  have D2 := hide' (fun n => safe_any (q4.below (below_drewN w4 n)).dk)
  simp only [← HR.out] at D1
  have K4 := hide' (And.intro hy (And.intro hw4 (K2.out.2.2.1.trans (b4.mono K2.out.2.2.1.size))))
  clear b3 C3 c1' hy hw4 b4 x4 y4 q4
  go_wp2_with fail
  rw [← K4.out.2.1, ← K4.out.1]
  go_quiet ((first | exact Calls.quiet_of_same (D1.out _) | exact Calls.quiet_of_same (D2.out _)))
  have K5 := hide' (K4.out.2.2.trans ((below_drewN w4 nq).mono K4.out.2.2.size))
  clear D1 D2
  go_wp2
  go_ret
  exact ⟨by simp, K5.out⟩
end J
end Go.Proofs.Ytihdagehenmolaa
