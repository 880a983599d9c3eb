import Derived.Test.YtddkdakelcohgaaNbS
set_option linter.unusedVariables false
set_option linter.unusedSimpArgs false
namespace Go.Proofs.Ytddkdakelcohgaa
open Go.RowKit Go.Sort
namespace Nb
open Th Hp Dh
variable {B nb h ob : Nat} {o : Int} {zs zs' : List (Int × Nat)} {n n' : Nat} {ds ds' : List (Int × Int)} {P : Nat → Prop} {L : List (Int × Nat × Int)} {w w' : World}
theorem popNone (k : PN B nb h ob o [] n [] P w) : (Calls Try.prog 55 #[.pointer (some ⟨h, 0, none⟩)] w fun e w' => e = .returned (.tuple #[.int .i64 0, .bool false]) ∧ Below w.heap.size w w') ∧ (Calls Try.prog 26 #[.pointer (some ⟨nb, 2, none⟩)] w fun e w' => e = .returned (.tuple #[.agg #[.int .i64 0, .int .i64 0], .bool false]) ∧ Below w.heap.size w w') ∧ (Calls Try.prog 54 #[.pointer (some ⟨h, 0, none⟩)] w fun e w' => e = .returned (.tuple #[.int .i64 0, .bool false]) ∧ Below w.heap.size w w') ∧ (Calls Try.prog 62 #[.pointer (some ⟨nb, 2, none⟩)] w fun e w' => e = .returned (.tuple #[.agg #[.int .i64 0, .int .i64 0], .bool false]) ∧ Below w.heap.size w w') := by
  obtain ⟨D, ao, cap, k, hp⟩ := k
  exact ⟨HI.pop_none k.H, Dh.pop_none k.E, HI.peek_none k.H, Dh.peek_none k.E⟩
theorem peekSome (k : PN B nb h ob o zs n ds P w) {z : Int × Nat} (hz : zs[0]? = some z) {i : Nat} {y : Int × Int} (hi : Fl ds i) (hy : ds[i]? = some y) (hl : ds.length ≤ 1099511627776) : (Calls Try.prog 54 #[.pointer (some ⟨h, 0, none⟩)] w fun e w' => e = .returned (.tuple #[.int .i64 z.1, .bool true]) ∧ Below w.heap.size w w') ∧ (Calls Try.prog 62 #[.pointer (some ⟨nb, 2, none⟩)] w fun e w' => e = .returned (.tuple #[.agg #[.int .i64 y.1, .int .i64 y.2], .bool true]) ∧ Below w.heap.size w w') := by
  obtain ⟨D, ao, cap, k, hp⟩ := k
  exact ⟨HI.peek_some k.H hz, Dh.peek_some k.E hi hy hl⟩
set_option maxRecDepth 100000 in
set_option maxHeartbeats 4000000 in
/-- two calls of which neither changes anything, Pop of nothing or Peek -/
theorem one_quiet2 (d : Int) (hd : d = 2 ∨ d = 3) (k : PN B nb h ob o zs n ds P w) (c : Cp (rk o) zs n ds L) (hq : ∀ q ∈ L, q.1 = q.2.2) (hp x : Int) (v r : Int) (bb : Bool)
    (C1 : ∀ W, Below w.heap.size w W → Calls Try.prog (if d = 2 then 55 else 54) #[.pointer (some ⟨h, 0, none⟩)] W fun e w' => e = .returned (.tuple #[.int .i64 v, .bool bb]) ∧ Below W.heap.size W w')
    (C2 : ∀ W, Below w.heap.size w W → Calls Try.prog (if d = 2 then 26 else 62) #[.pointer (some ⟨nb, 2, none⟩)] W fun e w' => e = .returned (.tuple #[.agg #[.int .i64 r, .int .i64 v], .bool bb]) ∧ Below W.heap.size W w') :
    Calls Try.prog 16 #[.pointer (some ⟨nb, 0, none⟩), .agg #[.int .i64 d, .int .i64 hp, .int .i64 x]] w fun e w' => e = .returned (.bool true) ∧ CT B nb h ob o n L.length P w w' := by
  obtain ⟨q0, hq0⟩ : ∃ q, q = w.heap.size := ⟨_, rfl⟩
  obtain ⟨w1, hw1⟩ : ∃ w1, w1 = w.alloc (.cells #[.int .i64 d, .int .i64 hp, .int .i64 x] 37) := ⟨_, rfl⟩
  have hb1 : Below w.heap.size w w1 := by rw [hw1]; exact (Below.refl _ _).alloc (Nat.le_refl _) _
  have hk1 : w1.heap[q0]? = some (.cells #[.int .i64 d, .int .i64 hp, .int .i64 x] 37 (0, 0)) := by rw [hw1, hq0]; exact heap_alloc_new w _
  have x0 : w1.cell? ⟨q0, 0, none⟩ = some (.int .i64 d) := by rw [Lib.cell_of_heap hk1]; rfl
  obtain ⟨c0, c1, hnb, hPn⟩ := (k.below hb1).cells
  have HC1 := hide' C1
  have HC2 := hide' C2
  have HK := hide' (And.intro k (And.intro c (And.intro hq hb1)))
  have Hw := hide' (And.intro hw1 hq0)
  clear k c hq hb1 hk1 hw1 hq0 hnb hPn c0 C1 C2
  rcases hd with rfl | rfl
  · simp only [if_true] at HC1 HC2
    go_enter Try.func16, Try.ntmps16
    go_upto_region 1 with fail
    rw [← Hw.out.1, ← Hw.out.2]
    clear Hw
    go_wp2_with fail
    refine (HC1.out _ HK.out.2.2.2).mono ?_
    rintro e w7 ⟨rfl, b7⟩
    have B7 := hide' (HK.out.2.2.2.trans (b7.mono HK.out.2.2.2.size))
    clear b7 x0 c1 HC1
    go_wp2_with fail
    refine (HC2.out _ B7.out).mono ?_
    rintro e w8 ⟨rfl, b8⟩
    have B8 := hide' (B7.out.trans (b8.mono B7.out.size))
    clear b8 HC2 B7
    go_wp2
    go_ret
    exact ⟨by simp, CT.same HK.out.1 HK.out.2.1 HK.out.2.2.1 (B8.out.alloc B8.out.size _)⟩
  · simp only [show ¬ ((3 : Int) = 2) by omega, if_false] at HC1 HC2
    go_enter Try.func16, Try.ntmps16
    go_upto_region 1 with fail
    rw [← Hw.out.1, ← Hw.out.2]
    clear Hw
    go_wp2_with fail
    refine (HC1.out _ HK.out.2.2.2).mono ?_
    rintro e w7 ⟨rfl, b7⟩
    have B7 := hide' (HK.out.2.2.2.trans (b7.mono HK.out.2.2.2.size))
    clear b7 x0 c1 HC1
    go_wp2_with fail
    refine (HC2.out _ B7.out).mono ?_
    rintro e w8 ⟨rfl, b8⟩
    have B8 := hide' (B7.out.trans (b8.mono B7.out.size))
    clear b8 HC2 B7
    go_wp2
    go_ret
    exact ⟨by simp, CT.same HK.out.1 HK.out.2.1 HK.out.2.2.1 (B8.out.alloc B8.out.size _)⟩
theorem one_idle (d : Int) (hd : d = 2 ∧ L.length = 0 ∨ d = 3) (k : PN B nb h ob o zs n ds P w) (c : Cp (rk o) zs n ds L) (hq : ∀ q ∈ L, q.1 = q.2.2) (hp x : Int) (hl : L.length ≤ 1099511627776) :
    Calls Try.prog 16 #[.pointer (some ⟨nb, 0, none⟩), .agg #[.int .i64 d, .int .i64 hp, .int .i64 x]] w fun e w' => e = .returned (.bool true) ∧ CT B nb h ob o n L.length P w w' := by
  obtain ⟨l1, l2⟩ := c.len
  by_cases h0 : L.length = 0
  · obtain rfl : zs = [] := List.length_eq_zero_iff.1 (by omega)
    obtain rfl : ds = [] := List.length_eq_zero_iff.1 (by omega)
    refine one_quiet2 d (hd.imp (fun a => a.1) id) k c hq hp x 0 0 false (fun W b => ?_) (fun W b => ?_)
    · have := popNone (k.below b)
      split
      · exact this.1
      · exact this.2.2.1
    · have := popNone (k.below b)
      split
      · exact this.2.1
      · exact this.2.2.2
  · have hd3 : d = 3 := hd.elim (fun a => absurd a.2 h0) id
    subst hd3
    obtain ⟨z, hz⟩ : ∃ z, zs[0]? = some z := ⟨_, List.getElem?_eq_getElem (by omega)⟩
    obtain ⟨i, hi⟩ := fl_some (ds := ds) (by omega)
    obtain ⟨q, hqL, hqz, hqd⟩ := c.pop hz hi
    have hid : z.1 = q.2.2 := by rw [← hqz]; exact hq q (List.mem_of_getElem? hqL)
    have hqd' : ds[i]? = some (rk o q.1, z.1) := by rw [hid]; exact hqd
    refine one_quiet2 3 (.inr rfl) k c hq hp x z.1 (rk o q.1) true (fun W b => ?_) (fun W b => ?_)
    · exact (peekSome (k.below b) hz hi hqd' (by omega)).1
    · exact (peekSome (k.below b) hz hi hqd' (by omega)).2
set_option maxRecDepth 100000 in
set_option maxHeartbeats 4000000 in
theorem one_len (k : PN B nb h ob o zs n ds P w) (c : Cp (rk o) zs n ds L) (hq : ∀ q ∈ L, q.1 = q.2.2) (hp x : Int) :
    Calls Try.prog 16 #[.pointer (some ⟨nb, 0, none⟩), .agg #[.int .i64 4, .int .i64 hp, .int .i64 x]] w fun e w' => e = .returned (.bool true) ∧ CT B nb h ob o n L.length P w w' := by
  obtain ⟨q0, hq0⟩ : ∃ q, q = w.heap.size := ⟨_, rfl⟩
  obtain ⟨w1, hw1⟩ : ∃ w1, w1 = w.alloc (.cells #[.int .i64 4, .int .i64 hp, .int .i64 x] 37) := ⟨_, rfl⟩
  have hb1 : Below w.heap.size w w1 := by rw [hw1]; exact (Below.refl _ _).alloc (Nat.le_refl _) _
  have hk1 : w1.heap[q0]? = some (.cells #[.int .i64 4, .int .i64 hp, .int .i64 x] 37 (0, 0)) := by rw [hw1, hq0]; exact heap_alloc_new w _
  have x0 : w1.cell? ⟨q0, 0, none⟩ = some (.int .i64 4) := by rw [Lib.cell_of_heap hk1]; rfl
  have k1 := k.below hb1
  obtain ⟨c0, c1, hnb, hPn⟩ := k1.cells
  obtain ⟨l1, l2⟩ := c.len
  have HK := hide' (And.intro k (And.intro c (And.intro hq hb1)))
  obtain ⟨D, ao, cap, kk, hpp⟩ := k1
  have c2 := kk.E.c
  obtain ⟨N, hN⟩ : ∃ N, N = L.length := ⟨_, rfl⟩
  rw [l2, ← hN] at c2
  have CS : Hid (∀ W, Below w1.heap.size w1 W → Calls Try.prog 17 #[.pointer (some ⟨h, 0, none⟩)] W fun e w' => e = .returned (.int .i64 (N : Nat)) ∧ w' = W) := hide' (fun W b => by
    have := HI.len_any (kk.H.below b)
    rw [l1, ← hN] at this
    exact this)
  have Hw := hide' (And.intro hw1 hq0)
  clear k c hq hb1 hk1 hw1 hq0 hnb hPn c0 kk hpp l1 l2 hN
  go_enter Try.func16, Try.ntmps16
  go_upto_region 1 with fail
  rw [← Hw.out.1, ← Hw.out.2]
  clear Hw
  go_wp2_with fail
  go_quiet ((go_at_call 17; exact Calls.quiet_of_same (CS.out _ (by first | exact (Below.refl _ _) | exact (Below.refl _ _).drew | exact bel_drewN (Below.refl _ _) _))))
  go_wp2
  go_ret
  refine ⟨by simp, CT.same HK.out.1 HK.out.2.1 HK.out.2.2.1 (bel_drewN HK.out.2.2.2 _)⟩
end Nb
end Go.Proofs.Ytddkdakelcohgaa
