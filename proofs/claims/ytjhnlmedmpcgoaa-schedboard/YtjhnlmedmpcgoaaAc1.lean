import Derived.Test.YtjhnlmedmpcgoaaRbn
set_option linter.unusedVariables false
set_option linter.unusedSimpArgs false
namespace Go.Proofs.Ytjhnlmedmpcgoaa
open Go.RowKit
namespace Q
open C (Tk)
variable {D U : Nat → Prop} {B K : Nat} {m : Mr} {w w' w1 : World} {s : Sq} {Db : Nat → Prop} {P E : Nat → Nat → Prop}
def BA (k n : Int) : Obj := .cells #[.int .i64 k, .int .i64 n] 50
/-- which, as a number -/
def wv (k : Int) (n : Nat) : Nat := if Int.tmod k (n : Int) < 0 then (Int.tmod k (n : Int) + (n : Int)).toNat else (Int.tmod k (n : Int)).toNat
theorem tm (k : Int) (n : Nat) (hn : 0 < n) : -(n : Int) < Int.tmod k (n : Int) ∧ Int.tmod k (n : Int) < (n : Int) := by
  have h1 : -(n : Int) < Int.tmod k (n : Int) := by
    have := Int.tmod_lt_of_pos (-k) (show (0 : Int) < n by omega)
    rw [Int.neg_tmod] at this
    omega
  exact ⟨h1, Int.tmod_lt_of_pos k (by omega)⟩
theorem wv_lt (k : Int) (n : Nat) (hn : 0 < n) : wv k n < n := by
  obtain ⟨h1, h2⟩ := tm k n hn
  unfold wv
  split <;> omega
set_option maxRecDepth 100000 in
set_option maxHeartbeats 400000 in
theorem which_is (k : Int) (n : Nat) (hn : 0 < n) (hl : n ≤ 9000000000000000) (w : World) : Calls Try.prog 32 #[.int .i64 k, .int .i64 (n : Int)] w fun e w' => e = .returned (.int .i64 (wv k n : Nat)) ∧ w' = w := by
  have h0 : ¬ (n : Int) = 0 := by omega
  obtain ⟨h1, h2⟩ := tm k n hn
  have hw : IntKind.i64.wrap (Int.tmod k (n : Int)) = Int.tmod k (n : Int) := by rw [IntKind.wrap_i64]; omega
  have HW : Hid (wv k n = if Int.tmod k (n : Int) < 0 then (Int.tmod k (n : Int) + (n : Int)).toNat else (Int.tmod k (n : Int)).toNat) := hide' rfl
  obtain ⟨m, hm⟩ : ∃ m, Int.tmod k (n : Int) = m := ⟨_, rfl⟩
  have HM := hide' hm
  rw [hm] at h1 h2 hw HW
  have e2 : wrap64 (m + (n : Int)) = m + (n : Int) := wrap_in (by omega) (by omega)
  have H12 := hide' (And.intro h1 h2)
  rcases Int.lt_or_le m 0 with h3 | h3
  · have H3 := hide' h3
    clear h1 h2 hl hn
    go_enter Try.func32, Try.ntmps32
    go_wp2_with fail
    go_ret
    have h := H12.out
    refine ⟨?_, rfl⟩
    rw [HW.out, if_pos H3.out, show (((m + (n : Int)).toNat : Nat) : Int) = m + (n : Int) by omega]
    show Ending.returned (.int .i64 (wrap64 (m + (n : Int)))) = _
    rw [e2]
  · have h3' : ¬ m < 0 := by omega
    have H3 := hide' h3'
    clear h1 h2 hl hn
    go_enter Try.func32, Try.ntmps32
    go_wp2_with fail
    go_ret
    have h := H12.out
    refine ⟨?_, rfl⟩
    rw [HW.out, if_neg (Int.not_lt.2 H3.out), show ((m.toNat : Nat) : Int) = m by omega]
    rfl
theorem box_new (k n : Int) (w : World) : (w.alloc (BA k n)).heap[w.heap.size]? = some (BA k n) := heap_alloc_new _ _
theorem below_box (k n : Int) (w : World) : Below w.heap.size w (w.alloc (BA k n)) := (Below.refl _ _).alloc (Nat.le_refl _) _
/-- what an act leaves, from a table at rest -/
def AQ (K B : Nat) (s : Sq) (U : Nat → Prop) (w w' : World) : Prop := ∃ s', s'.t = s.t ∧ Rest (K + 1) s' ∧ To B s' U w w'
theorem AQ.idle (h : Tb B s Db P E w) (r : Rest K s) (b : Below w.heap.size w w') : AQ K B s (Sb s Db P E) w w' := ⟨s, rfl, r.more (Nat.le_succ K), h.same b⟩
set_option maxRecDepth 100000 in
set_option maxHeartbeats 4000000 in
theorem act0 (k n : Int) (h1 : ¬ k = 1) (h2 : ¬ k = 2) (h3 : ¬ k = 3) (h4 : ¬ k = 4) (h5 : ¬ k = 5) (h6 : ¬ k = 6) (h7 : ¬ k = 7) (h8 : ¬ k = 8) (h : Tb B s Db P E w) (r : Rest K s) :
    Calls Try.prog 22 #[.pointer (some ⟨s.t, 0, none⟩), .agg #[.int .i64 k, .int .i64 n]] w fun e w' => e = .returned (.bool true) ∧ AQ K B s (Sb s Db P E) w w' := by
  have b1 := below_box k n w
  have x1 := box_new k n w
  have KQ := hide' (AQ.idle h r b1)
  have t1 := h.below b1
  have c1 := t1.c 1
  have o0 : (w.alloc (BA k n)).cell? ⟨w.heap.size, 0, none⟩ = some (.int .i64 k) := by rw [Lib.cell_of_heap x1]; rfl
  obtain ⟨w1, hw1⟩ : ∃ w1, w1 = w.alloc (BA k n) := ⟨_, rfl⟩
  obtain ⟨x, hx⟩ : ∃ x, x = w.heap.size := ⟨_, rfl⟩
  rw [← hw1] at c1 o0 KQ
  rw [← hx] at o0
  have Hw1 : Hid (w1 = w.alloc (.cells #[.int .i64 k, .int .i64 n] 50)) := hide' hw1
  have Hx := hide' hx
  have g1 : (k == 1) = false := beq_false_of_ne h1
  have g2 : (k == 2) = false := beq_false_of_ne h2
  have g3 : (k == 3) = false := beq_false_of_ne h3
  have g4 : (k == 4) = false := beq_false_of_ne h4
  have g5 : (k == 5) = false := beq_false_of_ne h5
  have g6 : (k == 6) = false := beq_false_of_ne h6
  have g7 : (k == 7) = false := beq_false_of_ne h7
  have g8 : (k == 8) = false := beq_false_of_ne h8
  replace c1 : w1.cell? ⟨s.t, 1, none⟩ = some (.slice s.rm.a s.vm.length s.rm.c) := c1
  clear h r b1 x1 t1 hw1 hx h1 h2 h3 h4 h5 h6 h7 h8
  generalize s.vm.length = n0 at *
  go_enter Try.func22, Try.ntmps22
  go_upto_region 1 with fail
  rw [← Hw1.out, ← Hx.out]
  clear Hw1 Hx
  go_wp2
  go_ret
  exact ⟨rfl, KQ.out⟩
/-- what stands behind the act's box -/
theorem at_box (k n : Int) (h : Tb B s Db P E w) : ∃ w1 x, Hid (w1 = w.alloc (.cells #[.int .i64 k, .int .i64 n] 50)) ∧ Hid (x = w.heap.size) ∧ Below w.heap.size w w1 ∧ w1.heap[x]? = some (BA k n) ∧ Tb B s Db P E w1 ∧ w1.cell? ⟨s.t, 0, none⟩ = some (.pointer (some ⟨s.b, 0, none⟩)) ∧ w1.cell? ⟨s.t, 1, none⟩ = some (.slice s.rm.a s.vm.length s.rm.c) ∧ w1.cell? ⟨s.t, 3, none⟩ = some (.int .i64 (s.dn : Nat)) ∧ w1.cell? ⟨x, 0, none⟩ = some (.int .i64 k) ∧ w1.cell? ⟨x, 1, none⟩ = some (.int .i64 n) ∧ ¬ Sb s Db P E x := by
  have x1 := box_new k n w
  have t1 := h.below (below_box k n w)
  refine ⟨_, _, hide' rfl, hide' rfl, below_box k n w, x1, t1, t1.c 0, t1.c 1, t1.c 3, (Lib.cell_of_heap x1 0).trans rfl, (Lib.cell_of_heap x1 1).trans rfl, fun q => ?_⟩
  have := (h.bnd q).2
  omega
set_option maxRecDepth 100000 in
set_option maxHeartbeats 4000000 in
theorem act4 (n : Int) (h : Tb B s Db P E w) (r : Rest K s) :
    Calls Try.prog 22 #[.pointer (some ⟨s.t, 0, none⟩), .agg #[.int .i64 4, .int .i64 n]] w fun e w' => e = .returned (.bool true) ∧ AQ K B s (Sb s Db P E) w w' := by
  obtain ⟨w1, x, Hw1, Hx, b1, x1, t1, c0, c1, c3, o0, o1, _⟩ := at_box 4 n h
  have KQ := hide' (AQ.idle h r b1)
  have HC := hide' (C.join_nil (b := s.b) w1)
  clear h r b1 x1 t1 c3
  generalize s.vm.length = n0 at *
  go_enter Try.func22, Try.ntmps22
  go_upto_region 1 with fail
  rw [← Hw1.out, ← Hx.out]
  clear Hw1 Hx
  go_wp2_with fail
  refine HC.out.mono ?_
  rintro e w2 ⟨rfl, rfl⟩
  go_wp2
  go_ret
  exact ⟨rfl, KQ.out⟩
set_option maxRecDepth 100000 in
set_option maxHeartbeats 4000000 in
theorem act6 (n : Int) (h : Tb B s Db P E w) (r : Rest K s) :
    Calls Try.prog 22 #[.pointer (some ⟨s.t, 0, none⟩), .agg #[.int .i64 6, .int .i64 n]] w fun e w' => e = .returned (.bool true) ∧ AQ K B s (Sb s Db P E) w w' := by
  obtain ⟨w1, x, Hw1, Hx, b1, x1, t1, c0, c1, c3, o0, o1, _⟩ := at_box 6 n h
  have KQ : Hid (∀ m, AQ K B s (Sb s Db P E) w (w1.drewN m)) := hide' (fun m => AQ.idle h r (bel_drewN b1 m))
  have HC : Hid (∀ m, Calls Try.prog 36 #[.pointer (some ⟨s.b, 0, none⟩)] (w1.drewN m) fun e w' => e = .returned (.int .i64 (s.dn : Nat)) ∧ w' = w1.drewN m) := hide' (fun m => by rw [← r.nw]; exact C.now_any (t1.below (bel_drewN (Below.refl _ _) m)).bo)
  clear h r b1 x1 t1
  generalize s.vm.length = n0 at *
  generalize s.dn = dn at *
  go_enter Try.func22, Try.ntmps22
  go_upto_region 1 with fail
  rw [← Hw1.out, ← Hx.out]
  clear Hw1 Hx
  go_wp2_with fail
  go_quiet ((go_at_call 36; exact Calls.quiet_of_same (HC.out _)))
  go_wp2
  go_ret
  exact ⟨by simp, KQ.out _⟩
set_option maxRecDepth 100000 in
set_option maxHeartbeats 4000000 in
theorem act7 (n : Int) (h : Tb B s Db P E w) (r : Rest K s) :
    Calls Try.prog 22 #[.pointer (some ⟨s.t, 0, none⟩), .agg #[.int .i64 7, .int .i64 n]] w fun e w' => e = .returned (.bool true) ∧ AQ K B s (Sb s Db P E) w w' := by
  obtain ⟨w1, x, Hw1, Hx, b1, x1, t1, c0, c1, c3, o0, o1, _⟩ := at_box 7 n h
  have KQ : Hid (∀ m, AQ K B s (Sb s Db P E) w (w1.drewN m)) := hide' (fun m => AQ.idle h r (bel_drewN b1 m))
  obtain ⟨v, hv⟩ : ∃ v, v = eT s.T n := ⟨_, rfl⟩
  have HC : Hid (∀ m, Calls Try.prog 35 #[.pointer (some ⟨s.b, 0, none⟩), .int .i64 n] (w1.drewN m) fun e w' => e = .returned (.int .i64 v) ∧ w' = w1.drewN m) := hide' (fun m => by rw [hv, ← r.ends]; exact C.ended_any n (t1.below (bel_drewN (Below.refl _ _) m)).bo)
  have HD : Hid (∀ m, Calls Try.prog 44 #[.pointer (some ⟨s.t, 1, none⟩), .int .i64 n] (w1.drewN m) fun e w' => e = .returned (.int .i64 v) ∧ w' = w1.drewN m) := hide' (fun m => by rw [hv]; exact rended_any n (t1.below (bel_drewN (Below.refl _ _) m)))
  clear h r b1 x1 t1 c3 hv
  generalize s.vm.length = n0 at *
  go_enter Try.func22, Try.ntmps22
  go_upto_region 1 with fail
  rw [← Hw1.out, ← Hx.out]
  clear Hw1 Hx
  go_wp2_with fail
  go_quiet ((first | (go_at_call 35; exact Calls.quiet_of_same (HC.out _)) | (go_at_call 44; exact Calls.quiet_of_same (HD.out _))))
  go_wp2
  go_ret
  exact ⟨by simp, KQ.out _⟩
set_option maxRecDepth 100000 in
set_option maxHeartbeats 4000000 in
theorem act3 (n : Int) (h : Tb B s Db P E w) (r : Rest K s) (hB : B ≤ w.heap.size) (hK : K < 9000000000000000) :
    Calls Try.prog 22 #[.pointer (some ⟨s.t, 0, none⟩), .agg #[.int .i64 3, .int .i64 n]] w fun e w' => e = .returned (.bool true) ∧ AQ K B s (Sb s Db P E) w w' := by
  obtain ⟨w1, x, Hw1, Hx, b1, x1, t1, c0, c1, c3, o0, o1, _⟩ := at_box 3 n h
  have hl := r.vl
  have hN := r.kN
  by_cases h0 : s.vm.length = 0
  · have KQ := hide' (AQ.idle h r b1)
    rw [h0] at c1
    clear h r b1 x1 t1 c3 hl hN h0
    go_enter Try.func22, Try.ntmps22
    go_upto_region 1 with fail
    rw [← Hw1.out, ← Hx.out]
    clear Hw1 Hx
    go_wp2
    go_ret
    exact ⟨rfl, KQ.out⟩
  · obtain ⟨N, hNN⟩ : ∃ N, N = s.vm.length := ⟨_, rfl⟩
    rw [← hNN] at c1 hl h0
    have HC := hide' (which_is n N (by omega) (by omega) w1)
    obtain ⟨i, hi⟩ : ∃ i, i = wv n N := ⟨_, rfl⟩
    have hlt := wv_lt n N (by omega)
    rw [← hi] at HC hlt
    have HJ := hide' (joined_any i t1 r (Nat.le_trans hB b1.size) (by omega))
    have KB := hide' b1
    have gg : ((N : Int) == 0) = false := beq_false_of_ne (by omega)
    clear h r b1 x1 t1 c3 hl hN h0 hNN hi hlt hB hK
    go_enter Try.func22, Try.ntmps22
    go_upto_region 1 with fail
    rw [← Hw1.out, ← Hx.out]
    clear Hw1 Hx
    go_wp2_with fail
    refine HC.out.mono ?_
    rintro e w2 ⟨rfl, rfl⟩
    go_wp2_with fail
    refine HJ.out.mono ?_
    rintro e w3 ⟨rfl, s', e1, e2, e3⟩
    have KQ : Hid (AQ K B s (Sb s Db P E) w w3) := hide' ⟨s', e1, e2.more (Nat.le_succ K), e3.from KB.out⟩
    clear e1 e2 e3 HJ HC
    go_wp2
    go_ret
    exact ⟨rfl, KQ.out⟩
end Q
end Go.Proofs.Ytjhnlmedmpcgoaa
