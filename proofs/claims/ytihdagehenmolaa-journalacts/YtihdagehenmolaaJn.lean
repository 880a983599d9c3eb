import Derived.Test.YtihdagehenmolaaCtP
set_option linter.unusedVariables false
set_option linter.unusedSimpArgs false
namespace Go.Proofs.Ytihdagehenmolaa
open Go.RowKit
namespace J
open M K
/-- BLOCK b IS A JOURNAL over the disk d: its newest entry -/
structure Jn (b d : Nat) (e : En) (w : World) : Prop where
  hp : w.heap[b]? = some (.cells #[.pointer (some ⟨d, 0, none⟩), .int .i64 e.v, .string (sb e.t)] 79 (0, 0))
variable {b d : Nat} {e : En} {w w' : World}
theorem Jn.c0 (q : Jn b d e w) : w.cell? ⟨b, 0, none⟩ = some (.pointer (some ⟨d, 0, none⟩)) := Lib.cell_of_heap q.hp 0
theorem Jn.c1 (q : Jn b d e w) : w.cell? ⟨b, 1, none⟩ = some (.int .i64 e.v) := Lib.cell_of_heap q.hp 1
theorem Jn.c2 (q : Jn b d e w) : w.cell? ⟨b, 2, none⟩ = some (.string (sb e.t)) := Lib.cell_of_heap q.hp 2
theorem Jn.f (q : Jn b d e w) (j : Nat) : w.frozen? ⟨b, j, none⟩ = false := Lib.frozen_of_heap q.hp j
theorem Jn.lt (q : Jn b d e w) : b < w.heap.size := lt_of_heap q.hp
theorem Jn.below {B : Nat} (q : Jn b d e w) (t : Below B w w') (h : w.heap.size ≤ B) : Jn b d e w' := ⟨(t.block b (Nat.lt_of_lt_of_le q.lt h)).trans q.hp⟩
theorem Jn.kept {S : Nat → Prop} (q : Jn b d e w) (t : Turn S w w') (h : ¬ S b) : Jn b d e w' := ⟨(t.block b q.lt h).trans q.hp⟩
theorem Jn.ne {B d' room l s ao cap} (q : Jn b d e w) (k : Dk B d' room l s ao cap w) : ∀ j, DB d' ao j → j ≠ b := by
  intro j hj hjb
  rcases hj with hj | hj
  · exact cells_ne k.hp q.hp (by decide) (hj.symm.trans hjb)
  · obtain ⟨_, cs, h⟩ := own_kind k.row hj
    exact cells_ne h q.hp (by decide) hjb
/-- the last of a list -/
def lst (es : List En) : En := es.getLast?.getD ⟨0, []⟩
theorem lst_nil : lst [] = ⟨0, []⟩ := rfl
theorem lst_add (es : List En) (e : En) : lst (es ++ [e]) = e := by simp [lst]
theorem lst_at {es : List En} (h : es ≠ []) : es[es.length - 1]? = some (lst es) := by
  unfold lst
  rw [← List.getLast?_eq_getElem?]
  cases q : es.getLast? with
  | none => exact absurd (List.getLast?_eq_none_iff.1 q) h
  | some x => rfl
set_option maxRecDepth 100000 in
set_option maxHeartbeats 1000000 in
theorem last_any (q : Jn b d e w) : Calls Try.prog 31 #[.pointer (some ⟨b, 0, none⟩)] w fun r w' => r = .returned (.tuple #[.agg #[.int .i64 e.v, .string (sb e.t)], .bool (decide (0 < e.v))]) ∧ Below w.heap.size w w' := by
  obtain ⟨W, hW⟩ : ∃ W, W = w.alloc (.cells #[.int .i64 0, .string ⟨#[]⟩] 24) := ⟨_, rfl⟩
  obtain ⟨r, hr⟩ : ∃ r, r = w.heap.size := ⟨_, rfl⟩
  have q1 : Jn b d e W := by rw [hW]; exact q.below (below_al w _) (Nat.le_refl _)
  have c1 := q1.c1
  have c2 := q1.c2
  have hne : ¬ (r = b) := by have := q.lt; omega
  have n0 : W.heap[r]? = some (.cells #[.int .i64 0, .string ⟨#[]⟩] 24 (0, 0)) := by rw [hW, hr]; exact heap_alloc_new w _
  have N0 := hide' n0
  obtain ⟨a0, a1, a2, a3, a4, a5⟩ := new_facts (w := w) n0
  obtain ⟨v, hv⟩ : ∃ v, v = e.v := ⟨_, rfl⟩
  obtain ⟨T, hT⟩ : ∃ T, T = sb e.t := ⟨_, rfl⟩
  rw [← hv] at c1 ⊢
  rw [← hT] at c2 ⊢
  have k1 : ∀ x y, ((W.setCell ⟨r, 0, none⟩ x).setCell ⟨r, 1, none⟩ y).cell? ⟨b, 1, none⟩ = some (.int .i64 v) := fun x y => by
    rw [World.cell?_setCell_other _ _ _ _ (fun q => hne (by injection q)), World.cell?_setCell_other _ _ _ _ (fun q => hne (by injection q))]; exact c1
  have k2 : ∀ x y, ((W.setCell ⟨r, 0, none⟩ x).setCell ⟨r, 1, none⟩ y).cell? ⟨b, 2, none⟩ = some (.string T) := fun x y => by
    rw [World.cell?_setCell_other _ _ _ _ (fun q => hne (by injection q)), World.cell?_setCell_other _ _ _ _ (fun q => hne (by injection q))]; exact c2
  have HW : Hid (Below w.heap.size w W ∧ r = w.heap.size ∧ r ≤ W.heap.size) := hide' ⟨by rw [hW]; exact below_al w _, hr, by rw [hW, hr]; simp⟩
  have HB : Hid (W = w.alloc (.cells #[.int .i64 0, .string ⟨#[]⟩] 24)) := hide' hW
  clear q q1 hv hT n0 hW hr
  go_enter Try.func31, Try.ntmps31
  go_wp2_with fail
  rw [← HB.out, ← HW.out.2.1]
  clear HB
  go_region_held3 (fun w' => w'.cell? ⟨b, 1, none⟩ = some (.int .i64 v) ∧ w'.cell? ⟨b, 2, none⟩ = some (.string T)) (first | exact ⟨c1, c2⟩ | exact ⟨k1 _ _, k2 _ _⟩) (fail)
  rename_i hHeld
  clear hHeld k1 k2 c1 c2 a0 a1 a2 a3 a4 a5
  go_wp2
  refine bodyPost_ret (results_row_tmp rfl _ _ r 24 #[.int .i64 v, .string T] (0, 0) _ rfl (put2 N0.out _ _) Try.underlying24 rfl (by kernel_rfl)) rfl ⟨rfl, ?_⟩
  have := below_put2 HW.out.1 HW.out.2.2 (by rw [HW.out.2.1]; exact Nat.le_refl _) (.int .i64 v) (.string T)
  exact this.trans ⟨rfl, rfl, rfl, Nat.le_refl _, fun _ _ => rfl⟩
set_option maxRecDepth 100000 in
set_option maxHeartbeats 1000000 in
theorem jsync_any {B s cap : Nat} {room : Int} {l : List UInt8} {ao : Option Addr} (q : Jn b d e w) (k : Dk B d room l s ao cap w) : Calls Try.prog 28 #[.pointer (some ⟨b, 0, none⟩)] w fun r w' => r = .returned (.int .i64 0) ∧ Dk B d room l l.length ao cap w' ∧ Turn (fun j => j = d) w w' := by
  have c0 := q.c0
  have C1 := hide' (sync_any k)
  clear q k
  go_enter Try.func28, Try.ntmps28
  go_wp2_with fail
  refine C1.out.mono ?_
  rintro x w1 ⟨rfl, k1, t1⟩
  have K1 := hide' (And.intro k1 t1)
  clear k1 t1 C1 c0
  go_wp2
  go_ret
  exact ⟨rfl, K1.out⟩
set_option maxRecDepth 100000 in
set_option maxHeartbeats 1000000 in
theorem jappend_bad (x : En) (hx : ¬ frc x = 0) (P : Value) (w : World) : Calls Try.prog 27 #[P, .agg #[.int .i64 x.v, .string (sb x.t)]] w fun r w' => r = .returned (.int .i64 (frc x)) ∧ Below w.heap.size w w' := by
  have C1 := hide' (frame_any x (w.alloc (.cells #[.int .i64 x.v, .string (sb x.t)] 24)))
  obtain ⟨v, hv⟩ : ∃ v, v = x.v := ⟨_, rfl⟩
  obtain ⟨T, hT⟩ : ∃ T, T = sb x.t := ⟨_, rfl⟩
  rw [← hv, ← hT] at C1 ⊢
  generalize sb (frs x) = F at *
  generalize frc x = c at *
  have hcb : (c == 0) = false := beq_false_of_ne hx
  clear hv hT
  go_enter Try.func27, Try.ntmps27
  go_wp2_with fail
  refine C1.out.mono ?_
  rintro e w1 ⟨rfl, b1⟩
  have B1 := hide' ((below_al w _).trans (b1.mono (by simp)))
  clear b1 C1
  go_wp2
  go_ret
  exact ⟨rfl, B1.out⟩
/-- what an append leaves -/
structure JTo (B b d : Nat) (room : Int) (l : List UInt8) (s : Nat) (ao : Option Addr) (e : En) (w w' : World) : Prop where
  dk : ∃ ao' cap', Dk B d room l s ao' cap' w' ∧ (∀ j, DB d ao' j → DB d ao j ∨ w.heap.size ≤ j)
  jn : Jn b d e w'
  tu : Turn (fun j => j = b ∨ DB d ao j) w w'
set_option maxRecDepth 100000 in
set_option maxHeartbeats 1000000 in
theorem jappend_full {B s cap : Nat} {room : Int} {l : List UInt8} {ao : Option Addr} (q : Jn b d e w) (k : Dk B d room l s ao cap w) (x : En) (hx : x.ok) (h : room - l.length < (rcd x).length) : Calls Try.prog 27 #[.pointer (some ⟨b, 0, none⟩), .agg #[.int .i64 x.v, .string (sb x.t)]] w fun r w' => r = .returned (.int .i64 210) ∧ Below w.heap.size w w' := by
  have C1 := hide' (frame_ok x hx (w.alloc (.cells #[.int .i64 x.v, .string (sb x.t)] 24)))
  have Q := hide' (And.intro q (And.intro k h))
  obtain ⟨v, hv⟩ : ∃ v, v = x.v := ⟨_, rfl⟩
  obtain ⟨T, hT⟩ : ∃ T, T = sb x.t := ⟨_, rfl⟩
  rw [← hv, ← hT] at C1 ⊢
  obtain ⟨F, hF⟩ : ∃ T, T = sb (rcd x) := ⟨_, rfl⟩
  rw [← hF] at C1
  have HF := hide' hF
  clear hv hT q k h hF
  go_enter Try.func27, Try.ntmps27
  go_wp2_with fail
  refine C1.out.mono ?_
  rintro e w1 ⟨rfl, b1⟩
  have b1' : Below w.heap.size w w1 := (below_al w _).trans (b1.mono (by simp))
  have c0 := (Q.out.1.below b1' (Nat.le_refl _)).c0
  have C2 := hide' (append_full (Q.out.2.1.below b1') (rcd x) Q.out.2.2)
  rw [← HF.out] at C2
  have B1 := hide' b1'
  clear b1 b1' C1
  go_wp2_with fail
  refine C2.out.mono ?_
  rintro e w2 ⟨rfl, b2⟩
  have B2 := hide' (B1.out.trans (b2.mono B1.out.size))
  clear b2 C2 c0
  go_wp2
  go_ret
  exact ⟨rfl, B2.out⟩
theorem set3 {w : World} {b : Nat} {x y z : Value} {t : TypeId} {r : Nat × Nat} (h : w.heap[b]? = some (.cells #[x, y, z] t r)) (v0 v1 : Value) : ((w.setCell ⟨b, 1, none⟩ v0).setCell ⟨b, 2, none⟩ v1).heap[b]? = some (.cells #[x, v0, v1] t r) := by
  rw [set_block (set_block h)]; rfl
set_option maxRecDepth 100000 in
set_option maxHeartbeats 1000000 in
theorem jappend_ok {B s cap : Nat} {room : Int} {l : List UInt8} {ao : Option Addr} (q : Jn b d e w) (k : Dk B d room l s ao cap w) (hB : B ≤ w.heap.size) (x : En) (hx : x.ok) (h : ((rcd x).length : Int) ≤ room - l.length) : Calls Try.prog 27 #[.pointer (some ⟨b, 0, none⟩), .agg #[.int .i64 x.v, .string (sb x.t)]] w fun r w' => r = .returned (.int .i64 0) ∧ JTo B b d room (l ++ rcd x) s ao x w w' := by
  have C1 := hide' (frame_ok x hx (w.alloc (.cells #[.int .i64 x.v, .string (sb x.t)] 24)))
  have Q := hide' (And.intro q (And.intro k (And.intro h hB)))
  have X0 : Hid (Bx w.heap.size x (w.alloc (.cells #[.int .i64 x.v, .string (sb x.t)] 24))) := hide' (heap_alloc_new _ _)
  obtain ⟨v, hv⟩ : ∃ v, v = x.v := ⟨_, rfl⟩
  obtain ⟨T, hT⟩ : ∃ T, T = sb x.t := ⟨_, rfl⟩
  rw [← hv, ← hT] at C1 X0 ⊢
  have HV := hide' (And.intro hv hT)
  obtain ⟨F, hF⟩ : ∃ T, T = sb (rcd x) := ⟨_, rfl⟩
  rw [← hF] at C1
  have HF := hide' hF
  clear hv hT q k h hF hB
  go_enter Try.func27, Try.ntmps27
  go_wp2_with fail
  refine C1.out.mono ?_
  rintro e1 w1 ⟨rfl, b1⟩
  have X1 := X0.out.below b1 (Nat.le_refl _)
  have b1' : Below w.heap.size w w1 := (below_al w _).trans (b1.mono (by simp))
  have c0 := (Q.out.1.below b1' (Nat.le_refl _)).c0
  have C2 := hide' (append_ok (Q.out.2.1.below b1') (rcd x) Q.out.2.2.1 (Nat.le_trans Q.out.2.2.2 b1'.size))
  rw [← HF.out] at C2
  have B1 := hide' (And.intro b1' X1)
  clear b1 b1' C1 X1 X0
  go_wp2_with fail
  refine C2.out.mono ?_
  rintro e2 w2 ⟨rfl, ao', cap', k2, t2, p2⟩
  have q1 := Q.out.1.below B1.out.1 (Nat.le_refl _)
  have k1 := Q.out.2.1.below B1.out.1
  have hnb : ¬ DB d ao b := fun hj => q1.ne k1 b hj rfl
  have q2 : Jn b d e w2 := q1.kept t2 hnb
  have hnx : ¬ DB d ao w.heap.size := fun hj => by
    have := (Q.out.2.1.in hj).2
    omega
  have x2 : Bx w.heap.size x w2 := (t2.block _ (lt_of_heap B1.out.2) hnx).trans B1.out.2
  have g0 := x2.c0
  have g1 := x2.c1
  rw [← HV.out.1] at g0
  rw [← HV.out.2] at g1
  have f1 := q2.f 1
  have f2 := q2.f 2
  have d1 := q2.c1
  have d2 := q2.c2
  have d2' : ∀ y, (w2.setCell ⟨b, 1, none⟩ y).cell? ⟨b, 2, none⟩ = some (.string (sb e.t)) := fun y => (Lib.cell_of_heap (set_block q2.hp) 2).trans rfl
  have f2' : ∀ y, (w2.setCell ⟨b, 1, none⟩ y).frozen? ⟨b, 2, none⟩ = false := fun y => Lib.frozen_of_heap (set_block q2.hp) 2
  have K2 : Hid (JTo B b d room (l ++ rcd x) s ao x w ((w2.setCell ⟨b, 1, none⟩ (.int .i64 v)).setCell ⟨b, 2, none⟩ (.string T))) := hide' (by
    have tb : Turn (fun j => j = b) w2 ((w2.setCell ⟨b, 1, none⟩ (.int .i64 v)).setCell ⟨b, 2, none⟩ (.string T)) := (turn_b b 1 _ w2).trans (turn_b b 2 _ _)
    refine ⟨⟨ao', cap', k2.kept tb (fun j hj hjb => ?_), fun j hj => ?_⟩, ⟨?_⟩, ?_⟩
    · exact q2.ne k2 j hj hjb
    · rcases p2 j hj with h | h
      · exact .inl h
      · exact .inr (Nat.le_trans B1.out.1.size h)
    · rw [HV.out.1, HV.out.2]; exact set3 q2.hp _ _
    · have t0 : Turn (fun j => j = b ∨ DB d ao j) w w1 := turn_below B1.out.1
      exact (t0.trans (t2.mono (fun k _ hk => .inr hk))).trans (tb.mono (fun k _ hk => .inl hk)))
  clear k2 t2 p2 q1 k1 hnb q2 hnx x2 C2 c0 B1
  go_wp2
  go_ret
  exact ⟨rfl, K2.out⟩
end J
end Go.Proofs.Ytihdagehenmolaa
