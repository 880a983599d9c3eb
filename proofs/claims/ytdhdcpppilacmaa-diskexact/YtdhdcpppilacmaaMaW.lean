import Derived.Test.YtdhdcpppilacmaaMaP
set_option linter.unusedVariables false
set_option linter.unusedSimpArgs false
namespace Go.Proofs.Ytdhdcpppilacmaa
open Go.RowKit
namespace K
open M
/-- a disk and the document's: where they lie -/
structure PP where
  p : Nat
  r : Nat
  room : Int
  l : List UInt8
  s : Nat
  ao : Option Addr
  cap : Nat
  ar : Option Addr
  cr : Nat
def PB (x : PP) (j : Nat) : Prop := DB x.p x.ao j ∨ DB x.r x.ar j
structure Pr (B : Nat) (x : PP) (w : World) : Prop where
  dk : Dk B x.p x.room x.l x.s x.ao x.cap w
  rk : Rr B x.r x.room (mk x.l x.s) x.ar x.cr w
variable {B : Nat} {x : PP} {w w' : World}
theorem Pr.below (q : Pr B x w) (b : Below w.heap.size w w') : Pr B x w' := ⟨q.dk.below b, q.rk.below b⟩
theorem Pr.mono {B' : Nat} (q : Pr B x w) (h : B' ≤ B) : Pr B' x w := ⟨q.dk.mono h, q.rk.mono h⟩
theorem Pr.in (q : Pr B x w) {j : Nat} (hj : PB x j) : B ≤ j ∧ j < w.heap.size := by
  rcases hj with hj | hj
  · exact q.dk.in hj
  · exact q.rk.in hj
theorem Pr.kept {S : Nat → Prop} (q : Pr B x w) (t : Turn S w w') (hn : ∀ j, PB x j → ¬ S j) : Pr B x w' := ⟨q.dk.kept t (fun j hj => hn j (.inl hj)), q.rk.kept t (fun j hj => hn j (.inr hj))⟩
theorem Dk.kind {b s cap : Nat} {room : Int} {l : List UInt8} {ao : Option Addr} (q : Dk B b room l s ao cap w) {j : Nat} (hj : DB b ao j) : ∃ cs t, w.heap[j]? = some (.cells cs t (0, 0)) ∧ (t = 54 ∨ t = 5) := by
  rcases hj with rfl | hj
  · exact ⟨_, _, q.hp, .inl rfl⟩
  · obtain ⟨cs, e⟩ := (own_kind q.row hj).2
    exact ⟨cs, _, e, .inr rfl⟩
theorem Rr.kind {c cap : Nat} {room : Int} {ss : List By} {ao : Option Addr} (q : Rr B c room ss ao cap w) {j : Nat} (hj : DB c ao j) : ∃ cs t, w.heap[j]? = some (.cells cs t (0, 0)) ∧ (t = 57 ∨ t = 59) := by
  rcases hj with rfl | hj
  · exact ⟨_, _, q.hp, .inl rfl⟩
  · obtain ⟨cs, e⟩ := (own_kind q.row hj).2
    exact ⟨cs, _, e, .inr rfl⟩
theorem Pr.apart (q : Pr B x w) {j : Nat} (h1 : DB x.p x.ao j) (h2 : DB x.r x.ar j) : False := by
  obtain ⟨c1, t1, e1, k1⟩ := q.dk.kind h1
  obtain ⟨c2, t2, e2, k2⟩ := q.rk.kind h2
  rw [e1] at e2
  cases e2
  rcases k1 with rfl | rfl <;> rcases k2 with k | k <;> cases k
/-- a block of another kind is none of theirs -/
theorem Pr.not (q : Pr B x w) {j : Nat} {cs : Array Value} {t : TypeId} {f : Nat × Nat} (h : w.heap[j]? = some (.cells cs t f)) (n1 : t ≠ 54) (n2 : t ≠ 5) (n3 : t ≠ 57) (n4 : t ≠ 59) : ¬ PB x j := fun hj => by
  rcases hj with hj | hj
  · obtain ⟨c1, t1, e1, k1⟩ := q.dk.kind hj
    rw [h] at e1
    cases e1
    rcases k1 with k | k
    · exact n1 k
    · exact n2 k
  · obtain ⟨c1, t1, e1, k1⟩ := q.rk.kind hj
    rw [h] at e1
    cases e1
    rcases k1 with k | k
    · exact n3 k
    · exact n4 k
/-- what is made: nothing, or a pair -/
def Mk (B : Nat) (pc pr : Option Addr) (w' : World) : Prop := (pc = none ∧ pr = none) ∨ ∃ x : PP, pc = some ⟨x.p, 0, none⟩ ∧ pr = some ⟨x.r, 0, none⟩ ∧ Pr B x w'

set_option maxRecDepth 100000 in
set_option maxHeartbeats 2000000 in
theorem made_fresh (room : Int) (t : List UInt8) (w : World) : Calls Try.prog 7 #[.agg #[.int .i64 room, .bool true, .string (sb t)]] w fun e w' => ∃ pc pr, e = .returned (.tuple #[.agg #[.pointer pc, .pointer pr], .bool true]) ∧ Hid (Below w.heap.size w w' ∧ Mk w.heap.size pc pr w') := by
  obtain ⟨w0, hw0⟩ : ∃ w0, w0 = w.alloc (.cells #[.int .i64 room, .bool true, .string (sb t)] 33) := ⟨_, rfl⟩
  obtain ⟨w1, hw1⟩ : ∃ w1, w1 = w0.alloc (.cells #[.pointer none, .pointer none] 29) := ⟨_, rfl⟩
  have hb0 : Below w.heap.size w w0 := by rw [hw0]; exact (Below.refl _ _).alloc (Nat.le_refl _) _
  have hb1 : Below w.heap.size w w1 := by rw [hw1]; exact hb0.alloc hb0.size _
  obtain ⟨xb, hxb⟩ : ∃ x, x = w.heap.size := ⟨_, rfl⟩
  obtain ⟨x, hx⟩ : ∃ x, x = w.heap.size + 1 := ⟨_, rfl⟩
  have hsz0 : w0.heap.size = w.heap.size + 1 := by rw [hw0]; simp
  have hbb : Bx3 xb room true (sb t) w1 := by
    have q : Bx3 xb room true (sb t) w0 := by rw [hw0, hxb]; exact heap_alloc_new _ _
    rw [hw1]; exact q.below ((Below.refl _ _).alloc (Nat.le_refl _) _)
  have hbx : w1.heap[x]? = some (.cells #[.pointer none, .pointer none] 29 (0, 0)) := by rw [hw1, hx, ← hsz0]; exact heap_alloc_new _ _
  have Hx := hide' hx
  have Hxb := hide' hxb
  have Hw1 : Hid (w1 = (w.alloc (.cells #[.int .i64 room, .bool true, .string (sb t)] 33)).alloc (.cells #[.pointer none, .pointer none] 29)) := hide' (by rw [hw1, hw0])
  have xf0 : w1.cell? ⟨xb, 1, none⟩ = some (.bool true) := by rw [Lib.cell_of_heap hbb]; rfl
  have HBx : Hid (∀ V, Below w1.heap.size w1 V → V.cell? ⟨xb, 0, none⟩ = some (.int .i64 room) ∧ V.cell? ⟨xb, 2, none⟩ = some (.string (sb t)) ∧ V.heap[x]? = some (.cells #[.pointer none, .pointer none] 29 (0, 0)) ∧ Below w.heap.size w V) := hide' (fun V b => ⟨(hbb.below b).c0, (hbb.below b).c2, (b.block x (lt_of_heap hbx)).trans hbx, hb1.trans (b.mono hb1.size)⟩)
  obtain ⟨r0, r2, _, _⟩ := HBx.out w1 (Below.refl _ _)
  by_cases h : code ([] : List UInt8) room = 0
  · have H1 : Hid (∀ V, Calls Try.prog 20 #[.int .i64 room] V fun e w' => ∃ b, e = .returned (.tuple #[.pointer (some ⟨b, 0, none⟩), .int .i64 0]) ∧ Hid (∃ ao cap, Dk V.heap.size b room ([] : List UInt8) (([] : List UInt8)).length ao cap w' ∧ Below V.heap.size V w')) := hide' (fun V => new_ok V h)
    have H2 : Hid (∀ V, Calls Try.prog 21 #[.int .i64 room] V fun e w' => ∃ b, e = .returned (.tuple #[.pointer (some ⟨b, 0, none⟩), .int .i64 0]) ∧ Hid (∃ ao cap, Rr V.heap.size b room (mk ([] : List UInt8) (([] : List UInt8)).length) ao cap w' ∧ Below V.heap.size V w')) := hide' (fun V => rnew_ok V h)
    clear h hb0 hb1 hbb hbx hx hxb hw0 hw1 hsz0
    go_enter Try.func7, Try.ntmps7
    go_wp2_with fail
    rw [← Hx.out, ← Hxb.out, ← Hw1.out]
    go_wp2_with fail
    refine (H1.out _).mono ?_
    rintro e w2 ⟨c, rfl, K2⟩
    obtain ⟨ao, cap, d2, b2⟩ := K2.out
    have D2 := hide' (And.intro d2 b2)
    obtain ⟨q0, q2, _, _⟩ := HBx.out w2 b2
    clear d2 b2 K2 H1 r0 r2
    go_wp2_with fail
    refine (H2.out _).mono ?_
    rintro e w3 ⟨r, rfl, K3⟩
    obtain ⟨ar, cr, d3, b3⟩ := K3.out
    have hb3 : Below w1.heap.size w1 w3 := D2.out.2.trans (b3.mono D2.out.2.size)
    obtain ⟨s0, s2, hbx3, hbel3⟩ := HBx.out w3 hb3
    have PRR : Hid (Pr w.heap.size ⟨c, r, room, ([] : List UInt8), (([] : List UInt8)).length, ao, cap, ar, cr⟩ w3) := hide' (by
      have e1 := (HBx.out w1 (Below.refl _ _)).2.2.2.size
      exact ⟨(D2.out.1.below b3).mono e1, d3.mono (Nat.le_trans e1 D2.out.2.size)⟩)
    have x0 : w3.cell? ⟨x, 0, none⟩ = some (.pointer none) := by rw [Lib.cell_of_heap hbx3]; rfl
    have x1 : w3.cell? ⟨x, 1, none⟩ = some (.pointer none) := by rw [Lib.cell_of_heap hbx3]; rfl
    have xf : ∀ j, w3.frozen? ⟨x, j, none⟩ = false := fun j => Lib.frozen_of_heap hbx3 j
    have HE : Hid (((w3.setCell ⟨x, 0, none⟩ (.pointer (some ⟨c, 0, none⟩))).setCell ⟨x, 1, none⟩ (.pointer (some ⟨r, 0, none⟩))).heap[x]? = some (.cells #[.pointer (some ⟨c, 0, none⟩), .pointer (some ⟨r, 0, none⟩)] 29 (0, 0)) ∧ Below w.heap.size w ((w3.setCell ⟨x, 0, none⟩ (.pointer (some ⟨c, 0, none⟩))).setCell ⟨x, 1, none⟩ (.pointer (some ⟨r, 0, none⟩))) ∧ Pr w.heap.size ⟨c, r, room, ([] : List UInt8), (([] : List UInt8)).length, ao, cap, ar, cr⟩ ((w3.setCell ⟨x, 0, none⟩ (.pointer (some ⟨c, 0, none⟩))).setCell ⟨x, 1, none⟩ (.pointer (some ⟨r, 0, none⟩)))) := hide' (by
      have t := (turn_b x 0 (.pointer (some ⟨c, 0, none⟩)) w3).trans (turn_b x 1 (.pointer (some ⟨r, 0, none⟩)) _)
      refine ⟨set_block (off := 1) (set_block (off := 0) hbx3), hbel3.trans (t.below (fun j hj => by rw [hj, Hx.out]; exact Nat.le_succ _) hbel3.size), PRR.out.kept t (fun j hj e => ?_)⟩
      subst e
      exact PRR.out.not hbx3 (by decide) (by decide) (by decide) (by decide) hj)
    clear H2 D2 PRR d3 b3 K3 hb3 hbx3 hbel3 q0 q2 s0 s2 HBx
    go_wp2
    generalize ((w3.setCell ⟨x, 0, none⟩ (.pointer (some ⟨c, 0, none⟩))).setCell ⟨x, 1, none⟩ (.pointer (some ⟨r, 0, none⟩))) = W at *
    refine bodyPost_ret (results_row_tmp rfl _ _ x 29 #[.pointer (some ⟨c, 0, none⟩), .pointer (some ⟨r, 0, none⟩)] (0, 0) _ rfl HE.out.1 Try.underlying29 rfl (by kernel_rfl)) rfl ?_
    exact ⟨_, _, rfl, hide' ⟨HE.out.2.1, .inr ⟨_, rfl, rfl, HE.out.2.2⟩⟩⟩
  · have H1 : Hid (∀ V, Calls Try.prog 20 #[.int .i64 room] V fun e w' => e = .returned (.tuple #[.pointer none, .int .i64 (code ([] : List UInt8) room)]) ∧ Below V.heap.size V w') := hide' (fun V => new_bad V h)
    have H2 : Hid (∀ V, Calls Try.prog 21 #[.int .i64 room] V fun e w' => e = .returned (.tuple #[.pointer none, .int .i64 (code ([] : List UInt8) room)]) ∧ Below V.heap.size V w') := hide' (fun V => rnew_bad V h)
    generalize code ([] : List UInt8) room = cc at *
    clear h hb0 hb1 hbb hbx hx hxb hw0 hw1 hsz0
    go_enter Try.func7, Try.ntmps7
    go_wp2_with fail
    rw [← Hx.out, ← Hxb.out, ← Hw1.out]
    go_wp2_with fail
    refine (H1.out _).mono ?_
    rintro e w2 ⟨rfl, b2⟩
    obtain ⟨q0, q2, _, _⟩ := HBx.out w2 b2
    have B2 := hide' b2
    clear b2 H1 r0 r2
    go_wp2_with fail
    refine (H2.out _).mono ?_
    rintro e w3 ⟨rfl, b3⟩
    obtain ⟨s0, s2, hbx3, hbel3⟩ := HBx.out w3 (B2.out.trans (b3.mono B2.out.size))
    have x0 : w3.cell? ⟨x, 0, none⟩ = some (.pointer none) := by rw [Lib.cell_of_heap hbx3]; rfl
    have x1 : w3.cell? ⟨x, 1, none⟩ = some (.pointer none) := by rw [Lib.cell_of_heap hbx3]; rfl
    have xf : ∀ j, w3.frozen? ⟨x, j, none⟩ = false := fun j => Lib.frozen_of_heap hbx3 j
    have HE : Hid (((w3.setCell ⟨x, 0, none⟩ (.pointer none)).setCell ⟨x, 1, none⟩ (.pointer none)).heap[x]? = some (.cells #[.pointer none, .pointer none] 29 (0, 0)) ∧ Below w.heap.size w ((w3.setCell ⟨x, 0, none⟩ (.pointer none)).setCell ⟨x, 1, none⟩ (.pointer none))) := hide' ⟨set_block (off := 1) (set_block (off := 0) hbx3), by
      have t := (turn_b x 0 (.pointer none) w3).trans (turn_b x 1 (.pointer none) _)
      exact hbel3.trans (t.below (fun j hj => by rw [hj, Hx.out]; exact Nat.le_succ _) hbel3.size)⟩
    clear H2 B2 b3 hbx3 hbel3 q0 q2 s0 s2 HBx
    go_wp2
    generalize ((w3.setCell ⟨x, 0, none⟩ (.pointer none)).setCell ⟨x, 1, none⟩ (.pointer none)) = W at *
    refine bodyPost_ret (results_row_tmp rfl _ _ x 29 #[.pointer none, .pointer none] (0, 0) _ rfl HE.out.1 Try.underlying29 rfl (by kernel_rfl)) rfl ?_
    exact ⟨none, none, rfl, hide' ⟨HE.out.2, .inl ⟨rfl, rfl⟩⟩⟩
set_option maxRecDepth 100000 in
set_option maxHeartbeats 2000000 in
theorem made_open (room : Int) (t : List UInt8) (w : World) : Calls Try.prog 7 #[.agg #[.int .i64 room, .bool false, .string (sb t)]] w fun e w' => ∃ pc pr, e = .returned (.tuple #[.agg #[.pointer pc, .pointer pr], .bool true]) ∧ Hid (Below w.heap.size w w' ∧ Mk w.heap.size pc pr w') := by
  obtain ⟨w0, hw0⟩ : ∃ w0, w0 = w.alloc (.cells #[.int .i64 room, .bool false, .string (sb t)] 33) := ⟨_, rfl⟩
  obtain ⟨w1, hw1⟩ : ∃ w1, w1 = w0.alloc (.cells #[.pointer none, .pointer none] 29) := ⟨_, rfl⟩
  have hb0 : Below w.heap.size w w0 := by rw [hw0]; exact (Below.refl _ _).alloc (Nat.le_refl _) _
  have hb1 : Below w.heap.size w w1 := by rw [hw1]; exact hb0.alloc hb0.size _
  obtain ⟨xb, hxb⟩ : ∃ x, x = w.heap.size := ⟨_, rfl⟩
  obtain ⟨x, hx⟩ : ∃ x, x = w.heap.size + 1 := ⟨_, rfl⟩
  have hsz0 : w0.heap.size = w.heap.size + 1 := by rw [hw0]; simp
  have hbb : Bx3 xb room false (sb t) w1 := by
    have q : Bx3 xb room false (sb t) w0 := by rw [hw0, hxb]; exact heap_alloc_new _ _
    rw [hw1]; exact q.below ((Below.refl _ _).alloc (Nat.le_refl _) _)
  have hbx : w1.heap[x]? = some (.cells #[.pointer none, .pointer none] 29 (0, 0)) := by rw [hw1, hx, ← hsz0]; exact heap_alloc_new _ _
  have Hx := hide' hx
  have Hxb := hide' hxb
  have Hw1 : Hid (w1 = (w.alloc (.cells #[.int .i64 room, .bool false, .string (sb t)] 33)).alloc (.cells #[.pointer none, .pointer none] 29)) := hide' (by rw [hw1, hw0])
  have xf0 : w1.cell? ⟨xb, 1, none⟩ = some (.bool false) := by rw [Lib.cell_of_heap hbb]; rfl
  have HBx : Hid (∀ V, Below w1.heap.size w1 V → V.cell? ⟨xb, 0, none⟩ = some (.int .i64 room) ∧ V.cell? ⟨xb, 2, none⟩ = some (.string (sb t)) ∧ V.heap[x]? = some (.cells #[.pointer none, .pointer none] 29 (0, 0)) ∧ Below w.heap.size w V) := hide' (fun V b => ⟨(hbb.below b).c0, (hbb.below b).c2, (b.block x (lt_of_heap hbx)).trans hbx, hb1.trans (b.mono hb1.size)⟩)
  obtain ⟨r0, r2, _, _⟩ := HBx.out w1 (Below.refl _ _)
  by_cases h : code t room = 0
  · have H1 : Hid (∀ V, Calls Try.prog 16 #[.string (sb t), .int .i64 room] V fun e w' => ∃ b, e = .returned (.tuple #[.pointer (some ⟨b, 0, none⟩), .int .i64 0]) ∧ Hid (∃ ao cap, Dk V.heap.size b room t (t).length ao cap w' ∧ Below V.heap.size V w')) := hide' (fun V => open_ok t V (code_ok h).1 (code_ok h).2)
    have H2 : Hid (∀ V, Calls Try.prog 22 #[.string (sb t), .int .i64 room] V fun e w' => ∃ b, e = .returned (.tuple #[.pointer (some ⟨b, 0, none⟩), .int .i64 0]) ∧ Hid (∃ ao cap, Rr V.heap.size b room (mk t (t).length) ao cap w' ∧ Below V.heap.size V w')) := hide' (fun V => ropen_ok t V (code_ok h).1 (code_ok h).2)
    clear h hb0 hb1 hbb hbx hx hxb hw0 hw1 hsz0
    go_enter Try.func7, Try.ntmps7
    go_wp2_with fail
    rw [← Hx.out, ← Hxb.out, ← Hw1.out]
    go_wp2_with fail
    refine (H1.out _).mono ?_
    rintro e w2 ⟨c, rfl, K2⟩
    obtain ⟨ao, cap, d2, b2⟩ := K2.out
    have D2 := hide' (And.intro d2 b2)
    obtain ⟨q0, q2, _, _⟩ := HBx.out w2 b2
    clear d2 b2 K2 H1 r0 r2
    go_wp2_with fail
    refine (H2.out _).mono ?_
    rintro e w3 ⟨r, rfl, K3⟩
    obtain ⟨ar, cr, d3, b3⟩ := K3.out
    have hb3 : Below w1.heap.size w1 w3 := D2.out.2.trans (b3.mono D2.out.2.size)
    obtain ⟨s0, s2, hbx3, hbel3⟩ := HBx.out w3 hb3
    have PRR : Hid (Pr w.heap.size ⟨c, r, room, t, (t).length, ao, cap, ar, cr⟩ w3) := hide' (by
      have e1 := (HBx.out w1 (Below.refl _ _)).2.2.2.size
      exact ⟨(D2.out.1.below b3).mono e1, d3.mono (Nat.le_trans e1 D2.out.2.size)⟩)
    have x0 : w3.cell? ⟨x, 0, none⟩ = some (.pointer none) := by rw [Lib.cell_of_heap hbx3]; rfl
    have x1 : w3.cell? ⟨x, 1, none⟩ = some (.pointer none) := by rw [Lib.cell_of_heap hbx3]; rfl
    have xf : ∀ j, w3.frozen? ⟨x, j, none⟩ = false := fun j => Lib.frozen_of_heap hbx3 j
    have HE : Hid (((w3.setCell ⟨x, 0, none⟩ (.pointer (some ⟨c, 0, none⟩))).setCell ⟨x, 1, none⟩ (.pointer (some ⟨r, 0, none⟩))).heap[x]? = some (.cells #[.pointer (some ⟨c, 0, none⟩), .pointer (some ⟨r, 0, none⟩)] 29 (0, 0)) ∧ Below w.heap.size w ((w3.setCell ⟨x, 0, none⟩ (.pointer (some ⟨c, 0, none⟩))).setCell ⟨x, 1, none⟩ (.pointer (some ⟨r, 0, none⟩))) ∧ Pr w.heap.size ⟨c, r, room, t, (t).length, ao, cap, ar, cr⟩ ((w3.setCell ⟨x, 0, none⟩ (.pointer (some ⟨c, 0, none⟩))).setCell ⟨x, 1, none⟩ (.pointer (some ⟨r, 0, none⟩)))) := hide' (by
      have t := (turn_b x 0 (.pointer (some ⟨c, 0, none⟩)) w3).trans (turn_b x 1 (.pointer (some ⟨r, 0, none⟩)) _)
      refine ⟨set_block (off := 1) (set_block (off := 0) hbx3), hbel3.trans (t.below (fun j hj => by rw [hj, Hx.out]; exact Nat.le_succ _) hbel3.size), PRR.out.kept t (fun j hj e => ?_)⟩
      subst e
      exact PRR.out.not hbx3 (by decide) (by decide) (by decide) (by decide) hj)
    clear H2 D2 PRR d3 b3 K3 hb3 hbx3 hbel3 q0 q2 s0 s2 HBx
    go_wp2
    generalize ((w3.setCell ⟨x, 0, none⟩ (.pointer (some ⟨c, 0, none⟩))).setCell ⟨x, 1, none⟩ (.pointer (some ⟨r, 0, none⟩))) = W at *
    refine bodyPost_ret (results_row_tmp rfl _ _ x 29 #[.pointer (some ⟨c, 0, none⟩), .pointer (some ⟨r, 0, none⟩)] (0, 0) _ rfl HE.out.1 Try.underlying29 rfl (by kernel_rfl)) rfl ?_
    exact ⟨_, _, rfl, hide' ⟨HE.out.2.1, .inr ⟨_, rfl, rfl, HE.out.2.2⟩⟩⟩
  · have H1 : Hid (∀ V, Calls Try.prog 16 #[.string (sb t), .int .i64 room] V fun e w' => e = .returned (.tuple #[.pointer none, .int .i64 (code t room)]) ∧ Below V.heap.size V w') := hide' (fun V => open_bad V h)
    have H2 : Hid (∀ V, Calls Try.prog 22 #[.string (sb t), .int .i64 room] V fun e w' => e = .returned (.tuple #[.pointer none, .int .i64 (code t room)]) ∧ Below V.heap.size V w') := hide' (fun V => ropen_bad V h)
    generalize code t room = cc at *
    clear h hb0 hb1 hbb hbx hx hxb hw0 hw1 hsz0
    go_enter Try.func7, Try.ntmps7
    go_wp2_with fail
    rw [← Hx.out, ← Hxb.out, ← Hw1.out]
    go_wp2_with fail
    refine (H1.out _).mono ?_
    rintro e w2 ⟨rfl, b2⟩
    obtain ⟨q0, q2, _, _⟩ := HBx.out w2 b2
    have B2 := hide' b2
    clear b2 H1 r0 r2
    go_wp2_with fail
    refine (H2.out _).mono ?_
    rintro e w3 ⟨rfl, b3⟩
    obtain ⟨s0, s2, hbx3, hbel3⟩ := HBx.out w3 (B2.out.trans (b3.mono B2.out.size))
    have x0 : w3.cell? ⟨x, 0, none⟩ = some (.pointer none) := by rw [Lib.cell_of_heap hbx3]; rfl
    have x1 : w3.cell? ⟨x, 1, none⟩ = some (.pointer none) := by rw [Lib.cell_of_heap hbx3]; rfl
    have xf : ∀ j, w3.frozen? ⟨x, j, none⟩ = false := fun j => Lib.frozen_of_heap hbx3 j
    have HE : Hid (((w3.setCell ⟨x, 0, none⟩ (.pointer none)).setCell ⟨x, 1, none⟩ (.pointer none)).heap[x]? = some (.cells #[.pointer none, .pointer none] 29 (0, 0)) ∧ Below w.heap.size w ((w3.setCell ⟨x, 0, none⟩ (.pointer none)).setCell ⟨x, 1, none⟩ (.pointer none))) := hide' ⟨set_block (off := 1) (set_block (off := 0) hbx3), by
      have t := (turn_b x 0 (.pointer none) w3).trans (turn_b x 1 (.pointer none) _)
      exact hbel3.trans (t.below (fun j hj => by rw [hj, Hx.out]; exact Nat.le_succ _) hbel3.size)⟩
    clear H2 B2 b3 hbx3 hbel3 q0 q2 s0 s2 HBx
    go_wp2
    generalize ((w3.setCell ⟨x, 0, none⟩ (.pointer none)).setCell ⟨x, 1, none⟩ (.pointer none)) = W at *
    refine bodyPost_ret (results_row_tmp rfl _ _ x 29 #[.pointer none, .pointer none] (0, 0) _ rfl HE.out.1 Try.underlying29 rfl (by kernel_rfl)) rfl ?_
    exact ⟨none, none, rfl, hide' ⟨HE.out.2, .inl ⟨rfl, rfl⟩⟩⟩
theorem made_any (room : Int) (f : Bool) (t : List UInt8) (w : World) : Calls Try.prog 7 #[.agg #[.int .i64 room, .bool f, .string (sb t)]] w fun e w' => ∃ pc pr, e = .returned (.tuple #[.agg #[.pointer pc, .pointer pr], .bool true]) ∧ Hid (Below w.heap.size w w' ∧ Mk w.heap.size pc pr w') := by
  cases f with
  | true => exact made_fresh room t w
  | false => exact made_open room t w
end K
end Go.Proofs.Ytdhdcpppilacmaa
