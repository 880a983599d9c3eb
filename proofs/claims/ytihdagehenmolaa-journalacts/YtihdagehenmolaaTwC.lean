import Derived.Test.YtihdagehenmolaaTwB
set_option linter.unusedVariables false
set_option linter.unusedSimpArgs false
namespace Go.Proofs.Ytihdagehenmolaa
open Go.RowKit
namespace J
open M K
variable {B t : Nat} {room : Int} {es : List En} {lo : Option Addr} {lc : Nat} {w w' : World} {p0 p1 sv : Value} {L : List UInt8}
/-- the document's side of a pair -/
structure Rs (B t : Nat) (p0 p1 : Value) (L : List UInt8) (room : Int) (sv : Value) (es : List En) (lo : Option Addr) (lc : Nat) (w : World) : Prop where
  hp : w.heap[t]? = some (.cells #[p0, p1, .string (sb L), .int .i64 room, sv, .slice lo es.length lc] 54 (0, 0))
  ls : Es B lo lc es w
theorem Rs.c (q : Rs B t p0 p1 L room sv es lo lc w) : w.cell? ⟨t, 2, none⟩ = some (.string (sb L)) ∧ w.cell? ⟨t, 3, none⟩ = some (.int .i64 room) ∧ w.cell? ⟨t, 5, none⟩ = some (.slice lo es.length lc) :=
  ⟨Lib.cell_of_heap q.hp 2, Lib.cell_of_heap q.hp 3, Lib.cell_of_heap q.hp 5⟩
theorem Rs.f (q : Rs B t p0 p1 L room sv es lo lc w) (j : Nat) : w.frozen? ⟨t, j, none⟩ = false := Lib.frozen_of_heap q.hp j
theorem Rs.lt (q : Rs B t p0 p1 L room sv es lo lc w) : t < w.heap.size := lt_of_heap q.hp
theorem Rs.below (q : Rs B t p0 p1 L room sv es lo lc w) (b : Below w.heap.size w w') : Rs B t p0 p1 L room sv es lo lc w' := ⟨(b.block t q.lt).trans q.hp, q.ls.below b⟩
theorem Rs.na (q : Rs B t p0 p1 L room sv es lo lc w) : ¬ At lo t := fun h => by
  obtain ⟨_, cs, h2⟩ := own_kind q.ls h
  exact cells_ne h2 q.hp (by decide) rfl
theorem Rs.put2 (q : Rs B t p0 p1 L room sv es lo lc w) (L' : List UInt8) : Rs B t p0 p1 L' room sv es lo lc (w.setCell ⟨t, 2, none⟩ (.string (sb L'))) :=
  ⟨set_block q.hp, q.ls.kept (turn_b t 2 _ w) (fun g hg e => q.na (by rw [← e]; exact own_at hg))⟩
theorem Rs.core (q : Rs B t p0 p1 L room sv es lo lc w) {x : En} {gg cap' : Nat} {w0 w1 : World} (hb0 : Below w.heap.size w w0) (hown1 : w1.ownsRow B 24 2 (.slice (some ⟨gg, 0, none⟩) (es.length + 1) cap') (es.length + 1) (flat En.arr es ++ (En.arr x).toList))
    (hgrow : w0.grownBy w1 (Value.slice lo es.length lc).ownBlock) (hat : (Value.slice lo es.length lc).ownBlock = some gg ∨ w.heap.size ≤ gg) :
    Rs B t p0 p1 L room sv (es ++ [x]) (some ⟨gg, 0, none⟩) cap' (w1.setCell ⟨t, 5, none⟩ (.slice (some ⟨gg, 0, none⟩) (es.length + 1) cap')) ∧ Turn (fun j => j = t ∨ At lo j) w (w1.setCell ⟨t, 5, none⟩ (.slice (some ⟨gg, 0, none⟩) (es.length + 1) cap')) ∧ (At lo gg ∨ w.heap.size ≤ gg) := by
  have hgb : At lo gg ∨ w.heap.size ≤ gg := by
    rcases hat with q | q
    · exact .inl (own_at q)
    · exact .inr q
  have hne : gg ≠ t := by
    rcases hgb with r | r
    · intro e; rw [e] at r; exact q.na r
    · have := q.lt; omega
  have t0 : Turn (At lo) w w1 := ((turn_below hb0)).grown hgrow (fun k hk _ => own_at hk)
  have hx1 := (t0.block t q.lt q.na).trans q.hp
  have t1 := turn_b t 5 (.slice (some ⟨gg, 0, none⟩) (es.length + 1) cap') w1
  refine ⟨⟨?_, ⟨?_⟩⟩, ?_, hgb⟩
  · rw [List.length_append, set_block hx1]; rfl
  · rw [List.length_append, flat_add, show flat En.arr [x] = (En.arr x).toList by simp [flat]]
    exact t1.row hown1 (fun j hj e => by
      have : gg = j := by simpa [Value.ownBlock] using hj
      omega)
  · exact (t0.mono (fun k _ q => Or.inr q)).trans (t1.mono (fun k _ e => .inl e))
set_option maxRecDepth 100000 in
set_option maxHeartbeats 1000000 in
theorem rappend_bad (x : En) (hx : ¬ frc x = 0) (P : Value) (w : World) : Calls Try.prog 40 #[P, .agg #[.int .i64 x.v, .string (sb x.t)]] w fun r w' => r = .returned (.int .i64 (frc x)) ∧ Below w.heap.size w w' := by
  have C1 := hide' (rframe_any x (w.alloc (.cells #[.int .i64 x.v, .string (sb x.t)] 24)))
  obtain ⟨v, hv⟩ : ∃ v, v = x.v := ⟨_, rfl⟩
  obtain ⟨T, hT⟩ : ∃ T, T = sb x.t := ⟨_, rfl⟩
  rw [← hv, ← hT] at C1 ⊢
  generalize sb (frs x) = F at *
  generalize frc x = c at *
  have hcb : (c == 0) = false := beq_false_of_ne hx
  clear hv hT
  go_enter Try.func40, Try.ntmps40
  go_wp2_with fail
  refine C1.out.mono ?_
  rintro e w1 ⟨rfl, b1⟩
  have B1 := hide' ((below_al w _).trans (b1.mono (by simp)))
  clear b1 C1
  go_wp2
  go_ret
  exact ⟨rfl, B1.out⟩
theorem sum_ok {nl nf : Nat} (h1 : nl ≤ 1048576) (h2 : nf ≤ 65553) : wrap64 ((nl : Int) + (nf : Int)) = (nl : Int) + (nf : Int) := by unfold wrap64; omega
theorem room_no {room : Int} {nl nf : Nat} (h : (nf : Int) ≤ room - (nl : Int)) : ¬ room < (nl : Int) + (nf : Int) := by omega
theorem room_yes {room : Int} {nl nf : Nat} (h : room - (nl : Int) < (nf : Int)) : room < (nl : Int) + (nf : Int) := by omega
theorem sum_no {nl nf : Nat} (h1 : nl ≤ 1048576) (h2 : nf ≤ 65553) : ¬ 9223372036854775807 < nl + nf := by omega
theorem rcd_le {x : En} (h : x.ok) : (rcd x).length ≤ 65553 := by rw [rec_len]; have := h.2.2; omega
set_option maxRecDepth 100000 in
set_option maxHeartbeats 2000000 in
theorem rappend_full (q : Rs B t p0 p1 L room sv es lo lc w) (hL : L.length ≤ 1048576) (x : En) (hx : x.ok) (h : room - L.length < (rcd x).length) : Calls Try.prog 40 #[.pointer (some ⟨t, 2, none⟩), .agg #[.int .i64 x.v, .string (sb x.t)]] w fun r w' => r = .returned (.int .i64 210) ∧ Below w.heap.size w w' := by
  have C1 := hide' (rframe_ok x hx (w.alloc (.cells #[.int .i64 x.v, .string (sb x.t)] 24)))
  obtain ⟨v, hv⟩ : ∃ v, v = x.v := ⟨_, rfl⟩
  obtain ⟨T, hT⟩ : ∃ T, T = sb x.t := ⟨_, rfl⟩
  rw [← hv, ← hT] at C1 ⊢
  have zF := sb_size (rcd x)
  have zL := sb_size L
  have hF := rcd_le hx
  have Q := hide' q
  generalize sb (rcd x) = F at *
  obtain ⟨R, hR⟩ : ∃ R, R = sb L := ⟨_, rfl⟩
  rw [← hR] at zL
  generalize (rcd x).length = nf at *
  obtain ⟨nl, hnl⟩ : ∃ n, n = L.length := ⟨_, rfl⟩
  rw [← hnl] at zL h hL
  have e1 := sum_ok hL hF
  have e2 := room_yes h
  have HR := hide' hR
  clear hv hT q h hx hL hF hnl hR
  go_enter Try.func40, Try.ntmps40
  go_wp2_with fail
  refine C1.out.mono ?_
  rintro e w1 ⟨rfl, b1⟩
  have b1' : Below w.heap.size w w1 := (below_al w _).trans (b1.mono (by simp))
  obtain ⟨c2, c3, c5⟩ := (Q.out.below b1').c
  rw [← HR.out] at c2
  have B1 := hide' b1'
  clear b1 C1 b1'
  go_wp2_with fail
  go_quiet (fail)
  have B2 := hide' (B1.out.trans ((below_drewN w1 nq).mono B1.out.size))
  go_wp2
  go_ret
  exact ⟨rfl, B2.out⟩
set_option maxRecDepth 100000 in
set_option maxHeartbeats 4000000 in
theorem rappend_ok (q : Rs B t p0 p1 L room sv es lo lc w) (hB : B ≤ w.heap.size) (few : es.length ≤ 1048576) (hL : L.length ≤ 1048576) (x : En) (hx : x.ok) (h : ((rcd x).length : Int) ≤ room - L.length) : Calls Try.prog 40 #[.pointer (some ⟨t, 2, none⟩), .agg #[.int .i64 x.v, .string (sb x.t)]] w fun r w' => r = .returned (.int .i64 0) ∧ Hid (∃ gg cc, Rs B t p0 p1 (L ++ rcd x) room sv (es ++ [x]) (some ⟨gg, 0, none⟩) cc w' ∧ Turn (fun j => j = t ∨ At lo j) w w' ∧ (At lo gg ∨ w.heap.size ≤ gg)) := by
  have C1 := hide' (rframe_ok x hx (w.alloc (.cells #[.int .i64 x.v, .string (sb x.t)] 24)))
  have X0 : Hid (Bx w.heap.size x (w.alloc (.cells #[.int .i64 x.v, .string (sb x.t)] 24))) := hide' (heap_alloc_new _ _)
  obtain ⟨v, hv⟩ : ∃ v, v = x.v := ⟨_, rfl⟩
  obtain ⟨T, hT⟩ : ∃ T, T = sb x.t := ⟨_, rfl⟩
  rw [← hv, ← hT] at C1 X0 ⊢
  have zF := sb_size (rcd x)
  have zL := sb_size L
  have hF := rcd_le hx
  have Q := hide' (And.intro q (And.intro hB few))
  obtain ⟨F, hFF⟩ : ∃ F, F = sb (rcd x) := ⟨_, rfl⟩
  obtain ⟨R, hR⟩ : ∃ R, R = sb L := ⟨_, rfl⟩
  rw [← hR] at zL
  rw [← hFF] at zF C1
  obtain ⟨nf, hnf⟩ : ∃ n, n = (rcd x).length := ⟨_, rfl⟩
  obtain ⟨nl, hnl⟩ : ∃ n, n = L.length := ⟨_, rfl⟩
  rw [← hnl] at zL h hL
  rw [← hnf] at zF hF h
  have e1 := sum_ok hL hF
  have e2 := room_no h
  have e3 := sum_no hL hF
  have HR := hide' (And.intro hR (And.intro hFF (And.intro hv hT)))
  clear hv hT q h hx hL hF hnl hR hnf hFF hB few
  obtain ⟨i0, hi0, hz0, hz1, hz2⟩ := info_parts info24
  go_enter Try.func40, Try.ntmps40
  go_wp2_with fail
  refine C1.out.mono ?_
  rintro e w1 ⟨rfl, b1⟩
  have b1' : Below w.heap.size w w1 := (below_al w _).trans (b1.mono (by simp))
  have X1 := X0.out.below b1 (Nat.le_refl _)
  have q1 := Q.out.1.below b1'
  obtain ⟨c2, c3, c5⟩ := q1.c
  rw [← HR.out.1] at c2
  have f2 := q1.f 2
  have B1 := hide' (And.intro b1' X1)
  clear b1 C1 b1' X1 X0 q1
  go_wp2_with fail
  go_quiet (fail)
  obtain ⟨w2, hw2⟩ : ∃ w2, w2 = w1.drewN nq := ⟨_, rfl⟩
  rw [← hw2]
  have bw : Below w.heap.size w w2 := by rw [hw2]; exact B1.out.1.trans ((below_drewN w1 nq).mono B1.out.1.size)
  have X2 : Bx w.heap.size x w2 := by rw [hw2]; exact B1.out.2
  have q2 := Q.out.1.below bw
  obtain ⟨c2', c3', c5'⟩ := q2.c
  rw [← HR.out.1] at c2'
  have f2' := q2.f 2
  obtain ⟨w3, hw3⟩ : ∃ w3, w3 = w2.setCell ⟨t, 2, none⟩ (.string (R ++ F)) := ⟨_, rfl⟩
  have q3 : Rs B t p0 p1 (L ++ rcd x) room sv es lo lc w3 := by
    have := q2.put2 (L ++ rcd x)
    rw [← sb_add, ← HR.out.1, ← HR.out.2.1, ← hw3] at this
    exact this
  have hxt : t ≠ w.heap.size := by have := Q.out.1.lt; omega
  have X3 : Bx w.heap.size x w3 := by rw [hw3]; exact ((turn_b t 2 _ w2).block _ (lt_of_heap X2) (fun e => hxt e.symm)).trans X2
  have t3 : Turn (fun j => j = t ∨ At lo j) w w3 := by rw [hw3]; exact (turn_below bw).trans ((turn_b t 2 _ w2).mono (fun k _ e => .inl e))
  have c5 := q3.c.2.2
  have f5 := q3.f 5
  have lt := q3.lt
  have row := q3.ls.row
  have g0 := X3.c0
  have g1 := X3.c1
  rw [← HR.out.2.2.1] at g0
  rw [← HR.out.2.2.2] at g1
  have HW3 := hide' hw3
  have n1 : Hid (es.length + 1 ≤ maxLen) := hide' (show es.length + 1 ≤ maxLen by have := Q.out.2.2; unfold maxLen; omega)
  have n2 : Hid ((es.length + 1) * 24 ≤ 140737488355328) := hide' (by have := Q.out.2.2; omega)
  have n3 : Hid (B ≤ w3.heap.size) := hide' (Nat.le_trans Q.out.2.1 t3.size)
  have ne : some t ≠ (Value.slice lo es.length lc).ownBlock := fun q => q3.na (own_at q.symm)
  have new2 : ∀ o, (w3.alloc o).drew.heap[w3.heap.size]? = some o := fun o => heap_alloc_new w3 o
  have new1 := World.new_ne w3 ⟨t, 5, none⟩ c5
  have fal : ∀ o, (w3.alloc o).drew.frozen? ⟨t, 5, none⟩ = false := fun o => (World.frozen?_of_block (w := w3) (Below.heap_alloc _ _ _ lt)).trans f5
  have cal : ∀ o, (w3.alloc o).drew.cell? ⟨t, 5, none⟩ = some (.slice lo es.length lc) := fun o => (World.cell?_of_block (w := w3) (Below.heap_alloc _ _ _ lt)).trans c5
  have Q3 := hide' (And.intro q3 t3)
  clear hw2 bw X2 q2 hw3 q3 X3 t3 hxt B1 c2 c3 f2
  go_wp2_with fail
  rw [← HW3.out]
  clear HW3 c2' c3' c5' f2'
  go_region_law ((refine step_append_lies _ (by rfl) _ _ _ (by rfl) B 24 i0 _ 2 24 Try.underlying29 hi0 hz0 hz1 hz2 rfl (by omega) (.slice lo es.length lc) es.length (flat En.arr es) (by rfl) ((row.alloc _).drew) ⟨w3.heap.size, 0, none⟩ 1 1 [.int .i64 v, .string T] (by rfl) (by rfl) (World.news_of_block (cs := #[.int .i64 v, .string T]) (t := 24) (fr := (0, 0)) (new2 _)) (by simp [Value.oneCell']) (by omega) n1.out n2.out (by simp; exact Nat.le_trans n3.out (Nat.le_succ _)) (w3.heap.size + 1) (by simp) ?_; intro gg cc w4 hown1 hgrow hat hlt; have a0 := (hgrow.cell_far ⟨t, 5, none⟩ (by simp; omega) ne).trans (cal _); have a0f := (hgrow.frozen_far ⟨t, 5, none⟩ (by simp; omega) ne).trans (fal _)))
  all_goals
    have hb0 : Below w3.heap.size w3 (w3.alloc (.cells #[.int .i64 v, .string T] 24)).drew := ((Below.refl _ _).alloc (Nat.le_refl _) _).drew
    have K4 := hide' (Q3.out.1.core (x := x) hb0 (by unfold En.arr; rw [← HR.out.2.2.1, ← HR.out.2.2.2]; exact hown1) hgrow (by rcases hat with h | h; exact .inl h; exact .inr (by omega)))
    have K5 : Hid (∃ gg cc, Rs B t p0 p1 (L ++ rcd x) room sv (es ++ [x]) (some ⟨gg, 0, none⟩) cc _ ∧ Turn (fun j => j = t ∨ At lo j) w _ ∧ (At lo gg ∨ w.heap.size ≤ gg)) := hide' ⟨gg, cc, K4.out.1, Q3.out.2.trans K4.out.2.1, K4.out.2.2.imp id (fun q => Nat.le_trans Q3.out.2.size q)⟩
    clear hb0 hown1 hgrow hat hlt a0 a0f c5 f5 lt row ne new2 new1 fal cal g0 g1 K4
    go_wp2
    go_ret
    exact ⟨rfl, K5⟩
end J
end Go.Proofs.Ytihdagehenmolaa
