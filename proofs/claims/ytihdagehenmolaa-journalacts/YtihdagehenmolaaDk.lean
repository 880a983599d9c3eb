import Derived.Test.YtihdagehenmolaaStr
set_option linter.unusedVariables false
set_option linter.unusedSimpArgs false
namespace Go.Proofs.Ytihdagehenmolaa
open Go.RowKit
namespace K
open M
/-- BLOCK b IS A DISK: its room, its bytes, how many are safe -/
structure Dk (B b : Nat) (room : Int) (l : List UInt8) (s : Nat) (ao : Option Addr) (cap : Nat) (w : World) : Prop where
  hp : w.heap[b]? = some (.cells #[.int .i64 room, .slice ao l.length cap, .int .i64 (s : Nat)] 83 (0, 0))
  row : Own 1 5 ba B (.slice ao l.length cap) l w
  hb : B ≤ b
  hs : s ≤ l.length
  hr : (l.length : Int) ≤ room
  hm : room ≤ 1048576
/-- its blocks -/
def DB (b : Nat) (ao : Option Addr) (j : Nat) : Prop := j = b ∨ At ao j
variable {B b s cap : Nat} {room : Int} {l : List UInt8} {ao : Option Addr} {w w' : World}
theorem Dk.c0 (q : Dk B b room l s ao cap w) : w.cell? ⟨b, 0, none⟩ = some (.int .i64 room) := by rw [Lib.cell_of_heap q.hp]; rfl
theorem Dk.c1 (q : Dk B b room l s ao cap w) : w.cell? ⟨b, 1, none⟩ = some (.slice ao l.length cap) := by rw [Lib.cell_of_heap q.hp]; rfl
theorem Dk.c2 (q : Dk B b room l s ao cap w) : w.cell? ⟨b, 2, none⟩ = some (.int .i64 (s : Nat)) := by rw [Lib.cell_of_heap q.hp]; rfl
theorem Dk.f (q : Dk B b room l s ao cap w) (j : Nat) : w.frozen? ⟨b, j, none⟩ = false := Lib.frozen_of_heap q.hp j
theorem Dk.lt (q : Dk B b room l s ao cap w) : b < w.heap.size := lt_of_heap q.hp
theorem Dk.below (q : Dk B b room l s ao cap w) (t : Below w.heap.size w w') : Dk B b room l s ao cap w' := ⟨(t.block b q.lt).trans q.hp, q.row.below t, q.hb, q.hs, q.hr, q.hm⟩
theorem own_kind {α : Type} {m e : Nat} {arr : α → Array Value} {n : Nat} {ss : List α} (h : Own m e arr B (.slice ao n cap) ss w) {j : Nat} (hj : At ao j) : B ≤ j ∧ ∃ cs, w.heap[j]? = some (.cells cs e (0, 0)) := by
  obtain ⟨ad, rfl, rfl⟩ := hj
  rcases h.row.2 with ⟨hv, _⟩ | ⟨g', cap', cur, hv, hb, hg, _⟩
  · cases hv
  · simp only [Value.slice.injEq, Option.some.injEq] at hv
    obtain ⟨rfl, _, _⟩ := hv
    exact ⟨hb, cur, hg⟩
theorem Dk.na (q : Dk B b room l s ao cap w) : ¬ At ao b := fun h => by
  obtain ⟨cs, e⟩ := (own_kind q.row h).2
  exact cells_ne q.hp e (by decide) rfl
theorem Dk.in (q : Dk B b room l s ao cap w) {j : Nat} (hj : DB b ao j) : B ≤ j ∧ j < w.heap.size := by
  rcases hj with rfl | hj
  · exact ⟨q.hb, q.lt⟩
  · obtain ⟨h, cs, e⟩ := own_kind q.row hj
    exact ⟨h, lt_of_heap e⟩
theorem Dk.kept {S : Nat → Prop} (q : Dk B b room l s ao cap w) (t : Turn S w w') (hn : ∀ j, DB b ao j → ¬ S j) : Dk B b room l s ao cap w' :=
  ⟨(t.block b q.lt (hn _ (.inl rfl))).trans q.hp, q.row.kept t (fun g hg => hn g (.inr (own_at hg))), q.hb, q.hs, q.hr, q.hm⟩
theorem Own.mono {α : Type} {m e : Nat} {arr : α → Array Value} {v : Value} {ss : List α} {B' : Nat} (h : Own m e arr B v ss w) (hB : B' ≤ B) : Own m e arr B' v ss w := by
  refine ⟨h.row.1, ?_⟩
  rcases h.row.2 with h2 | ⟨g, cap, cur, hv, hb, rest⟩
  · exact .inl h2
  · exact .inr ⟨g, cap, cur, hv, by omega, rest⟩
theorem Dk.mono {B' : Nat} (q : Dk B b room l s ao cap w) (h : B' ≤ B) : Dk B' b room l s ao cap w := ⟨q.hp, Own.mono q.row h, Nat.le_trans h q.hb, q.hs, q.hr, q.hm⟩
theorem Dk.app (q : Dk B b room l s ao cap w) {t : List UInt8} {ao' : Option Addr} {cap' : Nat} {w1 : World} (o : Own 1 5 ba B (.slice ao' (l ++ t).length cap') (l ++ t) w1) (t1 : Turn (At ao) w w1) (p1 : ∀ j, At ao' j → At ao j ∨ w.heap.size ≤ j) (h : (t.length : Int) ≤ room - l.length) :
    Dk B b room (l ++ t) s ao' cap' (w1.setCell ⟨b, 1, none⟩ (.slice ao' (l ++ t).length cap')) ∧ Turn (DB b ao) w (w1.setCell ⟨b, 1, none⟩ (.slice ao' (l ++ t).length cap')) ∧ (∀ j, DB b ao' j → DB b ao j ∨ w.heap.size ≤ j) := by
  have hb := (t1.block b q.lt q.na).trans q.hp
  have hna : ¬ At ao' b := fun h => by
    rcases p1 b h with h | h
    · exact q.na h
    · have := q.lt; omega
  refine ⟨⟨?_, o.kept (turn_b b 1 _ w1) (fun g hg e => hna (by rw [← e]; exact own_at hg)), q.hb, ?_, ?_, q.hm⟩, ?_, ?_⟩
  · rw [set_block hb]; rfl
  · have := q.hs; rw [List.length_append]; omega
  · rw [List.length_append]; omega
  · exact (t1.mono (S' := DB b ao) (fun k _ hk => .inr hk)).setCell (p := ⟨b, 1, none⟩) (fun _ => .inl rfl) _
  · intro j hj
    rcases hj with hj | hj
    · exact .inl (.inl hj)
    · rcases p1 j hj with h | h
      · exact .inl (.inr h)
      · exact .inr h
theorem Dk.syn (q : Dk B b room l s ao cap w) : Dk B b room l l.length ao cap (w.setCell ⟨b, 2, none⟩ (.int .i64 (l.length : Nat))) ∧ Turn (fun j => j = b) w (w.setCell ⟨b, 2, none⟩ (.int .i64 (l.length : Nat))) := by
  refine ⟨⟨?_, q.row.kept (turn_b b 2 _ w) (fun g hg e => q.na (by rw [← e]; exact own_at hg)), q.hb, Nat.le_refl _, q.hr, q.hm⟩, turn_b b 2 _ w⟩
  rw [set_block q.hp]; rfl
theorem sub_ok {a b : Int} (ha : -2305843009213693952 ≤ a ∧ a ≤ 2305843009213693952) (hb : -2305843009213693952 ≤ b ∧ b ≤ 2305843009213693952) : wrap64 (a - b) = a - b := by unfold wrap64; omega
theorem add_ok {a b : Int} (ha : -2305843009213693952 ≤ a ∧ a ≤ 2305843009213693952) (hb : -2305843009213693952 ≤ b ∧ b ≤ 2305843009213693952) : wrap64 (a + b) = a + b := by unfold wrap64; omega
set_option maxRecDepth 100000 in
set_option maxHeartbeats 1000000 in
theorem append_full (q : Dk B b room l s ao cap w) (t : List UInt8) (h : room - l.length < t.length) : Calls Try.prog 43 #[.pointer (some ⟨b, 0, none⟩), .string (sb t)] w fun e w' => e = .returned (.int .i64 210) ∧ Below w.heap.size w w' := by
  have c0 := q.c0
  have c1 := q.c1
  have hz := sb_size t
  obtain ⟨n, hn⟩ : ∃ n, n = t.length := ⟨_, rfl⟩
  obtain ⟨m, hm⟩ : ∃ m, m = l.length := ⟨_, rfl⟩
  have hsub : wrap64 (room - (m : Int)) = room - (m : Int) := by have := q.hr; have := q.hm; unfold wrap64; omega
  rw [← hn] at hz
  rw [← hm] at c1
  have hlt : room - (m : Int) < (n : Int) := by omega
  clear q h hn hm
  generalize hT : sb t = T at *
  clear hT
  go_enter Try.func43, Try.ntmps43
  go_wp2_with fail
  go_quiet (fail)
  go_wp2
  go_ret
  exact ⟨rfl, below_drewN _ _⟩
set_option maxRecDepth 100000 in
set_option maxHeartbeats 1000000 in
theorem append_ok (q : Dk B b room l s ao cap w) (t : List UInt8) (h : (t.length : Int) ≤ room - l.length) (hB : B ≤ w.heap.size) : Calls Try.prog 43 #[.pointer (some ⟨b, 0, none⟩), .string (sb t)] w fun e w' => e = .returned (.int .i64 0) ∧ ∃ ao' cap', Dk B b room (l ++ t) s ao' cap' w' ∧ Turn (DB b ao) w w' ∧ (∀ j, DB b ao' j → DB b ao j ∨ w.heap.size ≤ j) := by
  have c0 := q.c0
  have c1 := q.c1
  have c2 := q.c2
  have hz := sb_size t
  have HQ := hide' q
  have HH := hide' (And.intro h hB)
  obtain ⟨n, hn⟩ : ∃ n, n = t.length := ⟨_, rfl⟩
  obtain ⟨m, hm⟩ : ∃ m, m = l.length := ⟨_, rfl⟩
  have hsub : wrap64 (room - (m : Int)) = room - (m : Int) := by have := q.hr; have := q.hm; unfold wrap64; omega
  rw [← hn] at hz
  have Hm := hide' hm
  rw [← hm] at c1
  have hlt : ¬ (room - (m : Int) < (n : Int)) := by omega
  clear q h hn hm hB
  obtain ⟨T, hT⟩ : ∃ T, T = sb t := ⟨_, rfl⟩
  rw [← hT] at hz ⊢
  have HT := hide' hT
  clear hT
  go_enter Try.func43, Try.ntmps43
  go_wp2_with fail
  go_quiet (fail)
  have Q1 := hide' (HQ.out.below (below_drewN w nq))
  go_wp2_with (at_builtin; go_loud (refine wpList_str (l := l) rfl _ _ rfl (Q1.out).row t (by have := Q1.out.hm; have := HH.out.1; omega) HH.out.2 (by rw [← Hm.out]; rfl) (by rw [← HT.out]; rfl) ?_); intro ao' cap' w1 o1 t1 p1; have O1 := hide' (And.intro o1 (And.intro t1 p1)); have hf : w1.frozen? ⟨b, 1, none⟩ = false := Lib.frozen_of_heap ((t1.block b Q1.out.lt Q1.out.na).trans Q1.out.hp) 1; have c1' : w1.cell? ⟨b, 1, none⟩ = some (.slice ao l.length cap) := (t1.cell (p := ⟨b, 1, none⟩) Q1.out.lt Q1.out.na).trans Q1.out.c1; clear o1 t1 p1)
  go_ret
  obtain ⟨o1, t1, p1⟩ := O1.out
  obtain ⟨d1, d2, d3⟩ := Q1.out.app o1 t1 p1 HH.out.1
  refine ⟨rfl, ao', cap', ?_, ?_, ?_⟩
  · rw [← List.length_append]; exact d1
  · rw [← List.length_append]; exact ((Turn.refl _ w).drewN nq).trans d2
  · exact d3
set_option maxRecDepth 100000 in
set_option maxHeartbeats 1000000 in
theorem sync_any (q : Dk B b room l s ao cap w) : Calls Try.prog 44 #[.pointer (some ⟨b, 0, none⟩)] w fun e w' => e = .returned (.tuple #[]) ∧ Dk B b room l l.length ao cap w' ∧ Turn (fun j => j = b) w w' := by
  have c1 := q.c1
  have c2 := q.c2
  have hf := q.f 2
  have HQ := hide' q
  obtain ⟨m, hm⟩ : ∃ m, m = l.length := ⟨_, rfl⟩
  have Hm := hide' hm
  rw [← hm] at c1
  clear q hm
  go_enter Try.func44, Try.ntmps44
  go_wp2
  go_end0
  rw [Hm.out]
  exact ⟨rfl, HQ.out.syn⟩
set_option maxRecDepth 100000 in
set_option maxHeartbeats 1000000 in
theorem bytes_any (q : Dk B b room l s ao cap w) : Calls Try.prog 38 #[.pointer (some ⟨b, 0, none⟩)] w fun e w' => e = .returned (.string (sb l)) ∧ w' = w := by
  have c1 := q.c1
  have hc := conv q.row l.length cap (Nat.le_refl _)
  rw [List.take_length] at hc
  obtain ⟨m, hm⟩ : ∃ m, m = l.length := ⟨_, rfl⟩
  rw [← hm] at c1 hc
  generalize sb l = L at *
  clear q hm
  go_enter Try.func38, Try.ntmps38
  go_wp2
  go_ret
  exact ⟨rfl, rfl⟩
set_option maxRecDepth 100000 in
set_option maxHeartbeats 1000000 in
theorem safe_any (q : Dk B b room l s ao cap w) : Calls Try.prog 42 #[.pointer (some ⟨b, 0, none⟩)] w fun e w' => e = .returned (.int .i64 (s : Nat)) ∧ w' = w := by
  have c2 := q.c2
  clear q
  go_enter Try.func42, Try.ntmps42
  go_wp2
  go_ret
  exact ⟨rfl, rfl⟩
/-- what a cut keeps -/
def kp (s n : Nat) (k : Int) : Nat := min n (s + k.toNat)
end K
end Go.Proofs.Ytihdagehenmolaa
