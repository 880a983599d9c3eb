import Derived.Test.YtihdagehenmolaaTwI
set_option linter.unusedVariables false
set_option linter.unusedSimpArgs false
namespace Go.Proofs.Ytihdagehenmolaa
open Go.RowKit
namespace J
open M K
variable {B t : Nat} {w w' : World} {room : Int} {L : List UInt8}
/-- what is made: a side of its own -/
def MA (w w' : World) (t : Nat) : Prop := ∃ S, Sd w.heap.size t S w' ∧ Below w.heap.size w w'
/-- a start in its box -/
def BS (L : List UInt8) (room : Int) : Obj := .cells #[.string (sb L), .int .i64 room] 37
set_option maxRecDepth 100000 in
set_option maxHeartbeats 4000000 in
theorem made_range (h : room < 0 ∨ 1048576 < room) : Calls Try.prog 19 #[.agg #[.string (sb L), .int .i64 room]] w fun r w' => ∃ t, r = .returned (.tuple #[.pointer (some ⟨t, 0, none⟩), .bool true]) ∧ MA w w' t := by
  obtain ⟨T, hT⟩ : ∃ T, T = sb L := ⟨_, rfl⟩
  obtain ⟨w1, hw1⟩ : ∃ w1, w1 = w.alloc (BS L room) := ⟨_, rfl⟩
  obtain ⟨bx, hbx⟩ : ∃ x, x = w.heap.size := ⟨_, rfl⟩
  have b1 : Below w.heap.size w w1 := by rw [hw1]; exact below_al w _
  have x1 : w1.heap[bx]? = some (BS L room) := by rw [hw1, hbx]; exact heap_alloc_new w _
  have o0 : w1.cell? ⟨bx, 0, none⟩ = some (.string (sb L)) := Lib.cell_of_heap x1 0
  have o1 : w1.cell? ⟨bx, 1, none⟩ = some (.int .i64 room) := Lib.cell_of_heap x1 1
  have C1 := hide' (open_range (.string T) w1 h)
  have Hw1 : Hid (w1 = w.alloc (.cells #[.string T, .int .i64 room] 37)) := hide' (by rw [hw1, hT]; rfl)
  have Hbx := hide' hbx
  rw [← hT] at o0 ⊢
  obtain ⟨w2, hw2⟩ : ∃ w2, w2 = w1.alloc (.cells #[.pointer none, .pointer none, .string ⟨#[]⟩, .int .i64 0, .int .i64 0, .slice none 0 0] 54) := ⟨_, rfl⟩
  have K1 : Hid (MA w w2 w1.heap.size) := hide' (by
    have hz := b1.size
    refine ⟨fun j => j = w1.heap.size, ⟨hz, rfl, fun j hj => ?_, .inl ⟨#[.pointer none, .pointer none, .string ⟨#[]⟩, .int .i64 0, .int .i64 0, .slice none 0 0], ?_, rfl⟩⟩, ?_⟩
    · rw [hj, hw2]; exact ⟨hz, by simp⟩
    · rw [hw2]; exact heap_alloc_new w1 _
    · rw [hw2]; exact b1.trans ((below_al w1 _).mono hz))
  have Hw2 := hide' hw2
  have ht := sb_size L
  clear hT hw1 b1 x1 hw2 hbx
  rcases h with h | h
  · have g1 : ¬ (0 : Int) ≤ room := by omega
    clear h
    go_enter Try.func19, Try.ntmps19
    go_upto_region 1 with fail
    rw [← Hw1.out, ← Hbx.out]
    go_wp2_with fail
    refine C1.out.mono ?_
    rintro e w3 ⟨rfl, rfl⟩
    clear C1 Hw1 Hbx
    go_wp2
    rw [← Hw2.out]
    go_ret2
    exact ⟨_, rfl, K1.out⟩
  · have g1 : (0 : Int) ≤ room := by omega
    have g2 : ¬ room ≤ (1048576 : Int) := by omega
    clear h
    go_enter Try.func19, Try.ntmps19
    go_upto_region 1 with fail
    rw [← Hw1.out, ← Hbx.out]
    go_wp2_with fail
    refine C1.out.mono ?_
    rintro e w3 ⟨rfl, rfl⟩
    clear C1 Hw1 Hbx
    go_wp2
    rw [← Hw2.out]
    go_ret2
    exact ⟨_, rfl, K1.out⟩
set_option maxRecDepth 100000 in
set_option maxHeartbeats 4000000 in
theorem made_full (h0 : 0 ≤ room) (h1 : room ≤ 1048576) (h2 : room < (L.length : Int)) : Calls Try.prog 19 #[.agg #[.string (sb L), .int .i64 room]] w fun r w' => ∃ t, r = .returned (.tuple #[.pointer (some ⟨t, 0, none⟩), .bool true]) ∧ MA w w' t := by
  obtain ⟨T, hT⟩ : ∃ T, T = sb L := ⟨_, rfl⟩
  obtain ⟨w1, hw1⟩ : ∃ w1, w1 = w.alloc (BS L room) := ⟨_, rfl⟩
  obtain ⟨bx, hbx⟩ : ∃ x, x = w.heap.size := ⟨_, rfl⟩
  have b1 : Below w.heap.size w w1 := by rw [hw1]; exact below_al w _
  have x1 : w1.heap[bx]? = some (BS L room) := by rw [hw1, hbx]; exact heap_alloc_new w _
  have o0 : w1.cell? ⟨bx, 0, none⟩ = some (.string (sb L)) := Lib.cell_of_heap x1 0
  have o1 : w1.cell? ⟨bx, 1, none⟩ = some (.int .i64 room) := Lib.cell_of_heap x1 1
  have C1 := hide' (open_full L w1 h0 h1 h2)
  have z := sb_size L
  obtain ⟨m, hm⟩ : ∃ m, m = L.length := ⟨_, rfl⟩
  have Hw1 : Hid (w1 = w.alloc (.cells #[.string T, .int .i64 room] 37)) := hide' (by rw [hw1, hT]; rfl)
  have Hbx := hide' hbx
  have K1 := hide' (And.intro b1 x1)
  rw [← hT] at o0 C1 z ⊢
  rw [← hm] at z h2
  have g1 : decide ((m : Int) ≤ room) = false := decide_eq_false (by omega)
  clear hw1 b1 x1 hbx h2 hm
  have HT := hide' hT
  clear hT
  go_enter Try.func19, Try.ntmps19
  go_upto_region 1 with fail
  rw [← Hw1.out, ← Hbx.out]
  go_wp2_with fail
  refine C1.out.mono ?_
  rintro e w2 ⟨rfl, b2⟩
  have x2 := (b2.block bx (lt_of_heap K1.out.2)).trans K1.out.2
  have p0 : w2.cell? ⟨bx, 0, none⟩ = some (.string T) := by rw [HT.out]; exact Lib.cell_of_heap x2 0
  have p1 : w2.cell? ⟨bx, 1, none⟩ = some (.int .i64 room) := Lib.cell_of_heap x2 1
  obtain ⟨w3, hw3⟩ : ∃ w3, w3 = w2.alloc (.cells #[.pointer none, .pointer none, .string ⟨#[]⟩, .int .i64 0, .int .i64 0, .slice none 0 0] 54) := ⟨_, rfl⟩
  have bb : Below w.heap.size w w2 := K1.out.1.trans (b2.mono K1.out.1.size)
  have K2 : Hid (MA w w3 w2.heap.size) := hide' (by
    have hz := bb.size
    refine ⟨fun j => j = w2.heap.size, ⟨hz, rfl, fun j hj => ?_, .inl ⟨#[.pointer none, .pointer none, .string ⟨#[]⟩, .int .i64 0, .int .i64 0, .slice none 0 0], ?_, rfl⟩⟩, ?_⟩
    · rw [hj, hw3]; exact ⟨hz, by simp⟩
    · rw [hw3]; exact heap_alloc_new w2 _
    · rw [hw3]; exact bb.trans ((below_al w2 _).mono hz))
  have Hw3 := hide' hw3
  clear C1 Hw1 Hbx b2 x2 bb hw3 o0 o1
  go_wp2
  rw [← Hw3.out]
  go_ret2
  exact ⟨_, rfl, K2.out⟩
theorem rds_some : ∀ (n : Nat) (L : List UInt8), L.length ≤ n → ∃ es, Rds L es := by
  intro n
  induction n with
  | zero =>
    intro L h
    have : L = [] := List.length_eq_zero_iff.1 (by omega)
    subst this
    exact ⟨[], Rds.none bare_nil⟩
  | succ n ih =>
    intro L h
    by_cases hb : Bare L
    · exact ⟨[], Rds.none hb⟩
    · unfold Bare at hb
      simp only [Classical.not_forall, ne_eq, Classical.not_not] at hb
      obtain ⟨e, he, x, rfl⟩ := hb
      rw [List.length_append, rec_len] at h
      obtain ⟨es, hs⟩ := ih x (by omega)
      exact ⟨e :: es, hs.more e he⟩
theorem rds_cut {es : List En} (h : Rds L es) : (recs es).length < L.length ∨ L = recs es := by
  obtain ⟨_, r, e, _⟩ := h
  cases r with
  | nil => exact .inr (by rw [e]; simp)
  | cons a b => exact .inl (by rw [e, List.length_append]; simp)
set_option maxRecDepth 100000 in
set_option maxHeartbeats 4000000 in
theorem made_ok (h2 : (L.length : Int) ≤ room) (h1 : room ≤ 1048576) : Calls Try.prog 19 #[.agg #[.string (sb L), .int .i64 room]] w fun r w' => ∃ t, r = .returned (.tuple #[.pointer (some ⟨t, 0, none⟩), .bool true]) ∧ MA w w' t := by
  obtain ⟨T, hT⟩ : ∃ T, T = sb L := ⟨_, rfl⟩
  obtain ⟨w1, hw1⟩ : ∃ w1, w1 = w.alloc (BS L room) := ⟨_, rfl⟩
  obtain ⟨bx, hbx⟩ : ∃ x, x = w.heap.size := ⟨_, rfl⟩
  have b1 : Below w.heap.size w w1 := by rw [hw1]; exact below_al w _
  have x1 : w1.heap[bx]? = some (BS L room) := by rw [hw1, hbx]; exact heap_alloc_new w _
  have o0 : w1.cell? ⟨bx, 0, none⟩ = some (.string (sb L)) := Lib.cell_of_heap x1 0
  have o1 : w1.cell? ⟨bx, 1, none⟩ = some (.int .i64 room) := Lib.cell_of_heap x1 1
  have C1 := hide' (open_ok L w1 h2 h1)
  have z := sb_size L
  obtain ⟨m, hm⟩ : ∃ m, m = L.length := ⟨_, rfl⟩
  have Hw1 : Hid (w1 = w.alloc (.cells #[.string T, .int .i64 room] 37)) := hide' (by rw [hw1, hT]; rfl)
  have Hbx := hide' hbx
  have K1 := hide' (And.intro b1 x1)
  rw [← hT] at o0 C1 z ⊢
  rw [← hm] at z h2
  have g1 : (m : Int) ≤ room := h2
  have g3 : decide ((m : Int) ≤ room) = true := decide_eq_true h2
  have g2 : (0 : Int) ≤ room := by omega
  clear hw1 b1 x1 hbx h2
  have HT := hide' (And.intro hT hm)
  clear hT hm
  go_enter Try.func19, Try.ntmps19
  go_upto_region 1 with fail
  rw [← Hw1.out, ← Hbx.out]
  go_wp2_with fail
  refine C1.out.mono ?_
  rintro e w2 ⟨d, rfl, h2⟩
  obtain ⟨ao, cap, k2, b2⟩ := h2.out
  have x2 := (b2.block bx (lt_of_heap K1.out.2)).trans K1.out.2
  have p0 : w2.cell? ⟨bx, 0, none⟩ = some (.string T) := by rw [HT.out.1]; exact Lib.cell_of_heap x2 0
  have p1 : w2.cell? ⟨bx, 1, none⟩ = some (.int .i64 room) := Lib.cell_of_heap x2 1
  have pa0 : ∀ o, (w2.alloc o).cell? ⟨bx, 0, none⟩ = some (.string T) := fun o => ((below_al w2 o).cell (p := ⟨bx, 0, none⟩) (lt_of_heap x2)).trans p0
  have pa1 : ∀ o, (w2.alloc o).cell? ⟨bx, 1, none⟩ = some (.int .i64 room) := fun o => ((below_al w2 o).cell (p := ⟨bx, 1, none⟩) (lt_of_heap x2)).trans p1
  have bb : Below w.heap.size w w2 := K1.out.1.trans (b2.mono K1.out.1.size)
  obtain ⟨t, ht⟩ : ∃ t, t = w2.heap.size := ⟨_, rfl⟩
  obtain ⟨w3, hw3⟩ : ∃ w3, w3 = w2.alloc (.cells #[.pointer (some ⟨d, 0, none⟩), .pointer none, .string T, .int .i64 room, .int .i64 (m : Int), .slice none 0 0] 54) := ⟨_, rfl⟩
  have b3 : Below w.heap.size w w3 := by rw [hw3]; exact bb.trans ((below_al w2 _).mono bb.size)
  have hf : Hf w.heap.size t d (.pointer none) L room L.length (.slice none 0 0) ao cap w3 := ⟨by rw [hw3, ht, HT.out.1, HT.out.2]; exact heap_alloc_new w2 _, by rw [hw3]; exact (k2.below (below_al w2 _)).mono K1.out.1.size, by rw [ht]; exact bb.size⟩
  have C2 : Hid (Calls Try.prog 39 #[.pointer (some ⟨t, 0, none⟩)] w3 fun r w' => r = .returned (.bool true) ∧ MA w w' t) := hide' (by
    obtain ⟨es, hs⟩ := rds_some L.length L (Nat.le_refl _)
    have tlow : ∀ j, j = t → w.heap.size ≤ j := fun j hj => by rw [hj]; exact hf.hb
    rcases rds_cut hs with hc | hc
    · refine (open_torn hf hs hc).mono fun r w' ⟨e1, e2, e3⟩ => ⟨e1, fun j => j = t, ⟨hf.hb, rfl, fun j hj => ⟨tlow j hj, ?_⟩, .inl e2⟩, b3.trans (e3.below tlow b3.size)⟩
      have := hf.lt
      have := e3.size
      omega
    · rw [hc] at hf
      refine (open_all hf hs.ok b3.size).mono fun r w' ⟨e1, e2⟩ => ⟨e1, ?_⟩
      obtain ⟨jb, lo, lc, k1, k3, _, _⟩ := e2.out
      exact ⟨LB t d jb ao lo, ⟨k1.hb, .inl rfl, fun j hj => k1.in hj, .inr ⟨_, _, _, _, _, _, _, _, _, k1, fun j hj => hj⟩⟩, b3.trans (k3.below tlow b3.size)⟩)
  have Hw3 := hide' (And.intro ht hw3)
  clear C1 Hw1 Hbx b2 x2 bb hw3 o0 o1 h2 k2 b3 hf ht
  go_wp2_with fail
  rw [← Hw3.out.2, ← Hw3.out.1]
  clear Hw3 p0 p1 pa0 pa1
  refine C2.out.mono ?_
  rintro e w4 ⟨rfl, h4⟩
  have K4 := hide' h4
  clear h4 C2
  go_wp2
  go_ret2
  exact ⟨_, rfl, K4.out⟩
theorem made_any (L : List UInt8) (room : Int) (w : World) : Calls Try.prog 19 #[.agg #[.string (sb L), .int .i64 room]] w fun r w' => ∃ t, r = .returned (.tuple #[.pointer (some ⟨t, 0, none⟩), .bool true]) ∧ MA w w' t := by
  by_cases h : room < 0 ∨ 1048576 < room
  · exact made_range h
  · by_cases h2 : room < (L.length : Int)
    · exact made_full (by omega) (by omega) h2
    · exact made_ok (by omega) (by omega)
end J
end Go.Proofs.Ytihdagehenmolaa
