import Derived.Test.YtjhnlmedmpcgoaaMac
import Derived.Test.YtjhnlmedmpcgoaaPik
set_option linter.unusedVariables false
set_option linter.unusedSimpArgs false
namespace Go.Proofs.Ytjhnlmedmpcgoaa
open Go.RowKit
namespace W
open C (Own)
/-- BLOCK c IS ONE OF OURS that ends at n, that has made steps at ts -/
structure Cn (B c : Nat) (n : Int) (ao : Option Addr) (cap : Nat) (ts : List Int) (w : World) : Prop where
  hc : w.heap[c]? = some (.cells #[.int .i64 n, .slice ao ts.length cap] 78 (0, 0))
  row : w.ownsRow B 3 1 (.slice ao ts.length cap) ts.length (ivs ts)
  lo : B ≤ c
variable {B c : Nat} {n : Int} {ao : Option Addr} {cap : Nat} {ts : List Int} {w w' : World}
theorem Cn.lt (h : Cn B c n ao cap ts w) : c < w.heap.size := lt_of_heap h.hc
theorem Cn.at (h : Cn B c n ao cap ts w) {j : Nat} (hj : At ao j) : j ≠ c ∧ B ≤ j ∧ j < w.heap.size := by
  obtain ⟨a, rfl, rfl⟩ := hj
  rcases h.row.2 with ⟨hv, _⟩ | ⟨g', cap', cur, hv, hb, hg', _⟩
  · cases hv
  · simp only [Value.slice.injEq, Option.some.injEq] at hv
    obtain ⟨rfl, _, _⟩ := hv
    exact ⟨cells_ne hg' h.hc (by decide), hb, lt_of_heap hg'⟩
/-- its row lies in a block of numbers -/
theorem Cn.kind (h : Cn B c n ao cap ts w) {j : Nat} (hj : At ao j) : ∃ cs r, w.heap[j]? = some (.cells cs 3 r) := by
  obtain ⟨a, rfl, rfl⟩ := hj
  rcases h.row.2 with ⟨hv, _⟩ | ⟨g', cap', cur, hv, hb, hg', _⟩
  · cases hv
  · simp only [Value.slice.injEq, Option.some.injEq] at hv
    obtain ⟨rfl, _, _⟩ := hv
    exact ⟨_, _, hg'⟩
theorem Cn.own (h : Cn B c n ao cap ts w) {j : Nat} (hj : Own c ao j) : B ≤ j ∧ j < w.heap.size := by
  rcases hj with rfl | hj
  · exact ⟨h.lo, h.lt⟩
  · exact (h.at hj).2
theorem Cn.kept {S : Nat → Prop} (h : Cn B c n ao cap ts w) (t : Turn S w w') (hn : ∀ j, Own c ao j → ¬ S j) : Cn B c n ao cap ts w' :=
  ⟨(t.block c h.lt (hn c (.inl rfl))).trans h.hc, t.row h.row (fun j hj => hn j (.inr (own_at hj))), h.lo⟩
theorem Cn.c0 (h : Cn B c n ao cap ts w) : w.cell? ⟨c, 0, none⟩ = some (.int .i64 n) := by rw [Lib.cell_of_heap h.hc]; rfl
theorem Cn.c1 (h : Cn B c n ao cap ts w) : w.cell? ⟨c, 1, none⟩ = some (.slice ao ts.length cap) := by rw [Lib.cell_of_heap h.hc]; rfl
theorem Cn.fx (h : Cn B c n ao cap ts w) (j : Nat) : w.frozen? ⟨c, j, none⟩ = false := Lib.frozen_of_heap h.hc j
theorem step_core {v : Int} {gg cap' : Nat} {w1 : World} (h : Cn B c n ao cap ts w) (r1 : w1.ownsRow B 3 1 (.slice (some ⟨gg, 0, none⟩) (ts ++ [v]).length cap') (ts ++ [v]).length (ivs (ts ++ [v]))) {m : Nat} (t1 : Turn (At ao) (w.drewN m) w1) (hg1 : At ao gg ∨ (w.drewN m).heap.size ≤ gg) :
    Cn B c n (some ⟨gg, 0, none⟩) cap' (ts ++ [v]) (w1.setCell ⟨c, 1, none⟩ (.slice (some ⟨gg, 0, none⟩) (ts.length + 1) cap')) ∧ Turn (Own c ao) w (w1.setCell ⟨c, 1, none⟩ (.slice (some ⟨gg, 0, none⟩) (ts.length + 1) cap')) ∧ (At ao gg ∨ w.heap.size ≤ gg) := by
  have hg1' : At ao gg ∨ w.heap.size ≤ gg := hg1
  have hne : gg ≠ c := by
    rcases hg1' with q | q
    · exact (h.at q).1
    · have := h.lt; omega
  have t0 : Turn (At ao) w w1 := ((Turn.refl _ w).drewN m).trans t1
  have hx1 := (t0.block c h.lt (fun q => (h.at q).1 rfl)).trans h.hc
  have t2 : Turn (fun k => k = c) w1 (w1.setCell ⟨c, 1, none⟩ (.slice (some ⟨gg, 0, none⟩) (ts.length + 1) cap')) := (Turn.refl (fun k => k = c) w1).setCell (p := ⟨c, 1, none⟩) (fun _ => rfl) _
  refine ⟨⟨?_, ?_, h.lo⟩, ?_, hg1'⟩
  · rw [List.length_append]; exact set_block hx1
  · exact t2.row r1 (fun j hj e => by
      have : gg = j := by simpa [Value.ownBlock] using hj
      omega)
  · exact (t0.mono (S' := Own c ao) (fun k _ q => .inr q)).trans (t2.mono (fun k _ e => .inl e))

def fn (n : Int) (m : Nat) : Bool := decide (1 ≤ n ∧ n ≤ (m : Int))
set_option maxRecDepth 100000 in
set_option maxHeartbeats 4000000 in
theorem step_more (v : Int) (h : Cn B c n ao cap ts w) (hB : B ≤ w.heap.size) (hs : ts.length < 17592186043904) :
    Calls Try.prog 83 #[.pointer (some ⟨c, 0, none⟩), .int .i64 v] w fun e w' => e = .returned (.bool (fn n (ts ++ [v]).length)) ∧ ∃ gg cap', Cn B c n (some ⟨gg, 0, none⟩) cap' (ts ++ [v]) w' ∧ Turn (Own c ao) w w' ∧ (At ao gg ∨ w.heap.size ≤ gg) := by
  have c0 := h.c0
  have c1 := h.c1
  have f1 := h.fx 1
  have HR := hide' h.row
  have n1 : Hid (ts.length < 17592186044000) := (show ts.length < 17592186044000 by omega)
  have H := hide' h
  have HB := hide' hB
  have hd0 : w.drewN 0 = w := rfl
  clear hs h hB
  go_enter Try.func83, Try.ntmps83
  go_wp2_with (at_builtin; refine wpList_num w rfl _ _ rfl HR.out n1 HB.out v _ rfl rfl ?_; intro gg cap' w1 r1 t1 hg1; have K1 := hide' (step_core (m := 0) (v := v) H.out r1 t1 hg1); have a0 : w1.cell? ⟨c, 1, none⟩ = some (.slice ao ts.length cap) := (t1.cell (p := ⟨c, 1, none⟩) H.out.lt (fun q => (H.out.at q).1 rfl)).trans c1; have a1 : w1.frozen? ⟨c, 1, none⟩ = false := World.frozen?_of_block (w := w) (t1.block c H.out.lt (fun q => (H.out.at q).1 rfl)) |>.trans (H.out.fx 1); clear r1 t1 hg1)
  have b0 := K1.out.1.c0
  have b1 := K1.out.1.c1
  generalize (w1.setCell ⟨c, 1, none⟩ (.slice (some ⟨gg, 0, none⟩) (ts.length + 1) cap')) = X at *
  clear a0 a1 c0 c1 f1 hd0
  rw [List.length_append] at b1
  by_cases h1 : 1 ≤ n
  · go_wp2_with fail
    go_quiet (fail)
    go_wp2
    go_ret
    refine ⟨?_, gg, cap', K1.out.1.kept ((Turn.refl (fun _ => False) X).drewN _) (fun _ _ q => q), K1.out.2.1.drewN _, K1.out.2.2⟩
    show Ending.returned (.bool (decide (n ≤ (ts.length : Int) + 1))) = _
    congr 2
    unfold fn
    rw [List.length_append]
    simp [h1]
  · have h2 : decide (1 ≤ n) = false := decide_eq_false h1
    go_wp2_with fail
    go_quiet (fail)
    go_wp2
    go_ret
    refine ⟨?_, gg, cap', K1.out.1.kept ((Turn.refl (fun _ => False) X).drewN _) (fun _ _ q => q), K1.out.2.1.drewN _, K1.out.2.2⟩
    unfold fn
    simp [h1]
    intro hq
    omega
/-- a counter, and the blocks that are its own -/
def Ct (D : Nat → Prop) (B c : Nat) (n : Int) (ts : List Int) (w : World) : Prop := ∃ ao cap, Cn B c n ao cap ts w ∧ ∀ j, D j ↔ Own c ao j
variable {D : Nat → Prop}
theorem Ct.lo (h : Ct D B c n ts w) {j : Nat} (hj : D j) : B ≤ j ∧ j < w.heap.size := by
  obtain ⟨ao, cap, hm, hd⟩ := h
  exact hm.own ((hd j).1 hj)
theorem Ct.kept {S : Nat → Prop} (h : Ct D B c n ts w) (t : Turn S w w') (hn : ∀ j, D j → ¬ S j) : Ct D B c n ts w' := by
  obtain ⟨ao, cap, hm, hd⟩ := h
  exact ⟨ao, cap, hm.kept t (fun j hj => hn j ((hd j).2 hj)), hd⟩
/-- its blocks are of two kinds -/
theorem Ct.kind (h : Ct D B c n ts w) {j : Nat} (hj : D j) : ∃ cs t r, w.heap[j]? = some (.cells cs t r) ∧ (t = 78 ∨ t = 3) := by
  obtain ⟨ao, cap, hm, hd⟩ := h
  rcases (hd j).1 hj with rfl | q
  · exact ⟨_, _, _, hm.hc, .inl rfl⟩
  · obtain ⟨cs, r, hh⟩ := hm.kind q
    exact ⟨_, _, _, hh, .inr rfl⟩
/-- what a call leaves -/
def To (D : Nat → Prop) (B c : Nat) (n : Int) (ts : List Int) (w w' : World) : Prop := ∃ D', Ct D' B c n ts w' ∧ Turn D w w' ∧ ∀ j, D' j → D j ∨ w.heap.size ≤ j

theorem step_any (v : Int) (h : Ct D B c n ts w) (hB : B ≤ w.heap.size) (hs : ts.length < 17592186043904) :
    Calls Try.prog 83 #[.pointer (some ⟨c, 0, none⟩), .int .i64 v] w fun e w' => e = .returned (.bool (fn n (ts ++ [v]).length)) ∧ To D B c n (ts ++ [v]) w w' := by
  obtain ⟨ao, cap, hm, hd⟩ := h
  refine (step_more v hm hB hs).mono ?_
  rintro e w' ⟨rfl, gg, cap', h1, t1, hg⟩
  refine ⟨rfl, Own c (some ⟨gg, 0, none⟩), ⟨_, _, h1, fun j => Iff.rfl⟩, t1.mono (fun k _ q => (hd k).2 q), ?_⟩
  rintro j (rfl | ⟨a, ha, rfl⟩)
  · exact .inl ((hd _).2 (.inl rfl))
  · cases ha
    rcases hg with q | q
    · exact .inl ((hd _).2 (.inr q))
    · exact .inr q
end W
namespace N
/-- BLOCK c IS A COUNTER of n steps, that has made steps at ts -/
structure Cn (B c : Nat) (n : Int) (ao : Option Addr) (cap : Nat) (ts : List Int) (w : World) : Prop where
  hc : w.heap[c]? = some (.cells #[.int .i64 n, .bool true, .slice ao ts.length cap] 33 (0, 0))
  row : w.ownsRow B 3 1 (.slice ao ts.length cap) ts.length (ivs ts)
  lo : B ≤ c
def Own (c : Nat) (ao : Option Addr) (j : Nat) : Prop := j = c ∨ At ao j
variable {B c : Nat} {n : Int} {ao : Option Addr} {cap : Nat} {ts : List Int} {w w' : World}
theorem Cn.lt (h : Cn B c n ao cap ts w) : c < w.heap.size := lt_of_heap h.hc
theorem Cn.at (h : Cn B c n ao cap ts w) {j : Nat} (hj : At ao j) : j ≠ c ∧ B ≤ j ∧ j < w.heap.size := by
  obtain ⟨a, rfl, rfl⟩ := hj
  rcases h.row.2 with ⟨hv, _⟩ | ⟨g', cap', cur, hv, hb, hg', _⟩
  · cases hv
  · simp only [Value.slice.injEq, Option.some.injEq] at hv
    obtain ⟨rfl, _, _⟩ := hv
    exact ⟨cells_ne hg' h.hc (by decide), hb, lt_of_heap hg'⟩
/-- its row lies in a block of numbers -/
theorem Cn.kind (h : Cn B c n ao cap ts w) {j : Nat} (hj : At ao j) : ∃ cs r, w.heap[j]? = some (.cells cs 3 r) := by
  obtain ⟨a, rfl, rfl⟩ := hj
  rcases h.row.2 with ⟨hv, _⟩ | ⟨g', cap', cur, hv, hb, hg', _⟩
  · cases hv
  · simp only [Value.slice.injEq, Option.some.injEq] at hv
    obtain ⟨rfl, _, _⟩ := hv
    exact ⟨_, _, hg'⟩
theorem Cn.own (h : Cn B c n ao cap ts w) {j : Nat} (hj : Own c ao j) : B ≤ j ∧ j < w.heap.size := by
  rcases hj with rfl | hj
  · exact ⟨h.lo, h.lt⟩
  · exact (h.at hj).2
theorem Cn.kept {S : Nat → Prop} (h : Cn B c n ao cap ts w) (t : Turn S w w') (hn : ∀ j, Own c ao j → ¬ S j) : Cn B c n ao cap ts w' :=
  ⟨(t.block c h.lt (hn c (.inl rfl))).trans h.hc, t.row h.row (fun j hj => hn j (.inr (own_at hj))), h.lo⟩
theorem Cn.c0 (h : Cn B c n ao cap ts w) : w.cell? ⟨c, 0, none⟩ = some (.int .i64 n) := by rw [Lib.cell_of_heap h.hc]; rfl
theorem Cn.c1 (h : Cn B c n ao cap ts w) : w.cell? ⟨c, 2, none⟩ = some (.slice ao ts.length cap) := by rw [Lib.cell_of_heap h.hc]; rfl
theorem Cn.c9 (h : Cn B c n ao cap ts w) : w.cell? ⟨c, 1, none⟩ = some (.bool true) := by rw [Lib.cell_of_heap h.hc]; rfl
theorem Cn.fx (h : Cn B c n ao cap ts w) (j : Nat) : w.frozen? ⟨c, j, none⟩ = false := Lib.frozen_of_heap h.hc j
theorem step_core {v : Int} {gg cap' : Nat} {w1 : World} (h : Cn B c n ao cap ts w) (r1 : w1.ownsRow B 3 1 (.slice (some ⟨gg, 0, none⟩) (ts ++ [v]).length cap') (ts ++ [v]).length (ivs (ts ++ [v]))) {m : Nat} (t1 : Turn (At ao) (w.drewN m) w1) (hg1 : At ao gg ∨ (w.drewN m).heap.size ≤ gg) :
    Cn B c n (some ⟨gg, 0, none⟩) cap' (ts ++ [v]) (w1.setCell ⟨c, 2, none⟩ (.slice (some ⟨gg, 0, none⟩) (ts.length + 1) cap')) ∧ Turn (Own c ao) w (w1.setCell ⟨c, 2, none⟩ (.slice (some ⟨gg, 0, none⟩) (ts.length + 1) cap')) ∧ (At ao gg ∨ w.heap.size ≤ gg) := by
  have hg1' : At ao gg ∨ w.heap.size ≤ gg := hg1
  have hne : gg ≠ c := by
    rcases hg1' with q | q
    · exact (h.at q).1
    · have := h.lt; omega
  have t0 : Turn (At ao) w w1 := ((Turn.refl _ w).drewN m).trans t1
  have hx1 := (t0.block c h.lt (fun q => (h.at q).1 rfl)).trans h.hc
  have t2 : Turn (fun k => k = c) w1 (w1.setCell ⟨c, 2, none⟩ (.slice (some ⟨gg, 0, none⟩) (ts.length + 1) cap')) := (Turn.refl (fun k => k = c) w1).setCell (p := ⟨c, 2, none⟩) (fun _ => rfl) _
  refine ⟨⟨?_, ?_, h.lo⟩, ?_, hg1'⟩
  · rw [List.length_append]; exact set_block hx1
  · exact t2.row r1 (fun j hj e => by
      have : gg = j := by simpa [Value.ownBlock] using hj
      omega)
  · exact (t0.mono (S' := Own c ao) (fun k _ q => .inr q)).trans (t2.mono (fun k _ e => .inl e))

set_option maxRecDepth 100000 in
set_option maxHeartbeats 4000000 in
theorem step_more (v : Int) (h : Cn B c n ao cap ts w) (hB : B ≤ w.heap.size) (hs : ts.length < 17592186043904) :
    Calls Try.prog 16 #[.pointer (some ⟨c, 0, none⟩), .int .i64 v] w fun e w' => e = .returned (.bool (W.fn n (ts ++ [v]).length)) ∧ ∃ gg cap', Cn B c n (some ⟨gg, 0, none⟩) cap' (ts ++ [v]) w' ∧ Turn (Own c ao) w w' ∧ (At ao gg ∨ w.heap.size ≤ gg) := by
  have c0 := h.c0
  have c1 := h.c1
  have c9 := h.c9
  have HR := hide' h.row
  have n1 : Hid (ts.length < 17592186044000) := (show ts.length < 17592186044000 by omega)
  have H := hide' h
  have HB := hide' hB
  clear hs h hB
  go_enter Try.func16, Try.ntmps16
  go_wp2_with fail
  go_quiet (fail)
  go_wp2_with (at_builtin; refine wpList_num (w.drewN nq) rfl _ _ rfl HR.out n1 HB.out v _ rfl rfl ?_; intro gg cap' w1 r1 t1 hg1; have K1 := hide' (step_core (v := v) H.out r1 t1 hg1); have a0 : w1.cell? ⟨c, 2, none⟩ = some (.slice ao ts.length cap) := (t1.cell (p := ⟨c, 2, none⟩) H.out.lt (fun q => (H.out.at q).1 rfl)).trans c1; have a1 : w1.frozen? ⟨c, 2, none⟩ = false := World.frozen?_of_block (w := w) (t1.block c H.out.lt (fun q => (H.out.at q).1 rfl)) |>.trans (H.out.fx 2); clear r1 t1 hg1)
  have b0 := K1.out.1.c0
  have b1 := K1.out.1.c1
  generalize (w1.setCell ⟨c, 2, none⟩ (.slice (some ⟨gg, 0, none⟩) (ts.length + 1) cap')) = X at *
  clear a0 a1 c0 c1 c9
  rw [List.length_append] at b1
  by_cases h1 : 1 ≤ n
  · go_wp2_with fail
    go_quiet (fail)
    go_wp2
    go_ret
    refine ⟨?_, gg, cap', K1.out.1.kept ((Turn.refl (fun _ => False) X).drewN _) (fun _ _ q => q), K1.out.2.1.drewN _, K1.out.2.2⟩
    show Ending.returned (.bool (decide (n ≤ (ts.length : Int) + 1))) = _
    congr 2
    unfold W.fn
    rw [List.length_append]
    simp [h1]
  · have h2 : decide (1 ≤ n) = false := decide_eq_false h1
    go_wp2_with fail
    go_quiet (fail)
    go_wp2
    go_ret
    refine ⟨?_, gg, cap', K1.out.1.kept ((Turn.refl (fun _ => False) X).drewN _) (fun _ _ q => q), K1.out.2.1.drewN _, K1.out.2.2⟩
    unfold W.fn
    simp [h1]
    intro hq
    omega
/-- a counter, and the blocks that are its own -/
def Ct (D : Nat → Prop) (B c : Nat) (n : Int) (ts : List Int) (w : World) : Prop := ∃ ao cap, Cn B c n ao cap ts w ∧ ∀ j, D j ↔ Own c ao j
variable {D : Nat → Prop}
theorem Ct.lo (h : Ct D B c n ts w) {j : Nat} (hj : D j) : B ≤ j ∧ j < w.heap.size := by
  obtain ⟨ao, cap, hm, hd⟩ := h
  exact hm.own ((hd j).1 hj)
theorem Ct.kept {S : Nat → Prop} (h : Ct D B c n ts w) (t : Turn S w w') (hn : ∀ j, D j → ¬ S j) : Ct D B c n ts w' := by
  obtain ⟨ao, cap, hm, hd⟩ := h
  exact ⟨ao, cap, hm.kept t (fun j hj => hn j ((hd j).2 hj)), hd⟩
/-- its blocks are of two kinds -/
theorem Ct.kind (h : Ct D B c n ts w) {j : Nat} (hj : D j) : ∃ cs t r, w.heap[j]? = some (.cells cs t r) ∧ (t = 33 ∨ t = 3) := by
  obtain ⟨ao, cap, hm, hd⟩ := h
  rcases (hd j).1 hj with rfl | q
  · exact ⟨_, _, _, hm.hc, .inl rfl⟩
  · obtain ⟨cs, r, hh⟩ := hm.kind q
    exact ⟨_, _, _, hh, .inr rfl⟩
/-- what a call leaves -/
def To (D : Nat → Prop) (B c : Nat) (n : Int) (ts : List Int) (w w' : World) : Prop := ∃ D', Ct D' B c n ts w' ∧ Turn D w w' ∧ ∀ j, D' j → D j ∨ w.heap.size ≤ j

theorem step_any (v : Int) (h : Ct D B c n ts w) (hB : B ≤ w.heap.size) (hs : ts.length < 17592186043904) :
    Calls Try.prog 16 #[.pointer (some ⟨c, 0, none⟩), .int .i64 v] w fun e w' => e = .returned (.bool (W.fn n (ts ++ [v]).length)) ∧ To D B c n (ts ++ [v]) w w' := by
  obtain ⟨ao, cap, hm, hd⟩ := h
  refine (step_more v hm hB hs).mono ?_
  rintro e w' ⟨rfl, gg, cap', h1, t1, hg⟩
  refine ⟨rfl, Own c (some ⟨gg, 0, none⟩), ⟨_, _, h1, fun j => Iff.rfl⟩, t1.mono (fun k _ q => (hd k).2 q), ?_⟩
  rintro j (rfl | ⟨a, ha, rfl⟩)
  · exact .inl ((hd _).2 (.inl rfl))
  · cases ha
    rcases hg with q | q
    · exact .inl ((hd _).2 (.inr q))
    · exact .inr q
end N
end Go.Proofs.Ytjhnlmedmpcgoaa
