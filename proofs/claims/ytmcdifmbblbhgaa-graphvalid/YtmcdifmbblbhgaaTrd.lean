import Derived.Test.YtmcdifmbblbhgaaRwl
set_option linter.unusedVariables false
set_option linter.unusedSimpArgs false
namespace Go.Proofs.Ytmcdifmbblbhgaa
open Go.RowKit Go.Maps
namespace V
open U D
/-- what has been turned so far -/
def trn (g : Nat → Nat) (i j : Nat) (k : Nat) : Nat := if k % 64 < i ∨ (k % 64 = i ∧ k / 64 < j) then g (k % 64 * 64 + k / 64) else 0
theorem trn_step (g : Nat → Nat) (i j : Nat) (hi : i < 64) (hj : j < 64) (k : Nat) : (if k = j * 64 + i then g (i * 64 + j) else trn g i j k) = trn g i (j + 1) k := by
  unfold trn
  by_cases e : k = j * 64 + i
  · have h1 : k % 64 = i := by omega
    have h2 : k / 64 = j := by omega
    rw [if_pos e, if_pos (.inr ⟨h1, by omega⟩), h1, h2]
  · rw [if_neg e]
    by_cases q : k % 64 < i ∨ (k % 64 = i ∧ k / 64 < j)
    · rw [if_pos q, if_pos (by omega)]
    · rw [if_neg q, if_neg (by omega)]
structure Tq (w : World) (q1 q2 q3 : Nat) (g h : Nat → Nat) (V : World) : Prop where
  b : Below w.heap.size w V
  h1 : V.heap[q1]? = some (.cells (tab 4096 g) 77 (0, 0))
  h2 : V.heap[q2]? = some (.cells (tab 4096 fun _ => 0) 77 (0, 0))
  h3 : V.heap[q3]? = some (.cells (tab 4096 h) 77 (0, 0))
  l : w.heap.size ≤ q3
  l2 : w.heap.size ≤ q2
  n : q2 ≠ q3
  n1 : q1 ≠ q3
theorem Tq.below {w : World} {q1 q2 q3 : Nat} {g h : Nat → Nat} {V V' : World} (t : Tq w q1 q2 q3 g h V) (b : Below V.heap.size V V') : Tq w q1 q2 q3 g h V' :=
  ⟨t.b.trans (b.mono t.b.size), (b.block _ (lt_of_heap t.h1)).trans t.h1, (b.block _ (lt_of_heap t.h2)).trans t.h2, (b.block _ (lt_of_heap t.h3)).trans t.h3, t.l, t.l2, t.n, t.n1⟩
theorem Tq.put {w : World} {q1 q2 q3 : Nat} {g h : Nat → Nat} {V : World} (t : Tq w q1 q2 q3 g h V) (p x : Nat) : Tq w q1 q2 q3 g (fun k => if k = p then x else h k) (V.setCell ⟨q3, p, none⟩ (.int .u16 (x : Int))) := by
  have tt : Turn (fun j => j = q3) V (V.setCell ⟨q3, p, none⟩ (.int .u16 (x : Int))) := set_turn q3 p _ V
  refine ⟨t.b.trans (tt.below (fun k e => by rw [e]; exact t.l) t.b.size), (tt.block _ (lt_of_heap t.h1) t.n1).trans t.h1, (tt.block _ (lt_of_heap t.h2) t.n).trans t.h2, ?_, t.l, t.l2, t.n, t.n1⟩
  rw [← tab_set]
  simp [World.setCell, Array.getElem?_modify, t.h3]
theorem row_set {V : World} {q t : Nat} {A : Array Value} {fr : Nat × Nat} (h : V.heap[q]? = some (.cells A t fr)) (B : Array Value) : (V.setRow q B).heap[q]? = some (.cells B t fr) := by
  simp [World.setRow, Array.getElem?_modify, h]
theorem below_setRow {B g : Nat} {w0 w : World} (hb : Below B w0 w) (hBg : B ≤ g) (cs : Array Value) : Below B w0 (w.setRow g cs) :=
  hb.trans ⟨rfl, rfl, rfl, by simp [World.setRow], fun k hk => setRow_other w g k cs (by omega)⟩
theorem tq_new (g : Nat → Nat) (w : World) : Tq w w.heap.size (w.alloc (.cells (tab 4096 g) 77)).heap.size ((w.alloc (.cells (tab 4096 g) 77)).alloc (.cells (tab 4096 fun _ => 0) 77)).heap.size g (fun _ => 0) (((w.alloc (.cells (tab 4096 g) 77)).alloc (.cells (tab 4096 fun _ => 0) 77)).alloc (.cells (tab 4096 fun _ => 0) 77)) := by
  have z1 : (w.alloc (.cells (tab 4096 g) 77)).heap.size = w.heap.size + 1 := by simp
  have z2 : ((w.alloc (.cells (tab 4096 g) 77)).alloc (.cells (tab 4096 fun _ => 0) 77)).heap.size = w.heap.size + 2 := by simp
  refine ⟨(((Below.refl _ _).alloc (Nat.le_refl _) _).alloc (by omega) _).alloc (by omega) _, ?_, ?_, heap_alloc_new _ _, by omega, by omega, by omega, by omega⟩
  · rw [Below.heap_alloc _ _ _ (by omega), Below.heap_alloc _ _ _ (by omega)]; exact heap_alloc_new _ _
  · rw [Below.heap_alloc _ _ _ (by omega)]; exact heap_alloc_new _ _
theorem Tq.congr {w : World} {q1 q2 q3 : Nat} {g h h' : Nat → Nat} {V : World} (t : Tq w q1 q2 q3 g h V) (e : ∀ k, k < 4096 → h k = h' k) : Tq w q1 q2 q3 g h' V := by
  have q := t.h3
  rw [tab_congr e] at q
  exact ⟨t.b, t.h1, t.h2, q, t.l, t.l2, t.n, t.n1⟩
theorem trn_row (g : Nat → Nat) (i k : Nat) (hk : k < 4096) : trn g i 64 k = trn g (i + 1) 0 k := by
  unfold trn
  by_cases q : k % 64 < i ∨ (k % 64 = i ∧ k / 64 < 64)
  · rw [if_pos q, if_pos (by omega)]
  · rw [if_neg q, if_neg (by omega)]
theorem trn_end (g : Nat → Nat) (k : Nat) (hk : k < 4096) : trn g 64 0 k = g (k % 64 * 64 + k / 64) := by
  unfold trn
  rw [if_pos (by omega)]
set_option maxHeartbeats 8000000 in
set_option maxRecDepth 100000 in
theorem turned_any (g : Nat → Nat) (w : World) : Calls Try.prog 48 #[.agg (tab 4096 g)] w fun e w' => e = .returned (.agg (tab 4096 fun k => g (k % 64 * 64 + k / 64))) ∧ Below w.heap.size w w' := by
  go_enter Try.func48, Try.ntmps48
  go_wp2_with (with_reducible refine stay_alloc 77 rfl ?_)
  unfold Stay
  refine wpList_alloc_row (by rfl) 77 rfl _ (zero77 _) ?_
  go_wp2_with (with_reducible refine stay_alloc 77 rfl ?_)
  unfold Stay
  refine wpList_alloc_row (by rfl) 77 rfl _ (zero77 _) ?_
  have T0 := hide' (tq_new g w)
  generalize ((w.alloc (.cells (tab 4096 g) 77)).alloc (.cells (tab 4096 fun _ => 0) 77)).alloc (.cells (tab 4096 fun _ => 0) 77) = V0 at *
  generalize ((w.alloc (.cells (tab 4096 g) 77)).alloc (.cells (tab 4096 fun _ => 0) 77)).heap.size = q3 at *
  generalize (w.alloc (.cells (tab 4096 g) 77)).heap.size = q2 at *
  obtain ⟨q1, hq1⟩ : ∃ q1, q1 = w.heap.size := ⟨_, rfl⟩
  rw [← hq1]
  have T1 : Hid (Tq w q1 q2 q3 g (fun _ => 0) V0) := by rw [hq1]; exact T0
  clear T0 hq1
  go_wp2_with (with_reducible refine stay_load 77 _ rfl ?_)
  unfold Stay
  refine wpList_load_w (by rfl) 77 _ rfl q1 rfl 77 (tab 4096 g) (0, 0) _ T1.out.h1 Try.underlying77 rfl (isz77 g) ?_
  go_wp2_with fail
  go_loopw [9] (fun iv wx => ∃ (i : Nat), iv = .int .i64 (i : Int) ∧ i ≤ 64 ∧ Hid (Tq w q1 q2 q3 g (trn g i 0) wx)) (fun iv _ => 64 - (intOf iv).toNat)
  case atStart => exact ⟨0, rfl, by omega, by have e : (fun _ => 0) = trn g 0 0 := by funext k; unfold trn; rw [if_neg (by omega)]
                                              rw [← e]; exact T1⟩
  case round =>
    obtain ⟨i, rfl, hi, HM⟩ := hrel
    by_cases hlt : i < 64
    · have hlt' : (i : Int) < 64 := by omega
      go_wp2_with (with_reducible refine stay_index 77 _ _ rfl ?_)
      unfold Stay
      refine wpList_index_any (by rfl) 77 _ _ rfl _ _ _ rfl rfl (index77 _ _ i hlt) ?_
      rw [tab_row g i hlt]
      go_wp2_with (with_reducible refine stay_alloc 75 rfl ?_)
      unfold Stay
      refine wpList_alloc_row (by rfl) 75 rfl _ (zero75 _) ?_
      go_wp2_with (with_reducible refine stay_store 75 _ _ rfl ?_)
      unfold Stay
      refine wpList_store_row rfl 75 _ _ rfl wr.heap.size (tab 64 fun j => g (i * 64 + j)) rfl rfl 75 _ (heap_alloc_new wr _) (isz75 _) (by rw [tab_size, tab_size]) (tab_one _ _) ?_
      rw [World.setRow_alloc_new]
      have T2 : Hid (Tq w q1 q2 q3 g (trn g i 0) (wr.alloc (.cells (tab 64 fun j => g (i * 64 + j)) 75)) ∧ (wr.alloc (.cells (tab 64 fun j => g (i * 64 + j)) 75)).heap[wr.heap.size]? = some (.cells (tab 64 fun j => g (i * 64 + j)) 75 (0, 0))) := ⟨HM.out.below ((Below.refl _ _).alloc (Nat.le_refl _) _), heap_alloc_new _ _⟩
      generalize wr.alloc (.cells (tab 64 fun j => g (i * 64 + j)) 75) = V1 at *
      clear HM
      go_wp2_with (with_reducible refine stay_load 75 _ rfl ?_)
      unfold Stay
      refine wpList_load_w (by rfl) 75 _ rfl wr.heap.size rfl 75 (tab 64 fun j => g (i * 64 + j)) (0, 0) _ T2.out.2 Try.underlying75 rfl (isz75 _) ?_
      go_wp2_with fail
      go_loopw [14] (fun jv wx => ∃ (j : Nat), jv = .int .i64 (j : Int) ∧ j ≤ 64 ∧ Hid (Tq w q1 q2 q3 g (trn g i j) wx)) (fun jv _ => 64 - (intOf jv).toNat)
      case atStart => exact ⟨0, rfl, by omega, T2.out.1⟩
      case round =>
        obtain ⟨j, rfl, hj, HM⟩ := hrel
        by_cases hjt : j < 64
        · have hjt' : (j : Int) < 64 := by omega
          have hpl : j * 64 + i < 4096 := by omega
          have c3 : wr.cell? ⟨q3, j * 64 + i, none⟩ = some (.int .u16 (trn g i j (j * 64 + i) : Int)) := by rw [Lib.cell_of_heap HM.out.h3]; exact tab_at 4096 _ _ hpl
          have f3 : wr.frozen? ⟨q3, j * 64 + i, none⟩ = false := Lib.frozen_of_heap HM.out.h3 _
          go_wp2_with (with_reducible refine stay_index 75 _ _ rfl ?_)
          unfold Stay
          refine wpList_index_any (by rfl) 75 _ _ rfl _ _ _ rfl rfl (index75 _ _ j hjt _ (tab_at 64 _ j hjt)) ?_
          go_wp2_with fail
          have HP : Hid (Tq w q1 q2 q3 g (trn g i (j + 1)) (wr.setCell ⟨q3, j * 64 + i, none⟩ (.int .u16 (g (i * 64 + j) : Int)))) := (HM.out.put (j * 64 + i) (g (i * 64 + j))).congr (fun k _ => trn_step g i j hlt hjt k)
          exact ⟨⟨j + 1, by go_num, by omega, HP⟩, by simp [intOf]; omega⟩
        · have hj' : j = 64 := by omega
          subst hj'
          have HP : Hid (Tq w q1 q2 q3 g (trn g (i + 1) 0) wr) := HM.out.congr (fun k hk => trn_row g i k hk)
          clear hjt hj HM
          go_wp2_with fail
          exact ⟨⟨i + 1, by go_num, by omega, HP⟩, by simp [intOf]; omega⟩
    · have hi' : i = 64 := by omega
      subst hi'
      have HP : Hid (Tq w q1 q2 q3 g (fun k => g (k % 64 * 64 + k / 64)) wr) := HM.out.congr (fun k hk => trn_end g k hk)
      clear hlt hi HM
      go_wp2_with (with_reducible refine stay_load 77 _ rfl ?_)
      unfold Stay
      refine wpList_load_w (by rfl) 77 _ rfl q3 rfl 77 (tab 4096 fun k => g (k % 64 * 64 + k / 64)) (0, 0) _ HP.out.h3 Try.underlying77 rfl (isz77 _) ?_
      go_wp2_with (with_reducible refine stay_store 77 _ _ rfl ?_)
      unfold Stay
      refine wpList_store_row rfl 77 _ _ rfl q2 (tab 4096 fun k => g (k % 64 * 64 + k / 64)) rfl rfl 77 _ HP.out.h2 (isz77 _) (by rw [tab_size, tab_size]) (tab_one _ _) ?_
      go_wp2_with fail
      have B2 : Below w.heap.size w (wr.setRow q2 (tab 4096 fun k => g (k % 64 * 64 + k / 64))) := below_setRow HP.out.b HP.out.l2 _
      refine bodyPost_ret (results_cell_row rfl _ _ q2 77 (tab 4096 fun k => g (k % 64 * 64 + k / 64)) (0, 0) _ rfl (row_set HP.out.h2 _) Try.underlying77 rfl (isz77 _)) rfl ?_
      exact ⟨rfl, B2⟩
end V
end Go.Proofs.Ytmcdifmbblbhgaa
