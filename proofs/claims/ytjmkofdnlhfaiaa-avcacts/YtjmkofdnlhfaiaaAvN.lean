import Derived.Test.YtjmkofdnlhfaiaaAvU
set_option linter.unusedVariables false
set_option linter.unusedSimpArgs false
namespace Go.Proofs.Ytjmkofdnlhfaiaa
open Go.RowKit
namespace C
variable {B c g n v : Nat} {b : Nat → Nat} {s : St} {w w' : World}
theorem info76 : (Try.prog.info? 76).map (fun i => (i.zero, i.size, i.bytes)) = some (some (.agg #[.bool false, .int .i64 0, .int .i64 0, .int .i64 0, .int .i64 0, .bool false, .bool false]), 7, 48) := by kernel_rfl
theorem info66 : (Try.prog.info? 66).map (fun i => (i.zero, i.size, i.bytes)) = some (some (.agg #[.slice none 0 0, .int .i64 0]), 2, 32) := by kernel_rfl
theorem made_at (z : Array Value) (N i : Nat) (h : i < N) : (madeCells z N)[i]? = some (z[i % z.size]!) := by
  simp [madeCells, h]
theorem made_tab (z : Array Value) (N : Nat) (q : Nat → Value) (h : ∀ i, i < N → z[i % z.size]! = q i) : madeCells z N = tab N q := by
  apply Array.ext_getElem?
  intro i
  by_cases hi : i < N
  · rw [made_at _ _ _ hi, tab_at hi, h i hi]
  · rw [Array.getElem?_eq_none (by rw [size_madeCells]; omega), Array.getElem?_eq_none (by rw [tab_size]; omega)]
/-- the sets' row, k of them made -/
def nrow (b : Nat → Nat) (v k : Nat) : Nat → Value := fun i => if i % 2 = 0 then (if i / 2 < k then .slice (some ⟨b (i / 2), 0, none⟩) v v else .slice none 0 0) else .int .i64 0
theorem make64 (L : Int) (hL : L = (v : Nat)) (h : v ≤ 8) (w : World) : (Instr.makeSlice 64 (.int .i64 L) (.int .i64 L)).run Try.prog w = .ok (.slice (some ⟨w.heap.size, 0, none⟩) v v) (w.alloc (.cells (tab (7 * v) (prow (fun _ => none))) 76)) := by
  obtain ⟨i0, hi, hz0, hz1, hz2⟩ := info_parts info76
  rw [hL]
  have := run_make (P := Try.prog) w 64 76 i0 _ Try.underlying64 hi hz0 .i64 .i64 (v : Nat) (v : Nat) (by omega) (Int.le_refl _) (by rw [hz2]; omega) (by omega)
  rw [this, hz1]
  simp only [Int.toNat_natCast]
  rw [made_tab _ _ (prow (fun _ => none)) (fun i hi => ?_), Nat.mul_comm]
  show (#[.bool false, .int .i64 0, .int .i64 0, .int .i64 0, .int .i64 0, .bool false, .bool false] : Array Value)[i % 7]! = pv none (i % 7)
  have : i % 7 = 0 ∨ i % 7 = 1 ∨ i % 7 = 2 ∨ i % 7 = 3 ∨ i % 7 = 4 ∨ i % 7 = 5 ∨ i % 7 = 6 := by omega
  rcases this with e | e | e | e | e | e | e <;> rw [e] <;> rfl
theorem make61 (L : Int) (hL : L = (n : Nat)) (h : n ≤ 256) (w : World) : (Instr.makeSlice 61 (.int .i64 L) (.int .i64 L)).run Try.prog w = .ok (.slice (some ⟨w.heap.size, 0, none⟩) n n) (w.alloc (.cells (tab (2 * n) (nrow (fun _ => 0) 0 0)) 66)) := by
  obtain ⟨i0, hi, hz0, hz1, hz2⟩ := info_parts info66
  rw [hL]
  have := run_make (P := Try.prog) w 61 66 i0 _ Try.underlying61 hi hz0 .i64 .i64 (n : Nat) (n : Nat) (by omega) (Int.le_refl _) (by rw [hz2]; omega) (by omega)
  rw [this, hz1]
  simp only [Int.toNat_natCast]
  rw [made_tab _ _ (nrow (fun _ => 0) 0 0) (fun i hi => ?_), Nat.mul_comm]
  show (#[.slice none 0 0, .int .i64 0] : Array Value)[i % 2]! = nrow (fun _ => 0) 0 0 i
  unfold nrow
  have : i % 2 = 0 ∨ i % 2 = 1 := by omega
  rcases this with e | e
  · rw [if_pos e, if_neg (by omega), e]; rfl
  · rw [if_neg (by omega), e]; rfl
/-- a cache in the making -/
structure Cp (w0 : World) (c g n v k : Nat) (b : Nat → Nat) (w : World) : Prop where
  bel : Below w0.heap.size w0 w
  hc : w.heap[c]? = some (.cells #[.slice (some ⟨g, 0, none⟩) n n, .int .i64 0, .int .i64 0, .int .i64 0] 63 (0, 0))
  hg : w.heap[g]? = some (.cells (tab (2 * n) (nrow b v k)) 66 (0, 0))
  hb : ∀ i, i < k → w.heap[b i]? = some (.cells (tab (7 * v) (prow (fun _ => none))) 76 (0, 0))
  inj : ∀ i i', i < k → i' < k → b i = b i' → i = i'
  lc : w0.heap.size ≤ c
  lg : w0.heap.size ≤ g
  lb : ∀ i, i < k → w0.heap.size ≤ b i
theorem Cp.drewN {w0 : World} {k : Nat} (h : Cp w0 c g n v k b w) (m : Nat) : Cp w0 c g n v k b (w.drewN m) := ⟨h.bel.trans ((below_drewN w m).mono h.bel.size), h.hc, h.hg, h.hb, h.inj, h.lc, h.lg, h.lb⟩
theorem Cp.drew {w0 : World} {k : Nat} (h : Cp w0 c g n v k b w) : Cp w0 c g n v k b w.drew := ⟨⟨h.bel.os, h.bel.tape, h.bel.output, h.bel.size, h.bel.block⟩, h.hc, h.hg, h.hb, h.inj, h.lc, h.lg, h.lb⟩
theorem Cp.step {w0 : World} {k : Nat} (h : Cp w0 c g n v k b w) (hk : k < n) : ∃ b', Cp w0 c g n v (k + 1) b' ((w.alloc (.cells (tab (7 * v) (prow (fun _ => none))) 76)).setCell ⟨g, k * 2, none⟩ (.slice (some ⟨w.heap.size, 0, none⟩) v v)) := by
  have hb1 : Below w.heap.size w (w.alloc (.cells (tab (7 * v) (prow (fun _ => none))) 76)) := (Below.refl _ _).alloc (Nat.le_refl _) _
  have t := turn_b g (k * 2) (.slice (some ⟨w.heap.size, 0, none⟩) v v) (w.alloc (.cells (tab (7 * v) (prow (fun _ => none))) 76))
  have hc1 := (hb1.block c (lt_of_heap h.hc)).trans h.hc
  have hg1 := (hb1.block g (lt_of_heap h.hg)).trans h.hg
  refine ⟨fup b k w.heap.size, ⟨(h.bel.trans (hb1.mono h.bel.size)).trans (t.below (fun j hj => by rw [hj]; exact h.lg) (Nat.le_trans h.bel.size hb1.size)), (t.block c (lt_of_heap hc1) (cells_ne hc1 hg1 (by decide))).trans hc1, ?_, fun i hi => ?_, fun i i' hi hi' e => ?_, h.lc, h.lg, fun i hi => ?_⟩⟩
  · have := set_block (off := k * 2) (v := .slice (some ⟨w.heap.size, 0, none⟩) v v) hg1
    rw [tab_set (g' := nrow (fup b k w.heap.size) v (k + 1)) (fun q hq => ?_)] at this
    · exact this
    · unfold nrow
      by_cases e : q = k * 2
      · rw [if_pos e, if_pos (by omega), if_pos (by omega), show q / 2 = k by omega, fup_self]
      · rw [if_neg e]
        by_cases e2 : q % 2 = 0
        · rw [if_pos e2, if_pos e2]
          by_cases e3 : q / 2 < k
          · rw [if_pos e3, if_pos (by omega), fup_ne _ _ (by omega)]
          · rw [if_neg e3, if_neg (by omega)]
        · rw [if_neg e2, if_neg e2]
  · by_cases e : i = k
    · subst e
      rw [fup_self]
      have hn := heap_alloc_new w (.cells (tab (7 * v) (prow (fun _ => none))) 76)
      exact (t.block w.heap.size (lt_of_heap hn) (cells_ne hn hg1 (by decide))).trans hn
    · rw [fup_ne _ _ e]
      have h2 := (hb1.block (b i) (lt_of_heap (h.hb i (by omega)))).trans (h.hb i (by omega))
      exact (t.block (b i) (lt_of_heap h2) (cells_ne h2 hg1 (by decide))).trans h2
  · by_cases e1 : i = k
    · by_cases e2 : i' = k
      · rw [e1, e2]
      · rw [e1, fup_self, fup_ne _ _ e2] at e
        have := lt_of_heap (h.hb i' (by omega))
        omega
    · by_cases e2 : i' = k
      · rw [e2, fup_self, fup_ne _ _ e1] at e
        have := lt_of_heap (h.hb i (by omega))
        omega
      · rw [fup_ne _ _ e1, fup_ne _ _ e2] at e
        exact h.inj i i' (by omega) (by omega) e
  · by_cases e : i = k
    · subst e; rw [fup_self]; exact h.bel.size
    · rw [fup_ne _ _ e]; exact h.lb i (by omega)
theorem Cp.fin {w0 : World} (h : Cp w0 c g n v n b w) (hn : 1 ≤ n ∧ n ≤ 256) (hv : 1 ≤ v ∧ v ≤ 8) : Ca w0.heap.size c g n v b st0 w := by
  refine ⟨h.hc, ?_, h.hb, h.inj, h.lc, h.lg, h.lb, hn.1, hn.2, hv.1, hv.2, fun i hi => hv.1⟩
  have := h.hg
  rw [tab_congr (g' := srow b v st0.h) (fun i hi => ?_)] at this
  · exact this
  · unfold nrow srow
    by_cases e : i % 2 = 0
    · rw [if_pos e, if_pos e, if_pos (by omega)]
    · rw [if_neg e, if_neg e]; rfl
theorem Cp.first (w0 : World) (n v : Nat) : Cp w0 (w0.heap.size + 1) w0.heap.size n v 0 (fun _ => 0) ((w0.alloc (.cells (tab (2 * n) (nrow (fun _ => 0) 0 0)) 66)).alloc (.cells #[.slice (some ⟨w0.heap.size, 0, none⟩) n n, .int .i64 0, .int .i64 0, .int .i64 0] 63)) := by
  have b1 : Below w0.heap.size w0 (w0.alloc (.cells (tab (2 * n) (nrow (fun _ => 0) 0 0)) 66)) := (Below.refl _ _).alloc (Nat.le_refl _) _
  have b2 : ∀ o, Below (w0.alloc (.cells (tab (2 * n) (nrow (fun _ => 0) 0 0)) 66)).heap.size (w0.alloc (.cells (tab (2 * n) (nrow (fun _ => 0) 0 0)) 66)) ((w0.alloc (.cells (tab (2 * n) (nrow (fun _ => 0) 0 0)) 66)).alloc o) := fun o => (Below.refl _ _).alloc (Nat.le_refl _) _
  have e1 : (w0.alloc (.cells (tab (2 * n) (nrow (fun _ => 0) 0 0)) 66)).heap.size = w0.heap.size + 1 := by simp
  refine ⟨b1.trans ((b2 _).mono b1.size), ?_, ?_, fun i hi => by omega, fun i i' hi => by omega, by omega, Nat.le_refl _, fun i hi => by omega⟩
  · rw [← e1]; exact heap_alloc_new _ _
  · rw [(b2 _).block _ (by omega), heap_alloc_new]
    rw [tab_congr (g' := nrow (fun _ => 0) v 0) (fun i hi => ?_)]
    unfold nrow
    by_cases e : i % 2 = 0
    · rw [if_pos e, if_pos e, if_neg (by omega), if_neg (by omega)]
    · rw [if_neg e, if_neg e]
theorem Cp.c0 {w0 : World} {k : Nat} (h : Cp w0 c g n v k b w) : w.cell? ⟨c, 0, none⟩ = some (.slice (some ⟨g, 0, none⟩) n n) := by rw [Lib.cell_of_heap h.hc]; rfl
theorem Cp.g0 {w0 : World} {k i : Nat} (h : Cp w0 c g n v k b w) (hi : i < n) (hk : k ≤ i) : w.cell? ⟨g, i * 2, none⟩ = some (.slice none 0 0) := by
  rw [Lib.cell_of_heap h.hg]
  show (tab _ _)[i * 2]? = _
  rw [tab_at (by omega)]
  unfold nrow
  rw [if_pos (by omega), if_neg (by omega)]
theorem Cp.fg {w0 : World} {k : Nat} (h : Cp w0 c g n v k b w) (j : Nat) : w.frozen? ⟨g, j, none⟩ = false := Lib.frozen_of_heap h.hg j
set_option maxRecDepth 100000 in
set_option maxHeartbeats 1000000 in
theorem new_no (x y : Int) (w : World) (h : x < 1 ∨ 256 < x ∨ y < 1 ∨ 8 < y) : Calls Try.prog 12 #[.int .i64 x, .int .i64 y] w fun e w' => e = .returned (.tuple #[.pointer none, .int .i64 190]) ∧ w' = w := by
  by_cases h1 : x < 1
  · clear h
    go_enter Try.func12, Try.ntmps12
    go_wp2
    go_ret2
    exact ⟨rfl, rfl⟩
  by_cases h2 : 256 < x
  · clear h
    go_enter Try.func12, Try.ntmps12
    go_wp2
    go_ret2
    exact ⟨rfl, rfl⟩
  by_cases h3 : y < 1
  · clear h
    go_enter Try.func12, Try.ntmps12
    go_wp2
    go_ret2
    exact ⟨rfl, rfl⟩
  · have h4 : 8 < y := by omega
    clear h
    go_enter Try.func12, Try.ntmps12
    go_wp2
    go_ret2
    exact ⟨rfl, rfl⟩
set_option maxRecDepth 100000 in
set_option maxHeartbeats 1000000 in
theorem new_any (x y : Int) (n v : Nat) (w : World) (hx : x = (n : Nat)) (hy : y = (v : Nat)) (hn : 1 ≤ n ∧ n ≤ 256) (hv : 1 ≤ v ∧ v ≤ 8) : Calls Try.prog 12 #[.int .i64 x, .int .i64 y] w fun e w' => ∃ c, e = .returned (.tuple #[.pointer (some ⟨c, 0, none⟩), .int .i64 0]) ∧ ∃ g b, Ca w.heap.size c g n v b st0 w' ∧ Below w.heap.size w w' := by
  have m61 := fun w => make61 x hx hn.2 w
  have m64 := fun w => make64 y hy hv.2 w
  have a1 : 1 ≤ x := by omega
  have a2 : x ≤ 256 := by omega
  have a3 : 1 ≤ y := by omega
  have a4 : y ≤ 8 := by omega
  have Hn := hide' hn
  have Hv := hide' hv
  have HF := hide' (Cp.first w n v)
  have F0 := HF.out.c0
  clear hx hy hn hv
  generalize tab (2 * n) (nrow (fun _ => 0) 0 0) = R0 at *
  go_enter Try.func12, Try.ntmps12
  go_wp2_with fail
  generalize hw2 : (w.alloc (.cells R0 66)).alloc (.cells #[.slice (some ⟨w.heap.size, 0, none⟩) n n, .int .i64 0, .int .i64 0, .int .i64 0] 63) = w2 at *
  clear hw2 F0
  generalize hg : w.heap.size + 1 = c at *
  clear hg m61
  go_loopw [31] (fun q wx => ∃ k : Nat, k ≤ n ∧ q = .int .i64 (k : Int) ∧ ∃ b, Hid (Cp w c w.heap.size n v k b wx)) (fun q _ => n - (intOf q).toNat)
  case atStart => exact ⟨0, by omega, rfl, _, HF⟩
  case round =>
    clear HF
    obtain ⟨k, hk, rfl, b, HC⟩ := hrel
    have c0 := HC.out.c0
    by_cases hlt : k < n
    · have hlt' : (k : Int) < (n : Int) := by omega
      have Hw := hide' (wsucN k (by have := Hn.out; omega))
      have g0 := HC.out.g0 hlt (Nat.le_refl _)
      have fg := HC.out.fg (k * 2)
      have new0 := World.new_ne wr ⟨c, 0, none⟩ c0
      have newg := World.new_ne wr ⟨w.heap.size, k * 2, none⟩ g0
      have cA : (wr.alloc (.cells (tab (7 * v) (prow (fun _ => none))) 76)).cell? ⟨c, 0, none⟩ = some (.slice (some ⟨w.heap.size, 0, none⟩) n n) := (World.cell?_of_block (w := wr) (Below.heap_alloc _ _ _ (lt_of_heap HC.out.hc))).trans c0
      have gA : (wr.alloc (.cells (tab (7 * v) (prow (fun _ => none))) 76)).cell? ⟨w.heap.size, k * 2, none⟩ = some (.slice none 0 0) := (World.cell?_of_block (w := wr) (Below.heap_alloc _ _ _ (lt_of_heap HC.out.hg))).trans g0
      have fA : (wr.alloc (.cells (tab (7 * v) (prow (fun _ => none))) 76)).frozen? ⟨w.heap.size, k * 2, none⟩ = false := (World.frozen?_of_block (w := wr) (Below.heap_alloc _ _ _ (lt_of_heap HC.out.hg))).trans fg
      obtain ⟨b', h2⟩ := HC.out.step hlt
      have HE := hide' h2
      clear h2 HC
      generalize tab (7 * v) (prow (fun _ => none)) = R1 at *
      go_wp2_with fail
      go_region
      go_wp2
      exact ⟨⟨k + 1, by omega, by rw [Hw.out], b', hide' HE.out.drew⟩, msr' hlt _ (Hw.out.trans (by omega))⟩
    · obtain rfl : k = n := by omega
      have HE : Hid (Ca w.heap.size c w.heap.size k v b st0 wr ∧ Below w.heap.size w wr) := hide' ⟨HC.out.fin Hn.out Hv.out, HC.out.bel⟩
      go_wp2
      go_ret2
      exact ⟨c, rfl, _, _, HE.out.1, HE.out.2⟩
end C
end Go.Proofs.Ytjmkofdnlhfaiaa
