import Derived.Test.YtkipcdjadmocaaaSet
import Derived.LoopTactic
import Derived.Laws.RangeAny
set_option linter.unusedVariables false
set_option linter.unusedSimpArgs false
namespace Go.Proofs.Ytkipcdjadmocaaa
open Go.RowKit
def roomOf (n : Int) : Nat := (min (max n 0) 65536).toNat
theorem rowOf_none (n : Nat) : madeCells #[.int .u64 0] n = rowOf (fun _ => false) n := by
  apply Array.ext_getElem?
  intro j
  have e : ∀ n off, B.wdN (fun _ => false) n off = 0 := by
    intro n; induction n with
    | zero => intro off; rfl
    | succ n ih => intro off; simp [B.wdN, ih]
  by_cases hj : j < n
  · rw [rowOf_at _ _ _ hj, B.wd, e]; simp [madeCells, hj, Nat.mod_one]
  · simp [rowOf, madeCells, hj]
theorem info63 : (Try.prog.info? 63).map (fun i => (i.zero, i.size, i.bytes)) = some (some (.int .u64 0), 1, 8) := by kernel_rfl
theorem make_any (r : Nat) (hr : r ≤ 65536) (L : Int) (hL : L = (nw r : Nat)) (w : World) : (Instr.makeSlice 68 (.int .i64 L) (.int .i64 L)).run Try.prog w = .ok (.slice (some ⟨w.heap.size, 0, none⟩) (nw r) (nw r)) (w.alloc (.cells (rowOf (fun _ => false) (nw r)) 63)) := by
  obtain ⟨i0, hi, hz0, hz1, hz2⟩ := info_parts info63
  have hn : nw r ≤ 1024 := nw_le hr
  rw [hL]
  have := run_make (P := Try.prog) w 68 63 i0 _ Try.underlying68 hi hz0 .i64 .i64 (nw r : Nat) (nw r : Nat) (by omega) (Int.le_refl _) (by rw [hz2]; omega) (by omega)
  rw [this, hz1]
  simp only [Int.toNat_natCast, Nat.mul_one]
  rw [show (Value.int .u64 0).cells = #[Value.int .u64 0] from rfl, rowOf_none]
theorem new_end (r : Nat) (hr : r ≤ 65536) (w : World) : Bs (w.heap.size + 1) w.heap.size r (fun _ => false) ((w.alloc (.cells (rowOf (fun _ => false) (nw r)) 63)).alloc (.cells #[.int .i64 (r : Nat), .slice (some ⟨w.heap.size, 0, none⟩) (nw r) (nw r)] 70)) := by
  refine ⟨?_, ?_, fun _ _ => rfl, hr⟩
  · have := heap_alloc_new (w.alloc (.cells (rowOf (fun _ => false) (nw r)) 63)) (.cells #[.int .i64 (r : Nat), .slice (some ⟨w.heap.size, 0, none⟩) (nw r) (nw r)] 70)
    simpa using this
  · rw [Below.heap_alloc _ _ _ (by simp)]; exact heap_alloc_new _ _
set_option maxHeartbeats 1000000 in
set_option maxRecDepth 100000 in
theorem new_any (n : Int) (w : World) : Calls Try.prog 9 #[.int .i64 n] w fun e w' => ∃ x, e = .returned (.pointer (some ⟨x, 0, none⟩)) ∧ ∃ g, Bs x g (roomOf n) (fun _ => false) w' ∧ Below w.heap.size w w' ∧ w.heap.size ≤ x ∧ w.heap.size ≤ g := by
  have fin : ∀ o1 o2 : Obj, Below w.heap.size w ((w.alloc o1).alloc o2) := fun o1 o2 => ((Below.refl _ _).alloc (Nat.le_refl _) _).alloc (by simp) _
  rcases Int.lt_or_le n 0 with h | h
  · have hrr : roomOf n = 0 := by unfold roomOf; omega
    rw [hrr]
    have hmk := fun w => make_any 0 (by omega) 0 rfl w
    have hfin := new_end 0 (by omega) w
    have h1 : ¬ ((65536 : Int) < 0) := by omega
    have hnw : nw 0 = 0 := rfl
    rw [hnw] at hmk hfin
    go_enter Try.func9, Try.ntmps9
    go_wp2
    go_ret
    exact ⟨w.heap.size + 1, rfl, w.heap.size, hfin, fin _ _, by omega, by omega⟩
  · rcases Int.lt_or_le 65536 n with h2 | h2
    · have hrr : roomOf n = 65536 := by unfold roomOf; omega
      rw [hrr]
      have hmk := fun w => make_any 65536 (by omega) 1024 rfl w
      have hfin := new_end 65536 (by omega) w
      have hnw : nw 65536 = 1024 := rfl
      rw [hnw] at hmk hfin
      have h1 : ¬ n < 0 := by omega
      generalize rowOf (fun _ => false) 1024 = R at *
      go_enter Try.func9, Try.ntmps9
      go_wp2
      go_ret
      exact ⟨w.heap.size + 1, rfl, w.heap.size, hfin, fin _ _, by omega, by omega⟩
    · obtain ⟨r, rfl⟩ : ∃ r : Nat, n = (r : Int) := ⟨n.toNat, by omega⟩
      have hrr : roomOf (r : Int) = r := by unfold roomOf; omega
      rw [hrr]
      have hmk := fun w => make_any r (by omega) (((r : Int) + 256 - 1) / 256 * 4) (by unfold nw; omega) w
      have hfin := new_end r (by omega) w
      generalize rowOf (fun _ => false) (nw r) = R at *
      generalize nw r = N at *
      have h1 : ¬ (r : Int) < 0 := by omega
      have h3 : ¬ (65536 : Int) < (r : Int) := by omega
      go_enter Try.func9, Try.ntmps9
      go_wp2
      go_ret
      exact ⟨w.heap.size + 1, rfl, w.heap.size, hfin, fin _ _, by omega, by omega⟩
set_option maxHeartbeats 1000000 in
theorem room_any (x g room : Nat) (p : Nat → Bool) (w : World) (h : Bs x g room p w) : Calls Try.prog 24 #[.pointer (some ⟨x, 0, none⟩)] w fun e w' => e = .returned (.int .i64 (room : Nat)) ∧ w' = w := by
  have c0 := h.c0
  go_enter Try.func24, Try.ntmps24
  go_wp2
  go_ret
  exact ⟨rfl, rfl⟩
set_option maxHeartbeats 1000000 in
theorem quads_any (x g room : Nat) (p : Nat → Bool) (w : World) (h : Bs x g room p w) : Calls Try.prog 59 #[.pointer (some ⟨x, 0, none⟩)] w fun e w' => e = .returned (.int .i64 ((room + 255) / 256 : Nat)) ∧ w' = w := by
  have c1 := h.c1
  have hle := nw_le h.le
  have hq : ((nw room : Nat) : Int) / 4 = (((room + 255) / 256 : Nat) : Int) := by unfold nw; omega
  generalize nw room = N at *
  have Hq := hide' hq
  clear hq
  go_enter Try.func59, Try.ntmps59
  go_wp2
  go_ret
  exact ⟨ret_int Hq.out, rfl⟩
/-- four words -/
def four (p : Nat → Bool) (k : Nat) : Array Value := #[.int .u64 (B.wd p (k * 4) : Nat), .int .u64 (B.wd p (k * 4 + 1) : Nat), .int .u64 (B.wd p (k * 4 + 2) : Nat), .int .u64 (B.wd p (k * 4 + 3) : Nat)]
def none4 : Array Value := #[.int .u64 0, .int .u64 0, .int .u64 0, .int .u64 0]
theorem arr_any (g k c : Nat) (w : World) : (Instr.arrayAt 64 (.slice (some ⟨g, k * 4, none⟩) ((k + 1) * 4 - k * 4) c)).run Try.prog w = .ok (.pointer (some ⟨g, k * 4, none⟩)) w := by
  have e : (k + 1) * 4 - k * 4 = 4 := by omega
  rw [e]
  simp [Instr.arrayAt, run_underlying Try.underlying64]
set_option maxHeartbeats 1000000 in
set_option maxRecDepth 100000 in
theorem quad_in (x g room : Nat) (p : Nat → Bool) (k : Nat) (w : World) (h : Bs x g room p w) (hk : k < (room + 255) / 256) : Calls Try.prog 60 #[.pointer (some ⟨x, 0, none⟩), .int .i64 (k : Nat)] w fun e w' => e = .returned (.agg (four p k)) ∧ Below w.heap.size w w' := by
  have hle := h.le
  have H := hide' h
  have Hq := hide' (fun w h => quads_any x g room p w h)
  have hn : nw room = (room + 255) / 256 * 4 := rfl
  have hx := h.ltx
  have hg := h.ltg
  have c1 := h.c1
  have q0 := h.cw (k * 4) (by omega)
  have q1 := h.cw (k * 4 + 1) (by omega)
  have q2 := h.cw (k * 4 + 2) (by omega)
  have q3 := h.cw (k * 4 + 3) (by omega)
  have hnl := nw_le hle
  unfold four
  have harr := arr_any g k
  clear h
  generalize (room + 255) / 256 = Q at *
  have e1 : decide ((Q : Int) ≤ (k : Int)) = false := by simp; omega
  generalize nw room = n at *
  have b1 : (k : Int) * 4 ≤ (n : Int) := by omega
  have b2 : ((k : Int) + 1) * 4 ≤ (n : Int) := by omega
  have HA := hide' (fun (w : World) (h : Bs x g room p w) o => (Bs.kept h ((Turn.refl (fun _ => False) w).alloc o) (fun q => q) (fun q => q)))
  generalize B.wd p (k * 4) = z0 at *
  generalize B.wd p (k * 4 + 1) = z1 at *
  generalize B.wd p (k * 4 + 2) = z2 at *
  generalize B.wd p (k * 4 + 3) = z3 at *
  go_enter Try.func60, Try.ntmps60
  go_wp2_with (go_at_call 59; refine (Hq.out _ (HA.out _ H.out _)).mono ?_; rintro e w1 ⟨rfl, hw1⟩; replace hw1 := hw1.symm; subst hw1)
  refine bodyPost_ret_by (results_cell_row rfl _ _ w.heap.size 64 _ _ _ rfl (heap_alloc_new _ _) Try.underlying64 rfl (by kernel_rfl)) rfl ?_
  exact ⟨rfl, (Below.refl _ _).alloc (Nat.le_refl _) _⟩
set_option maxHeartbeats 1000000 in
set_option maxRecDepth 100000 in
theorem quad_out (x g room : Nat) (p : Nat → Bool) (k : Nat) (w : World) (h : Bs x g room p w) (hk : (room + 255) / 256 ≤ k) : Calls Try.prog 60 #[.pointer (some ⟨x, 0, none⟩), .int .i64 (k : Nat)] w fun e w' => e = .returned (.agg none4) ∧ Below w.heap.size w w' := by
  have H := hide' h
  have Hq := hide' (fun w h => quads_any x g room p w h)
  unfold none4
  clear h
  generalize (room + 255) / 256 = Q at *
  have e1 : decide ((Q : Int) ≤ (k : Int)) = true := by simp; omega
  have HA := hide' (fun (w : World) (h : Bs x g room p w) o => (Bs.kept h ((Turn.refl (fun _ => False) w).alloc o) (fun q => q) (fun q => q)))
  go_enter Try.func60, Try.ntmps60
  go_wp2_with (go_at_call 59; refine (Hq.out _ (HA.out _ H.out _)).mono ?_; rintro e w1 ⟨rfl, hw1⟩; replace hw1 := hw1.symm; subst hw1)
  refine bodyPost_ret_by (results_cell_row rfl _ _ w.heap.size 64 _ _ _ rfl (heap_alloc_new _ _) Try.underlying64 rfl (by kernel_rfl)) rfl ?_
  exact ⟨rfl, (Below.refl _ _).alloc (Nat.le_refl _) _⟩
set_option maxHeartbeats 1000000 in
set_option maxRecDepth 100000 in
theorem quad_nil (k : Int) (w : World) : Calls Try.prog 60 #[.pointer none, .int .i64 k] w fun e w' => e = .returned (.agg none4) ∧ Below w.heap.size w w' := by
  unfold none4
  go_enter Try.func60, Try.ntmps60
  go_wp2
  refine bodyPost_ret_by (results_cell_row rfl _ _ w.heap.size 64 _ _ _ rfl (heap_alloc_new _ _) Try.underlying64 rfl (by kernel_rfl)) rfl ?_
  exact ⟨rfl, (Below.refl _ _).alloc (Nat.le_refl _) _⟩
theorem none_four (x g room : Nat) (p : Nat → Bool) (w : World) (h : Bs x g room p w) (k : Nat) (hk : (room + 255) / 256 ≤ k) : four p k = none4 := by
  have e : ∀ n off, room ≤ off → B.wdN p n off = 0 := by
    intro n; induction n with
    | zero => intro off _; rfl
    | succ n ih => intro off ho; simp [B.wdN, ih (off + 1) (by omega), h.out off ho]
  unfold four none4 B.wd
  rw [e _ _ (by omega), e _ _ (by omega), e _ _ (by omega), e _ _ (by omega)]
  rfl
/-- quad, of a set that is there, whatever the number -/
theorem quad_any (x g room : Nat) (p : Nat → Bool) (k : Nat) (w : World) (h : Bs x g room p w) : Calls Try.prog 60 #[.pointer (some ⟨x, 0, none⟩), .int .i64 (k : Nat)] w fun e w' => e = .returned (.agg (four p k)) ∧ Below w.heap.size w w' := by
  rcases Nat.lt_or_ge k ((room + 255) / 256) with q | q
  · exact quad_in x g room p k w h q
  · rw [none_four x g room p w h k q]; exact quad_out x g room p k w h q
theorem Bs.below {x g room : Nat} {p : Nat → Bool} {w w' : World} (h : Bs x g room p w) (b : Below w.heap.size w w') : Bs x g room p w' :=
  ⟨(b.block x h.ltx).trans h.hx, (b.block g h.ltg).trans h.hg, h.out, h.le⟩
set_option maxHeartbeats 1000000 in
set_option maxRecDepth 100000 in
/-- Quad -/
theorem bigQuad_in (x g room : Nat) (p : Nat → Bool) (k : Nat) (w : World) (h : Bs x g room p w) (hk : k < (room + 255) / 256) : Calls Try.prog 36 #[.pointer (some ⟨x, 0, none⟩), .int .i64 (k : Nat)] w fun e w' => e = .returned (.tuple #[.agg (four p k), .bool true]) ∧ Below w.heap.size w w' := by
  have H := hide' h
  have Hq := hide' (fun w h => quads_any x g room p w h)
  have Hd := hide' (fun w h => quad_in x g room p k w h hk)
  have HA := hide' (fun (w : World) (h : Bs x g room p w) o => (Bs.kept h ((Turn.refl (fun _ => False) w).alloc o) (fun q => q) (fun q => q)))
  clear h
  generalize (room + 255) / 256 = Q at *
  have e1 : decide ((Q : Int) ≤ (k : Int)) = false := by simp; omega
  have e2 : decide ((k : Int) < 0) = false := by simp
  unfold four at *
  generalize B.wd p (k * 4) = z0 at *
  generalize B.wd p (k * 4 + 1) = z1 at *
  generalize B.wd p (k * 4 + 2) = z2 at *
  generalize B.wd p (k * 4 + 3) = z3 at *
  go_enter Try.func36, Try.ntmps36
  go_wp2_with (first | (go_at_call 59; refine (Hq.out _ (HA.out _ H.out _)).mono ?_; rintro e w1 ⟨rfl, hw1⟩; replace hw1 := hw1.symm; subst hw1) | (go_at_call 60; refine (Hd.out _ (HA.out _ H.out _)).mono ?_; rintro e w3 ⟨rfl, b3⟩; have d0 := (b3.cell (p := ⟨w.heap.size, 0, none⟩) (by simp)); have d1 := (b3.cell (p := ⟨w.heap.size, 1, none⟩) (by simp)); have d2 := (b3.cell (p := ⟨w.heap.size, 2, none⟩) (by simp)); have d3 := (b3.cell (p := ⟨w.heap.size, 3, none⟩) (by simp)); have f0 := (b3.frozen (p := ⟨w.heap.size, 0, none⟩) (by simp)); have f1 := (b3.frozen (p := ⟨w.heap.size, 1, none⟩) (by simp)); have f2 := (b3.frozen (p := ⟨w.heap.size, 2, none⟩) (by simp)); have f3 := (b3.frozen (p := ⟨w.heap.size, 3, none⟩) (by simp))))
  refine bodyPost_ret (v := .tuple #[.agg #[.int .u64 (z0 : Int), .int .u64 (z1 : Int), .int .u64 (z2 : Int), .int .u64 (z3 : Int)], .bool true]) (by simp [results, Try.results36, go_sem, d0, d1, d2, d3]) rfl ⟨rfl, ?_⟩
  exact (((((((Below.refl _ _).alloc (Nat.le_refl _) _).trans (b3.mono (by simp))).setCell (Nat.le_refl _) _).setCell (Nat.le_refl _) _).setCell (Nat.le_refl _) _).setCell (Nat.le_refl _) _)
set_option maxHeartbeats 1000000 in
set_option maxRecDepth 100000 in
theorem bigQuad_out (x g room : Nat) (p : Nat → Bool) (k : Int) (w : World) (h : Bs x g room p w) (hk : k < 0 ∨ (((room + 255) / 256 : Nat) : Int) ≤ k) : Calls Try.prog 36 #[.pointer (some ⟨x, 0, none⟩), .int .i64 k] w fun e w' => e = .returned (.tuple #[.agg none4, .bool false]) ∧ Below w.heap.size w w' := by
  have H := hide' h
  have Hq := hide' (fun w h => quads_any x g room p w h)
  have HA := hide' (fun (w : World) (h : Bs x g room p w) o => (Bs.kept h ((Turn.refl (fun _ => False) w).alloc o) (fun q => q) (fun q => q)))
  clear h
  generalize (room + 255) / 256 = Q at *
  unfold none4 at *
  by_cases h0 : k < 0
  · have e2 : decide (k < 0) = true := by simpa using h0
    go_enter Try.func36, Try.ntmps36
    go_wp2
    exact bodyPost_ret (v := .tuple #[.agg #[.int .u64 0, .int .u64 0, .int .u64 0, .int .u64 0], .bool false]) (by simp [results, Try.results36, go_sem]) rfl ⟨rfl, (Below.refl _ _).alloc (Nat.le_refl _) _⟩
  · have e2 : decide (k < 0) = false := by simpa using h0
    have e1 : decide ((Q : Int) ≤ k) = true := by simp; omega
    go_enter Try.func36, Try.ntmps36
    go_wp2_with (first | (go_at_call 59; refine (Hq.out _ (HA.out _ H.out _)).mono ?_; rintro e w1 ⟨rfl, hw1⟩; replace hw1 := hw1.symm; subst hw1))
    exact bodyPost_ret (v := .tuple #[.agg #[.int .u64 0, .int .u64 0, .int .u64 0, .int .u64 0], .bool false]) (by simp [results, Try.results36, go_sem]) rfl ⟨rfl, (Below.refl _ _).alloc (Nat.le_refl _) _⟩
/-- how many are in -/
theorem cnt_words (p : Nat → Bool) (j : Nat) : B.cnt p (64 * (j + 1)) 0 = B.cnt p (64 * j) 0 + B.pop 64 (B.wd p j) := by
  rw [show 64 * (j + 1) = 64 * j + 64 by omega, B.cnt_add, Nat.zero_add]
  unfold B.wd
  rw [B.pop_wdN]
theorem cnt_all {x g room : Nat} {p : Nat → Bool} {w : World} (h : Bs x g room p w) : B.cnt p (64 * nw room) 0 = B.cnt p room 0 := by
  have hn : room ≤ 64 * nw room := by unfold nw; omega
  obtain ⟨d, hd⟩ : ∃ d, 64 * nw room = room + d := ⟨64 * nw room - room, by omega⟩
  rw [hd, B.cnt_add, B.cnt_none p d (0 + room) (fun i h1 h2 => h.out i (by omega)), Nat.add_zero]
set_option maxHeartbeats 1000000 in
set_option maxRecDepth 100000 in
theorem count_any (x g room : Nat) (p : Nat → Bool) (w : World) (h : Bs x g room p w) : Calls Try.prog 29 #[.pointer (some ⟨x, 0, none⟩)] w fun e w' => e = .returned (.int .i64 (B.cnt p room 0 : Nat)) ∧ w' = w := by
  have c1 := h.c1
  have Hcw := hide' (fun j hj => h.cw j hj)
  have hnl := nw_le h.le
  have Hall := hide' (cnt_all h)
  have Hlt := hide' (fun j => B.wd_lt p j)
  have Hc := hide' (fun j => cnt_words p j)
  have Hle := hide' (fun j => B.cnt_le p (64 * j) 0)
  clear h
  generalize nw room = n at *
  go_enter Try.func29, Try.ntmps29
  go_wp2
  go_loopw [3, 11] (fun s i wx => wx = w ∧ ∃ j : Nat, j ≤ n ∧ i = .int .i64 (j : Int) ∧ s = .int .i64 (B.cnt p (64 * j) 0 : Nat)) (fun _ i _ => n - (intOf i).toNat)
  case atStart => exact ⟨rfl, 0, by omega, rfl, rfl⟩
  case round =>
    obtain ⟨rfl, j, hj, rfl, rfl⟩ := hrel
    have hcle := Hle.out j
    by_cases hlt : j < n
    · have cw := Hcw.out j hlt
      have hl := Hlt.out j
      have hc := Hc.out j
      have hcle2 := Hle.out (j + 1)
      generalize B.wd p j = z at *
      have Ho := hide' (fun w => ones64_any z w hl)
      generalize B.pop 64 z = o at *
      generalize hs : B.cnt p (64 * j) 0 = s at *
      have hlt' : (j : Int) < (n : Int) := by omega
      have hob : (s : Int) + (o : Int) ≤ 65600 := by omega
      have Hcc := hide' hc
      clear hc hl
      go_wp2_with (go_at_call 54; refine (Ho.out _).mono ?_; rintro e w1 ⟨rfl, hw1⟩; replace hw1 := hw1.symm; subst hw1)
      exact ⟨⟨trivial, j + 1, by omega, by go_num, by rw [Hcc.out]; go_num⟩, by simp [intOf]; omega⟩
    · have hjn : j = n := by omega
      subst hjn
      have hlt' : ¬ (j : Int) < (j : Int) := by omega
      go_wp2
      go_ret
      exact ⟨ret_int (by rw [Hall.out]), rfl⟩
end Go.Proofs.Ytkipcdjadmocaaa
