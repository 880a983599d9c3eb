import Derived.Test.YtgkigcdpbopgbaaDoorFnd
import Derived.Test.YtgkigcdpbopgbaaDoorScn
import Derived.Lib.OthersKept
import Derived.WalkSmall
import Derived.BigQuiet
import Derived.Deep.RegionWith
set_option linter.unusedVariables false
set_option linter.unusedSimpArgs false
namespace Go.Proofs.YtgkigcdpbopgbaaDoor
open Go.RowKit

theorem nxt_bd (l c r : Int) (pos : Nat) (h : 0 ≤ l ∧ l ≤ pos + 1) (k : 0 ≤ c ∧ c ≤ pos + 1) : (0 ≤ (L.nxt (l, c) r).1 ∧ (L.nxt (l, c) r).1 ≤ pos + 2) ∧ (0 ≤ (L.nxt (l, c) r).2 ∧ (L.nxt (l, c) r).2 ≤ pos + 2) := by
  unfold L.nxt
  split <;> simp <;> omega
/-- a block of two numbers -/
structure Two (b : Nat) (p : Int × Int) (w : World) : Prop where
  c0 : w.cell? ⟨b, 0, none⟩ = some (.int .i64 p.1)
  c1 : w.cell? ⟨b, 1, none⟩ = some (.int .i64 p.2)
  f0 : w.frozen? ⟨b, 0, none⟩ = false
  f1 : w.frozen? ⟨b, 1, none⟩ = false
theorem Two.of_block {b : Nat} {p : Int × Int} {w w' : World} (h : Two b p w) (k : w'.heap[b]? = w.heap[b]?) : Two b p w' :=
  ⟨(World.cell?_of_block k).trans h.c0, (World.cell?_of_block k).trans h.c1, (World.frozen?_of_block k).trans h.f0, (World.frozen?_of_block k).trans h.f1⟩
theorem Two.of_cells {b : Nat} {w : World} {p q : Int} {t : TypeId} (h : w.heap[b]? = some (.cells #[.int .i64 p, .int .i64 q] t (0, 0))) : Two b (p, q) w := by
  refine ⟨?_, ?_, ?_, ?_⟩ <;> simp [World.cell?, World.frozen?, h]
theorem Two.at_iter {b : Nat} {p : Int × Int} {w : World} (h : Two b p w) (k : Nat) (hk : b ≠ k) (s : ByteArray) (pos : Nat) : Two b p (w.iterAt k s pos) :=
  h.of_block (Lib.iterAt_other w k b s pos hk)

theorem Two.set {b : Nat} {p : Int × Int} {w : World} (h : Two b p w) (q r : Int) : Two b (q, r) ((w.setCell ⟨b, 0, none⟩ (.int .i64 q)).setCell ⟨b, 1, none⟩ (.int .i64 r)) := by
  obtain ⟨c0, c1, f0, f1⟩ := h
  refine ⟨?_, ?_, ?_, ?_⟩ <;> go_simp
theorem Two.other {b c : Nat} {p : Int × Int} {w : World} (h : Two b p w) (hne : b ≠ c) (u v : Value) : Two b p ((w.setCell ⟨c, 0, none⟩ u).setCell ⟨c, 1, none⟩ v) :=
  h.of_block ((Below.heap_setCell _ _ _ _ hne).trans (Below.heap_setCell _ _ _ _ hne))

set_option maxHeartbeats 1000000 in
theorem behind2_any (l c r : Int) (w : World) (hl : 0 ≤ l ∧ l ≤ 562949953421312) (hc : 0 ≤ c ∧ c ≤ 562949953421312) :
    Calls Tryd.prog 18 #[.agg #[.int .i64 l, .int .i64 c], .int .i32 r] w fun e w' => e = .returned (.agg #[.int .i64 (L.nxt (l, c) r).1, .int .i64 (L.nxt (l, c) r).2]) ∧ Below w.heap.size w w' := by
  by_cases h : r = 10
  · subst h
    go_enter Tryd.func18, Tryd.ntmps18
    go_wp2
    refine bodyPost_ret_by (results_cell_row rfl _ _ (w.heap.size + 1) 50 _ _ _ rfl (by simpa using heap_alloc_new (w.alloc _) _) Tryd.underlying50 rfl (by kernel_rfl)) rfl ?_
    exact ⟨ret_two (by simp [L.nxt]) rfl, ((Below.refl _ _).alloc (Nat.le_refl _) _).alloc (by simp) _⟩
  · have hr : (r == 10) = false := by simpa using h
    go_enter Tryd.func18, Tryd.ntmps18
    go_wp2
    refine bodyPost_ret_by (results_cell_row rfl _ _ (w.heap.size + 1) 50 _ _ _ rfl (by simpa using heap_alloc_new (w.alloc _) _) Tryd.underlying50 rfl (by kernel_rfl)) rfl ?_
    exact ⟨ret_two (by simp [L.nxt, h]) (by simp [L.nxt, h]), ((Below.refl _ _).alloc (Nat.le_refl _) _).alloc (by simp) _⟩
/-- the place of a byte of a text, as the program tells it -/
def plc (s : ByteArray) (a : Int) : Int × Int := if a < 0 ∨ (s.size : Int) < a then (0, 0) else L.find s a.toNat s.size 0 (1, 1)
theorem ret_pl {a b : Int} {p : Int × Int} (h : p = (a, b)) : Ending.returned (.tuple #[.int .i64 a, .int .i64 b]) = .returned (.tuple #[.int .i64 p.1, .int .i64 p.2]) := by rw [h]

set_option maxRecDepth 100000 in
set_option maxHeartbeats 1000000 in
theorem place_any (s : ByteArray) (a : Int) (w : World) (hs0 : Hid (s.size ≤ 140737488355328)) (ha : -9223372036854775808 ≤ a ∧ a ≤ 9223372036854775807) :
    Calls Tryd.prog 11 #[.string s, .int .i64 a] w fun e w' => e = .returned (.tuple #[.int .i64 (plc s a).1, .int .i64 (plc s a).2]) ∧ Below w.heap.size w w' := by
  have hs := hs0.out
  by_cases h1 : a < 0
  · have e1 : decide (a < 0) = true := by simpa using h1
    go_enter Tryd.func11, Tryd.ntmps11
    go_wp2
    go_ret2
    exact ⟨ret_pl (by simp [plc, h1]), Below.refl _ _⟩
  have e1 : decide (a < 0) = false := by simpa using h1
  by_cases h2 : (s.size : Int) < a
  · have e2 : decide ((s.size : Int) < a) = true := by simpa using h2
    go_enter Tryd.func11, Tryd.ntmps11
    go_wp2
    go_ret2
    exact ⟨ret_pl (by simp [plc, h2]), Below.refl _ _⟩
  have e2 : decide ((s.size : Int) < a) = false := by simpa using h2
  obtain ⟨n, rfl⟩ : ∃ n : Nat, a = (n : Int) := ⟨a.toNat, by omega⟩
  have hn : n ≤ s.size := by omega
  have hpl : Hid (plc s n = L.find s n s.size 0 (1, 1)) := by
    show _ = _
    unfold plc
    rw [if_neg (by omega)]
    rfl
  clear h1 h2
  go_enter Tryd.func11, Tryd.ntmps11
  go_wp2_with (go_at_call 17; refine (first_any _).mono ?_; rintro e w1 ⟨rfl, b1⟩)
  obtain ⟨B, hB⟩ : ∃ B, w.heap.size = B := ⟨_, rfl⟩
  obtain ⟨C, hC⟩ : ∃ C, w1.heap.size = C := ⟨_, rfl⟩
  have hBC : B < C := by have := b1.size; simp at this; omega
  simp only [hB, hC]
  go_loopw [] (fun wx => ∃ (pos g : Nat) (h m : Int × Int), wx.heap[C + 1]? = some (.stringIter s pos) ∧ Two B h wx ∧ Two C m wx ∧ Below B w wx ∧ (n < pos → h = plc s n) ∧ (pos ≤ n → L.find s n g pos m = plc s n) ∧ s.size ≤ pos + g ∧ pos ≤ s.size ∧ (0 ≤ m.1 ∧ m.1 ≤ pos + 1) ∧ (0 ≤ m.2 ∧ m.2 ≤ pos + 1)) (fun wx => s.size + 1 - wx.iterPos (C + 1))
  case atStart =>
    have hB1 : w1.heap[B]? = some (.cells #[.int .i64 0, .int .i64 0] 50 (0, 0)) := by
      rw [b1.block B (by simp; omega), ← hB]; exact heap_alloc_new _ _
    have hI : ((w1.alloc (.cells #[.int .i64 1, .int .i64 1] 50)).iter s 0).heap[C + 1]? = some (.stringIter s 0) := by
      have := World.iter_heap (w1.alloc (.cells #[.int .i64 1, .int .i64 1] 50)) s 0
      simpa [hC] using this
    have hC1 : ((w1.alloc (.cells #[.int .i64 1, .int .i64 1] 50)).iter s 0).heap[C]? = some (.cells #[.int .i64 1, .int .i64 1] 50 (0, 0)) := by
      refine (Below.heap_alloc _ _ _ (by simp; omega)).trans ?_
      rw [← hC]; exact heap_alloc_new _ _
    have hB2 : ((w1.alloc (.cells #[.int .i64 1, .int .i64 1] 50)).iter s 0).heap[B]? = some (.cells #[.int .i64 0, .int .i64 0] 50 (0, 0)) :=
      (Below.heap_alloc _ _ _ (by simp; omega)).trans ((Below.heap_alloc _ _ _ (by omega)).trans hB1)
    refine ⟨0, s.size, (0, 0), (1, 1), hI, Two.of_cells hB2, Two.of_cells hC1, ?_, fun h => by omega, fun _ => hpl.out.symm, by omega, by omega, by simp, by simp⟩
    have b0 : Below B w (w.alloc (.cells #[.int .i64 0, .int .i64 0] 50)) := (Below.refl _ _).alloc (by omega) _
    exact ((b0.trans (b1.mono (by simp; omega))).alloc (by omega) _).alloc (by simp; omega) _
  case round =>
    obtain ⟨pos, g, h, m, hit, t1, t2, bel, hh, hm, hg, hp, m1, m2⟩ := hrel
    obtain ⟨h1, h2⟩ := h
    obtain ⟨n1, n2⟩ := m
    have HH := hide' (And.intro hh hm)
    clear hh hm
    by_cases hps : pos < s.size
    · have hnx : ∀ ty, (Instr.next (.pointer (some ⟨C + 1, 0, none⟩)) true ty).run Tryd.prog wr = .ok (.tuple #[.bool true, .int .i64 pos, .int .i32 (L.rn s pos)]) (wr.iterAt (C + 1) s (pos + L.wd s pos)) := fun ty => Lib.run_next_any_at wr (C + 1) s pos ty hit hps
      have hit2 := Lib.iterAt_heap wr (C + 1) s pos (pos + L.wd s pos) hit
      have bel2 := Lib.below_iterAt bel (k := C + 1) (by omega) s (pos + L.wd s pos)
      have t1' := t1.at_iter (C + 1) (by omega) s (pos + L.wd s pos)
      have t2' := t2.at_iter (C + 1) (by omega) s (pos + L.wd s pos)
      obtain ⟨W, hWd⟩ : ∃ W, wr.iterAt (C + 1) s (pos + L.wd s pos) = W := ⟨_, rfl⟩
      rw [hWd] at hnx hit2 bel2 t1' t2'
      have Hit := hide' hit
      clear hWd hit bel t1 t2
      have HT := hide' (And.intro t1' t2')
      have hltC : C + 1 < W.heap.size := (Array.getElem?_eq_some_iff.1 hit2).1
      obtain ⟨a1, a2, f1, f2⟩ := t1'
      obtain ⟨b1, b2, g1, g2⟩ := t2'
      by_cases hgt : n < pos
      · have e3 : decide ((n : Int) < (pos : Int)) = true := by simpa using hgt
        have HR : Hid (plc s n = (h1, h2)) := (HH.out.1 hgt).symm
        go_wp2
        go_quiet (fail)
        go_wp2
        go_ret2
        exact ⟨ret_pl HR.out, by rw [hB]; exact bel2.trans (below_drewN _ _ _)⟩
      · have e3 : decide ((n : Int) < (pos : Int)) = false := by simpa using hgt
        go_wp2
        go_region_with (go_at_call 18; refine (behind2_any n1 n2 _ _ (by omega) (by omega)).mono ?_; rintro e W2 ⟨rfl, bw⟩; have q1 : Two B (h1, h2) W2 := HT.out.1.of_block (bw.block B (show B < W.heap.size by omega)); have q2 : Two C (n1, n2) W2 := HT.out.2.of_block (bw.block C (show C < W.heap.size by omega)); obtain ⟨a1', a2', f1', f2'⟩ := q1; obtain ⟨b1', b2', g1', g2'⟩ := q2)
        all_goals
          have bw' : Below W.heap.size W W2 := by first | exact bw | exact ⟨bw.os, bw.tape, bw.output, bw.size, bw.block⟩
          have u1 : Two B (h1, h2) W2 := ⟨a1', a2', f1', f2'⟩
          have u2 : Two C (n1, n2) W2 := ⟨b1', b2', g1', g2'⟩
          obtain ⟨k1, k2⟩ := nxt_bd n1 n2 (L.rn s pos) pos m1 m2
          have hwp := L.wd_pos s pos
          have hwi := L.wd_in s pos hps
          have z3 := (Below.heap_setCell (((W2.setCell ⟨B, 0, none⟩ (.int .i64 n1)).setCell ⟨B, 1, none⟩ (.int .i64 n2)).setCell ⟨C, 0, none⟩ (.int .i64 (L.nxt (n1, n2) (L.rn s pos)).1)) ⟨C, 1, none⟩ (.int .i64 (L.nxt (n1, n2) (L.rn s pos)).2) (C + 1) (by simp)).trans ((Below.heap_setCell _ _ _ _ (by simp)).trans ((Below.heap_setCell _ _ _ _ (by simp; omega)).trans ((Below.heap_setCell _ _ _ _ (by simp; omega)).trans ((bw'.block (C + 1) hltC).trans hit2))))
          have z4 := ((((bel2.trans (bw'.mono (by omega))).setCell (p := ⟨B, 0, none⟩) (Nat.le_refl B) (.int .i64 n1)).setCell (p := ⟨B, 1, none⟩) (Nat.le_refl B) (.int .i64 n2)).setCell (p := ⟨C, 0, none⟩) (Nat.le_of_lt hBC) (.int .i64 (L.nxt (n1, n2) (L.rn s pos)).1)).setCell (p := ⟨C, 1, none⟩) (Nat.le_of_lt hBC) (.int .i64 (L.nxt (n1, n2) (L.rn s pos)).2)
          have z1 := (u1.set n1 n2).other (by omega : B ≠ C) (.int .i64 (L.nxt (n1, n2) (L.rn s pos)).1) (.int .i64 (L.nxt (n1, n2) (L.rn s pos)).2)
          have z2 := (u2.other (by omega : C ≠ B) (.int .i64 n1) (.int .i64 n2)).set (L.nxt (n1, n2) (L.rn s pos)).1 (L.nxt (n1, n2) (L.rn s pos)).2
          obtain ⟨g', hg1, hg2⟩ : ∃ g', (pos + L.wd s pos ≤ n → L.find s n g' (pos + L.wd s pos) (L.nxt (n1, n2) (L.rn s pos)) = plc s n) ∧ s.size ≤ pos + L.wd s pos + g' := by
            by_cases hq : n < pos + L.wd s pos
            · exact ⟨s.size, fun h => by omega, by omega⟩
            · obtain ⟨g', q1, q2⟩ := L.find_on s n g pos (n1, n2) hg hps hq
              exact ⟨g', fun _ => q1.symm.trans (HH.out.2 (by omega)), q2⟩
          have hh1 : n < pos + L.wd s pos → (n1, n2) = plc s n := fun h => by
            rw [← HH.out.2 (by omega), L.find_here s n g pos (n1, n2) hg hps h]
          go_wp2
          refine ⟨⟨pos + L.wd s pos, g', (n1, n2), _, z3, z1, z2, z4, hh1, hg1, hg2, hwi, ?_, ?_⟩, ?_⟩
          · have := k1.2; exact ⟨k1.1, by omega⟩
          · have := k2.2; exact ⟨k2.1, by omega⟩
          · rw [iterPos_of z3, iterPos_of Hit.out]; omega
    · have hpe : pos = s.size := by omega
      have hnx : ∀ ty, (Instr.next (.pointer (some ⟨C + 1, 0, none⟩)) true ty).run Tryd.prog wr = _ := fun ty => Lib.run_next_end_at wr (C + 1) s pos ty hit hps
      have HT := hide' (And.intro t1 t2)
      obtain ⟨a1, a2, f1, f2⟩ := t1
      obtain ⟨b1, b2, g1, g2⟩ := t2
      by_cases hq : n = s.size
      · have e3 : ((n : Int) == (s.size : Int)) = true := by simp; omega
        have HR : Hid (plc s n = (n1, n2)) := by
          have := HH.out.2 (by omega)
          rw [L.find_end s n g pos (n1, n2) hps] at this
          exact this.symm
        clear hq hpe
        go_wp2
        go_quiet (fail)
        go_wp2
        go_ret2
        exact ⟨ret_pl HR.out, by rw [hB]; exact Below.trans ((bel.setCell (p := ⟨B, 0, none⟩) (Nat.le_refl B) _).setCell (p := ⟨B, 1, none⟩) (Nat.le_refl B) _) (below_drewN _ _ _)⟩
      · have e3 : ((n : Int) == (s.size : Int)) = false := by simp; omega
        have HR : Hid (plc s n = (h1, h2)) := (HH.out.1 (by omega)).symm
        clear hq hpe
        go_wp2
        go_quiet (fail)
        go_wp2
        go_ret2
        exact ⟨ret_pl HR.out, by rw [hB]; exact bel.trans (below_drewN _ _ _)⟩
end Go.Proofs.YtgkigcdpbopgbaaDoor
