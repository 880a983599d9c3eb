import Derived.Test.YtnpdmeeolcjmlaaWds
import Derived.Test.YtnpdmeeolcjmlaaTrc
import Derived.Test.YtnpdmeeolcjmlaaFil
set_option linter.unusedVariables false
set_option linter.unusedSimpArgs false
namespace Go.Proofs.Ytnpdmeeolcjmlaa
open Go.RowKit
namespace M
variable {D : Nat → Prop} {B x : Nat} {ws : List Int} {tr : List Ac} {bad : Nat} {w w' : World}
/-- the kinds of a memory's blocks -/
theorem Mem.kind (h : Mem D B x ws tr bad w) {j : Nat} (hj : D j) : ∃ cs t, w.heap[j]? = some (.cells cs t (0, 0)) ∧ (t = 68 ∨ t = 3 ∨ t = 83) := by
  obtain ⟨hb, g, ao, cap, hm, hd⟩ := h
  rcases (hd j).1 hj with rfl | rfl | ⟨a, rfl, rfl⟩
  · exact ⟨_, _, hm.hx, .inl rfl⟩
  · exact ⟨_, _, hm.hg, .inr (.inl rfl)⟩
  · rcases hm.row.2 with ⟨hv, _⟩ | ⟨g', cap', cur, hv, hb, hg', _⟩
    · cases hv
    · simp only [Value.slice.injEq, Option.some.injEq] at hv
      obtain ⟨rfl, _, _⟩ := hv
      exact ⟨_, _, hg', .inr (.inr rfl)⟩
theorem Mem.not (h : Mem D B x ws tr bad w) {j : Nat} {cs : Array Value} {t : TypeId} {r : Nat × Nat} (ho : w.heap[j]? = some (.cells cs t r)) (hk : t ≠ 68 ∧ t ≠ 3 ∧ t ≠ 83) : ¬ D j := by
  intro hj
  obtain ⟨cs', t', h1, h2⟩ := h.kind hj
  rw [ho] at h1
  cases h1
  rcases h2 with q | q | q
  · exact hk.1 q
  · exact hk.2.1 q
  · exact hk.2.2 q
theorem Mem.drew (h : Mem D B x ws tr bad w) : Mem D B x ws tr bad w.drew := h.kept ((Turn.refl (fun _ => False) w).drew) (fun _ _ q => q)
theorem Mem.drewN (h : Mem D B x ws tr bad w) (n : Nat) : Mem D B x ws tr bad (w.drewN n) := h.kept ((Turn.refl (fun _ => False) w).drewN n) (fun _ _ q => q)
theorem To.drew (t : To D B x ws tr bad w.drew w') : To D B x ws tr bad w w' := by
  obtain ⟨D', h, t, s⟩ := t
  exact ⟨D', h, ((Turn.refl D w).drew).trans t, s⟩
/-- BLOCK l IS A LOCK of two words of the memory x -/
def Lk (l x : Nat) (nx sv : Nat) (w : World) : Prop := w.heap[l]? = some (.cells #[.pointer (some ⟨x, 0, none⟩), .int .i64 (nx : Nat), .int .i64 (sv : Nat)] 71 (0, 0))
/-- BLOCK b IS A WAITER of the lock l -/
def Wt (b l : Nat) (t : Int) (has ho : Bool) (w : World) : Prop := w.heap[b]? = some (.cells #[.pointer (some ⟨l, 0, none⟩), .int .i64 t, .bool has, .bool ho] 73 (0, 0))
variable {l b nx sv : Nat} {t : Int} {has ho : Bool}
theorem Lk.kept {S : Nat → Prop} (h : Lk l x nx sv w) (t : Turn S w w') (hn : ¬ S l) : Lk l x nx sv w' := (t.block l (lt_of_heap h) hn).trans h
theorem Wt.kept {S : Nat → Prop} (h : Wt b l t has ho w) (tt : Turn S w w') (hn : ¬ S b) : Wt b l t has ho w' := (tt.block b (lt_of_heap h) hn).trans h
theorem Lk.below (h : Lk l x nx sv w) (t : Below w.heap.size w w') : Lk l x nx sv w' := (t.block l (lt_of_heap h)).trans h
theorem Wt.below (h : Wt b l t has ho w) (tt : Below w.heap.size w w') : Wt b l t has ho w' := (tt.block b (lt_of_heap h)).trans h
theorem Lk.nd (h : Lk l x nx sv w) (hm : Mem D B x ws tr bad w) : ¬ D l := hm.not h (by decide)
theorem Wt.nd {l x : Nat} (h : Wt b l t has ho w) (hm : Mem D B x ws tr bad w) : ¬ D b := hm.not h (by decide)
theorem Lk.c0 (h : Lk l x nx sv w) : w.cell? ⟨l, 0, none⟩ = some (.pointer (some ⟨x, 0, none⟩)) := by rw [Lib.cell_of_heap h]; rfl
theorem Lk.c1 (h : Lk l x nx sv w) : w.cell? ⟨l, 1, none⟩ = some (.int .i64 (nx : Nat)) := by rw [Lib.cell_of_heap h]; rfl
theorem Lk.c2 (h : Lk l x nx sv w) : w.cell? ⟨l, 2, none⟩ = some (.int .i64 (sv : Nat)) := by rw [Lib.cell_of_heap h]; rfl
theorem Wt.c0 (h : Wt b l t has ho w) : w.cell? ⟨b, 0, none⟩ = some (.pointer (some ⟨l, 0, none⟩)) := by rw [Lib.cell_of_heap h]; rfl
theorem Wt.c1 (h : Wt b l t has ho w) : w.cell? ⟨b, 1, none⟩ = some (.int .i64 t) := by rw [Lib.cell_of_heap h]; rfl
theorem Wt.c2 (h : Wt b l t has ho w) : w.cell? ⟨b, 2, none⟩ = some (.bool has) := by rw [Lib.cell_of_heap h]; rfl
theorem Wt.c3 (h : Wt b l t has ho w) : w.cell? ⟨b, 3, none⟩ = some (.bool ho) := by rw [Lib.cell_of_heap h]; rfl
theorem Wt.f (h : Wt b l t has ho w) (j : Nat) : w.frozen? ⟨b, j, none⟩ = false := Lib.frozen_of_heap h j
theorem Wt.lt (h : Wt b l t has ho w) : b < w.heap.size := lt_of_heap h
theorem Lk.lt (h : Lk l x nx sv w) : l < w.heap.size := lt_of_heap h
/-- what a step on a memory leaves of a block beside -/
theorem To.lk {ws' : List Int} {tr' : List Ac} {bad' : Nat} (t : To D B x ws' tr' bad' w w') (hm : Mem D B x ws tr bad w) (h : Lk l x nx sv w) : Lk l x nx sv w' := by
  obtain ⟨D', h', tt, s⟩ := t
  exact h.kept tt (h.nd hm)
theorem To.wt {ws' : List Int} {tr' : List Ac} {bad' : Nat} (tm : To D B x ws' tr' bad' w w') (hm : Mem D B x ws tr bad w) (h : Wt b l t has ho w) : Wt b l t has ho w' := by
  obtain ⟨D', h', tt, s⟩ := tm
  exact h.kept tt (h.nd hm)
set_option maxRecDepth 100000 in
set_option maxHeartbeats 1000000 in
theorem draw_any (h : Mem D B x ws tr bad w) (hk : Lk l x nx sv w) (hl : tr.length < 1999999999999) :
    Calls Try.prog 45 #[.pointer (some ⟨l, 0, none⟩)] w fun e w' => e = .returned (.tuple #[.int .i64 (std ws nx), .int .i64 (er ws nx)]) ∧ To D B x (put ws nx (wrap64 (std ws nx + 1))) (tr ++ [⟨4, nx, 1, std ws nx, good ws nx⟩]) (bad + bd ws nx) w w' := by
  have c0 := hk.c0
  have c1 := hk.c1
  have HC : Hid (Calls Try.prog 43 #[.pointer (some ⟨x, 0, none⟩), .int .i64 (nx : Nat), .int .i64 1] w.drew fun e w' => e = .returned (.tuple #[.int .i64 (std ws nx), .int .i64 (er ws nx)]) ∧ To D B x (put ws nx (wrap64 (std ws nx + 1))) (tr ++ [⟨4, nx, 1, std ws nx, good ws nx⟩]) (bad + bd ws nx) w w') := hide' ((add_any (nx : Int) 1 h.drew hl).mono fun e w' ⟨he, ht⟩ => ⟨he, To.drew ht⟩)
  have Hk : Hid (∀ w', To D B x (put ws nx (wrap64 (std ws nx + 1))) (tr ++ [⟨4, nx, 1, std ws nx, good ws nx⟩]) (bad + bd ws nx) w w' → Lk l x nx sv w') := hide' (fun w' t => To.lk t h hk)
  generalize put ws nx (wrap64 (std ws nx + 1)) = ws1 at *
  generalize tr ++ [(⟨4, nx, 1, std ws nx, good ws nx⟩ : Ac)] = tr1 at *
  generalize bad + bd ws nx = bad1 at *
  generalize std ws nx = V at *
  generalize er ws nx = E at *
  clear h hk hl
  go_enter Try.func45, Try.ntmps45
  go_wp2_with fail
  go_region_held3 (fun w' => w'.cell? ⟨l, 0, none⟩ = some (.pointer (some ⟨x, 0, none⟩)) ∧ w'.cell? ⟨l, 1, none⟩ = some (.int .i64 (nx : Nat))) (first | exact ⟨c0, c1⟩ | exact ⟨k0, k1⟩) ((go_at_call 43; refine HC.out.mono ?_; rintro e w3 ⟨rfl, t3⟩; have k0 := (Hk.out w3 t3).c0; have k1 := (Hk.out w3 t3).c1))
  rename_i hHeld
  clear hHeld
  go_wp2
  go_ret2
  exact ⟨rfl, t3⟩
end M
end Go.Proofs.Ytnpdmeeolcjmlaa
