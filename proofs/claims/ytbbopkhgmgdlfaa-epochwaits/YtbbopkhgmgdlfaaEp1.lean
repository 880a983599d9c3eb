import Derived.Test.YtbbopkhgmgdlfaaWds
import Derived.Test.YtbbopkhgmgdlfaaTrc
import Derived.Test.YtbbopkhgmgdlfaaFil
set_option linter.unusedVariables false
set_option linter.unusedSimpArgs false
namespace Go.Proofs.Ytbbopkhgmgdlfaa
open Go.RowKit
namespace M
variable {D : Nat → Prop} {B x : Nat} {ws : List Int} {tr : List Ac} {bad : Nat} {w w' : World}
/-- the kinds of a memory's blocks -/
theorem Mem.kind (h : Mem D B x ws tr bad w) {j : Nat} (hj : D j) : ∃ cs t, w.heap[j]? = some (.cells cs t (0, 0)) ∧ (t = 82 ∨ t = 3 ∨ t = 75) := by
  obtain ⟨hb, g, ao, cap, hm, hd⟩ := h
  rcases (hd j).1 hj with rfl | rfl | ⟨a, rfl, rfl⟩
  · exact ⟨_, _, hm.hx, .inl rfl⟩
  · exact ⟨_, _, hm.hg, .inr (.inl rfl)⟩
  · rcases hm.row.2 with ⟨hv, _⟩ | ⟨g', cap', cur, hv, hb, hg', _⟩
    · cases hv
    · simp only [Value.slice.injEq, Option.some.injEq] at hv
      obtain ⟨rfl, _, _⟩ := hv
      exact ⟨_, _, hg', .inr (.inr rfl)⟩
theorem Mem.not (h : Mem D B x ws tr bad w) {j : Nat} {cs : Array Value} {t : TypeId} {r : Nat × Nat} (ho : w.heap[j]? = some (.cells cs t r)) (hk : t ≠ 82 ∧ t ≠ 3 ∧ t ≠ 75) : ¬ D j := by
  intro hj
  obtain ⟨cs', t', h1, h2⟩ := h.kind hj
  rw [ho] at h1
  cases h1
  rcases h2 with q | q | q
  · exact hk.1 q
  · exact hk.2.1 q
  · exact hk.2.2 q
theorem Mem.drew (h : Mem D B x ws tr bad w) : Mem D B x ws tr bad w.drew := h.kept ((Turn.refl (fun _ => False) w).drew) (fun _ _ q => q)
theorem Mem.drewN (h : Mem D B x ws tr bad w) (n : Nat) : Mem D B x ws tr bad (w.drewN n) := h.kept ((Turn.refl (fun _ => False) w).drewN n) (fun _ _ q => q)
theorem To.drew (t : To D B x ws tr bad w.drew w') : To D B x ws tr bad w w' := by
  obtain ⟨D', h, t, s⟩ := t
  exact ⟨D', h, ((Turn.refl D w).drew).trans t, s⟩
/-- AT BLOCK b THERE IS A ROW (a Slots, a Section or a Grace): whose words they are -/
structure Rw (b x e f n : Nat) (w : World) : Prop where
  hb : ∃ cs t, w.heap[b]? = some (.cells cs t (0, 0)) ∧ (t = 90 ∨ t = 113 ∨ t = 115)
  c0 : w.cell? ⟨b, 0, none⟩ = some (.pointer (some ⟨x, 0, none⟩))
  c1 : w.cell? ⟨b, 1, none⟩ = some (.int .i64 (e : Nat))
  c2 : w.cell? ⟨b, 2, none⟩ = some (.int .i64 (f : Nat))
  c3 : w.cell? ⟨b, 3, none⟩ = some (.int .i64 (n : Nat))
variable {b e f n : Nat}
theorem Rw.lt (h : Rw b x e f n w) : b < w.heap.size := by obtain ⟨cs, t, q, _⟩ := h.hb; exact lt_of_heap q
theorem Rw.block (h : Rw b x e f n w) (q : w'.heap[b]? = w.heap[b]?) : Rw b x e f n w' := by
  obtain ⟨cs, t, p, hk⟩ := h.hb
  exact ⟨⟨cs, t, q.trans p, hk⟩, (World.cell?_of_block (w := w) q).trans h.c0, (World.cell?_of_block (w := w) q).trans h.c1, (World.cell?_of_block (w := w) q).trans h.c2, (World.cell?_of_block (w := w) q).trans h.c3⟩
theorem Rw.kept {S : Nat → Prop} (h : Rw b x e f n w) (t : Turn S w w') (hn : ¬ S b) : Rw b x e f n w' := h.block (t.block b h.lt hn)
theorem Rw.below (h : Rw b x e f n w) (t : Below w.heap.size w w') : Rw b x e f n w' := h.block (t.block b h.lt)
theorem Rw.drew (h : Rw b x e f n w) : Rw b x e f n w.drew := h.block rfl
theorem Rw.nd (h : Rw b x e f n w) (hm : Mem D B x ws tr bad w) : ¬ D b := by
  obtain ⟨cs, t, p, hk⟩ := h.hb
  exact hm.not p (by rcases hk with rfl | rfl | rfl <;> decide)
theorem To.rw {ws' : List Int} {tr' : List Ac} {bad' : Nat} (t : To D B x ws' tr' bad' w w') (hm : Mem D B x ws tr bad w) (h : Rw b x e f n w) : Rw b x e f n w' := by
  obtain ⟨D', h', tt, s⟩ := t
  exact h.kept tt (h.nd hm)
/-- is there such a slot? -/
def isl (n : Nat) (s : Int) : Bool := decide (0 ≤ s ∧ s < (n : Int))
set_option maxRecDepth 100000 in
set_option maxHeartbeats 1000000 in
theorem has_any (s : Int) (h : Rw b x e f n w) : Calls Try.prog 52 #[.pointer (some ⟨b, 0, none⟩), .int .i64 s] w fun r w' => r = .returned (.bool (isl n s)) ∧ w' = w := by
  have c3 := h.c3
  clear h
  by_cases h0 : 0 ≤ s
  · by_cases h1 : s < (n : Int)
    · rw [show isl n s = true from decide_eq_true ⟨h0, h1⟩]
      go_enter Try.func52, Try.ntmps52
      go_wp2
      go_ret
      exact ⟨rfl, rfl⟩
    · rw [show isl n s = false from decide_eq_false (fun q => h1 q.2)]
      have d1 : decide (s < (n : Int)) = false := decide_eq_false h1
      go_enter Try.func52, Try.ntmps52
      go_wp2
      go_ret
      exact ⟨rfl, rfl⟩
  · rw [show isl n s = false from decide_eq_false (fun q => h0 q.1)]
    have d1 : decide (0 ≤ s) = false := decide_eq_false h0
    go_enter Try.func52, Try.ntmps52
    go_wp2
    go_ret
    exact ⟨rfl, rfl⟩
set_option maxRecDepth 100000 in
set_option maxHeartbeats 1000000 in
theorem raise_any (h : Mem D B x ws tr bad w) (hk : Rw b x e f n w) (hl : tr.length < 1999999999999) :
    Calls Try.prog 51 #[.pointer (some ⟨b, 0, none⟩)] w fun r w' => r = .returned (.int .i64 (wrap64 (std ws e + 1))) ∧ To D B x (put ws e (wrap64 (std ws e + 1))) (tr ++ [⟨4, e, 1, std ws e, good ws e⟩]) (bad + bd ws e) w w' := by
  have c0 := hk.c0
  have c1 := hk.c1
  have HC : Hid (Calls Try.prog 72 #[.pointer (some ⟨x, 0, none⟩), .int .i64 (e : Nat), .int .i64 1] w.drew fun r w' => r = .returned (.tuple #[.int .i64 (std ws e), .int .i64 (er ws e)]) ∧ To D B x (put ws e (wrap64 (std ws e + 1))) (tr ++ [⟨4, e, 1, std ws e, good ws e⟩]) (bad + bd ws e) w w') := hide' ((add_any (e : Int) 1 h.drew hl).mono fun r w' ⟨he, ht⟩ => ⟨he, To.drew ht⟩)
  have Hk : Hid (∀ w', To D B x (put ws e (wrap64 (std ws e + 1))) (tr ++ [⟨4, e, 1, std ws e, good ws e⟩]) (bad + bd ws e) w w' → Rw b x e f n w') := hide' (fun w' t => To.rw t h hk)
  generalize put ws e (wrap64 (std ws e + 1)) = ws1 at *
  generalize tr ++ [(⟨4, e, 1, std ws e, good ws e⟩ : Ac)] = tr1 at *
  generalize bad + bd ws e = bad1 at *
  generalize std ws e = V at *
  generalize er ws e = E at *
  clear h hk hl
  go_enter Try.func51, Try.ntmps51
  go_wp2_with fail
  go_region_held3 (fun w' => w'.cell? ⟨b, 0, none⟩ = some (.pointer (some ⟨x, 0, none⟩)) ∧ w'.cell? ⟨b, 1, none⟩ = some (.int .i64 (e : Nat))) (first | exact ⟨c0, c1⟩ | exact ⟨k0, k1⟩) ((go_at_call 72; refine HC.out.mono ?_; rintro r w3 ⟨rfl, t3⟩; have k0 := (Hk.out w3 t3).c0; have k1 := (Hk.out w3 t3).c1))
  rename_i hHeld
  clear hHeld
  go_wp2
  go_ret
  exact ⟨rfl, t3⟩
set_option maxRecDepth 100000 in
set_option maxHeartbeats 1000000 in
theorem now_any (h : Mem D B x ws tr bad w) (hk : Rw b x e f n w) (hl : tr.length < 1999999999999) :
    Calls Try.prog 55 #[.pointer (some ⟨b, 0, none⟩)] w fun r w' => r = .returned (.int .i64 (std ws e)) ∧ To D B x ws (tr ++ [⟨1, e, std ws e, 0, good ws e⟩]) (bad + bd ws e) w w' := by
  have c0 := hk.c0
  have c1 := hk.c1
  have HC : Hid (Calls Try.prog 48 #[.pointer (some ⟨x, 0, none⟩), .int .i64 (e : Nat)] w.drew fun r w' => r = .returned (.tuple #[.int .i64 (std ws e), .int .i64 (er ws e)]) ∧ To D B x ws (tr ++ [⟨1, e, std ws e, 0, good ws e⟩]) (bad + bd ws e) w w') := hide' ((load_any (e : Int) h.drew hl).mono fun r w' ⟨he, ht⟩ => ⟨he, To.drew ht⟩)
  have Hk : Hid (∀ w', To D B x ws (tr ++ [⟨1, e, std ws e, 0, good ws e⟩]) (bad + bd ws e) w w' → Rw b x e f n w') := hide' (fun w' t => To.rw t h hk)
  generalize tr ++ [(⟨1, e, std ws e, 0, good ws e⟩ : Ac)] = tr1 at *
  generalize bad + bd ws e = bad1 at *
  generalize std ws e = V at *
  generalize er ws e = E at *
  clear h hk hl
  go_enter Try.func55, Try.ntmps55
  go_wp2_with fail
  go_region_held3 (fun w' => w'.cell? ⟨b, 0, none⟩ = some (.pointer (some ⟨x, 0, none⟩)) ∧ w'.cell? ⟨b, 1, none⟩ = some (.int .i64 (e : Nat))) (first | exact ⟨c0, c1⟩ | exact ⟨k0, k1⟩) ((go_at_call 48; refine HC.out.mono ?_; rintro r w3 ⟨rfl, t3⟩; have k0 := (Hk.out w3 t3).c0; have k1 := (Hk.out w3 t3).c1))
  rename_i hHeld
  clear hHeld
  go_wp2
  go_ret
  exact ⟨rfl, t3⟩
end M
end Go.Proofs.Ytbbopkhgmgdlfaa
