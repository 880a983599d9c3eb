import Derived.Test.YtbbopkhgmgdlfaaEp1
set_option linter.unusedVariables false
set_option linter.unusedSimpArgs false
namespace Go.Proofs.Ytbbopkhgmgdlfaa
open Go.RowKit
namespace M
variable {D : Nat → Prop} {B x : Nat} {ws : List Int} {tr : List Ac} {bad : Nat} {w w' : World}
variable {b e f n : Nat}
set_option maxRecDepth 100000 in
set_option maxHeartbeats 1000000 in
theorem rput_any (s a : Nat) (v : Int) (ha : a = f + s) (hs : a < 1000000) (h : Mem D B x ws tr bad w) (hk : Rw b x e f n w) (hl : tr.length < 1999999999999) :
    Calls Try.prog 56 #[.pointer (some ⟨b, 0, none⟩), .int .i64 (s : Nat), .int .i64 v] w fun r w' => r = .returned (.int .i64 (er ws a)) ∧ To D B x (put ws a v) (tr ++ [⟨2, a, v, std ws a, good ws a⟩]) (bad + bd ws a) w w' := by
  have c0 := hk.c0
  have c2 := hk.c2
  have hw : IntKind.wrap .i64 ((f : Int) + (s : Int)) = (a : Int) := by rw [IntKind.wrap_i64]; subst ha; omega
  have HC : Hid (Calls Try.prog 20 #[.pointer (some ⟨x, 0, none⟩), .int .i64 (a : Nat), .int .i64 v] w.drew fun r w' => r = .returned (.int .i64 (er ws a)) ∧ To D B x (put ws a v) (tr ++ [⟨2, a, v, std ws a, good ws a⟩]) (bad + bd ws a) w w') := hide' ((store_any (a : Int) v h.drew hl).mono fun r w' ⟨he, ht⟩ => ⟨he, To.drew ht⟩)
  have Hk : Hid (∀ w', To D B x (put ws a v) (tr ++ [⟨2, a, v, std ws a, good ws a⟩]) (bad + bd ws a) w w' → Rw b x e f n w') := hide' (fun w' t => To.rw t h hk)
  generalize put ws a v = ws1 at *
  generalize tr ++ [(⟨2, a, v, std ws a, good ws a⟩ : Ac)] = tr1 at *
  generalize bad + bd ws a = bad1 at *
  generalize std ws a = V at *
  generalize er ws a = E at *
  clear h hk hl ha hs
  go_enter Try.func56, Try.ntmps56
  go_wp2_with fail
  go_region_held3 (fun w' => w'.cell? ⟨b, 0, none⟩ = some (.pointer (some ⟨x, 0, none⟩)) ∧ w'.cell? ⟨b, 2, none⟩ = some (.int .i64 (f : Nat))) (first | exact ⟨c0, c2⟩ | exact ⟨k0, k1⟩) ((go_at_call 20; refine HC.out.mono ?_; rintro r w3 ⟨rfl, t3⟩; have k0 := (Hk.out w3 t3).c0; have k1 := (Hk.out w3 t3).c2))
  rename_i hHeld
  clear hHeld
  go_wp2
  go_ret
  exact ⟨rfl, t3⟩
set_option maxRecDepth 100000 in
set_option maxHeartbeats 1000000 in
theorem look_any (s a : Nat) (ha : a = f + s) (hs : a < 1000000) (h : Mem D B x ws tr bad w) (hk : Rw b x e f n w) (hl : tr.length < 1999999999999) :
    Calls Try.prog 54 #[.pointer (some ⟨b, 0, none⟩), .int .i64 (s : Nat)] w fun r w' => r = .returned (.int .i64 (std ws a)) ∧ To D B x ws (tr ++ [⟨1, a, std ws a, 0, good ws a⟩]) (bad + bd ws a) w w' := by
  have c0 := hk.c0
  have c2 := hk.c2
  have hw : IntKind.wrap .i64 ((f : Int) + (s : Int)) = (a : Int) := by rw [IntKind.wrap_i64]; subst ha; omega
  have HC : Hid (Calls Try.prog 48 #[.pointer (some ⟨x, 0, none⟩), .int .i64 (a : Nat)] w.drew fun r w' => r = .returned (.tuple #[.int .i64 (std ws a), .int .i64 (er ws a)]) ∧ To D B x ws (tr ++ [⟨1, a, std ws a, 0, good ws a⟩]) (bad + bd ws a) w w') := hide' ((load_any (a : Int) h.drew hl).mono fun r w' ⟨he, ht⟩ => ⟨he, To.drew ht⟩)
  have Hk : Hid (∀ w', To D B x ws (tr ++ [⟨1, a, std ws a, 0, good ws a⟩]) (bad + bd ws a) w w' → Rw b x e f n w') := hide' (fun w' t => To.rw t h hk)
  generalize tr ++ [(⟨1, a, std ws a, 0, good ws a⟩ : Ac)] = tr1 at *
  generalize bad + bd ws a = bad1 at *
  generalize std ws a = V at *
  generalize er ws a = E at *
  clear h hk hl ha hs
  go_enter Try.func54, Try.ntmps54
  go_wp2_with fail
  go_region_held3 (fun w' => w'.cell? ⟨b, 0, none⟩ = some (.pointer (some ⟨x, 0, none⟩)) ∧ w'.cell? ⟨b, 2, none⟩ = some (.int .i64 (f : Nat))) (first | exact ⟨c0, c2⟩ | exact ⟨k0, k1⟩) ((go_at_call 48; refine HC.out.mono ?_; rintro r w3 ⟨rfl, t3⟩; have k0 := (Hk.out w3 t3).c0; have k1 := (Hk.out w3 t3).c2))
  rename_i hHeld
  clear hHeld
  go_wp2
  go_ret
  exact ⟨rfl, t3⟩
theorem piece_1k {ws : List Int} {k : Nat} (h : k < ws.length) : piece ws k 1 = [ws.getD k 0] ∧ pe ws k 1 = 0 := by
  have hw : Wi ws k 1 := by unfold Wi; omega
  refine ⟨?_, if_pos hw⟩
  unfold piece
  rw [if_pos hw, Int.toNat_natCast]
  have := drop_take_succ ws k 0 (by omega)
  simpa using this
theorem word_one {a : Nat} (h : Mem D B x ws tr bad w) (hs : a < ws.length) : Calls Try.prog 18 #[.pointer (some ⟨x, 0, none⟩), .int .i64 (a : Nat), .int .i64 1] w fun r w' => ∃ g rc, r = .returned (.tuple #[.slice (some ⟨g, 0, none⟩) 1 rc, .int .i64 0]) ∧ w'.cell? ⟨g, 0, none⟩ = some (.int .i64 (ws.getD a 0)) ∧ Below w.heap.size w w' := by
  obtain ⟨p1, p2⟩ := piece_1k hs
  refine (words_any (a : Int) 1 h (by omega)).mono fun r w' ⟨ro, rc, he, hr, hb⟩ => ?_
  rw [p1, p2] at he
  rw [p1] at hr
  obtain ⟨g, cap', hv, _, _⟩ := hr.form (by simp)
  simp only [Value.slice.injEq] at hv
  obtain ⟨rfl, _, rfl⟩ := hv
  refine ⟨g, rc, he, ?_, hb⟩
  have := row_cell hr 0 _ rfl
  simpa [Addr.add] using this
set_option maxRecDepth 100000 in
set_option maxHeartbeats 1000000 in
theorem peek_any (s a : Nat) (ha : a = f + s) (h : Mem D B x ws tr bad w) (hk : Rw b x e f n w) (hs : a < ws.length) :
    Calls Try.prog 57 #[.pointer (some ⟨b, 0, none⟩), .int .i64 (s : Nat)] w fun r w' => r = .returned (.int .i64 (ws.getD a 0)) ∧ Below w.heap.size w w' := by
  have c0 := hk.c0
  have c2 := hk.c2
  have hw : IntKind.wrap .i64 ((f : Int) + (s : Int)) = (a : Int) := by have := h.few; rw [IntKind.wrap_i64]; subst ha; omega
  have HC : Hid (Calls Try.prog 18 #[.pointer (some ⟨x, 0, none⟩), .int .i64 (a : Nat), .int .i64 1] w.drew fun r w' => ∃ g rc, r = .returned (.tuple #[.slice (some ⟨g, 0, none⟩) 1 rc, .int .i64 0]) ∧ w'.cell? ⟨g, 0, none⟩ = some (.int .i64 (ws.getD a 0)) ∧ Below w.heap.size w w') := hide' ((word_one h.drew hs).mono fun r w' ⟨g, rc, he, hc, hb⟩ => ⟨g, rc, he, hc, ⟨hb.os, hb.tape, hb.output, hb.size, hb.block⟩⟩)
  have Hk : Hid (∀ w', Below w.heap.size w w' → Rw b x e f n w') := hide' (fun w' t => hk.below t)
  clear h hk hs ha
  generalize ws.getD a 0 = V at *
  go_enter Try.func57, Try.ntmps57
  go_wp2_with fail
  go_region_held3 (fun w' => w'.cell? ⟨b, 0, none⟩ = some (.pointer (some ⟨x, 0, none⟩)) ∧ w'.cell? ⟨b, 2, none⟩ = some (.int .i64 (f : Nat))) (first | exact ⟨c0, c2⟩ | exact ⟨k0, k1⟩) ((go_at_call 18; refine HC.out.mono ?_; rintro r w3 ⟨g, rc, rfl, cg, t3⟩; have k0 := (Hk.out w3 t3).c0; have k1 := (Hk.out w3 t3).c2))
  rename_i hHeld
  clear hHeld
  go_wp2
  go_ret
  exact ⟨rfl, t3⟩
end M
end Go.Proofs.Ytbbopkhgmgdlfaa
