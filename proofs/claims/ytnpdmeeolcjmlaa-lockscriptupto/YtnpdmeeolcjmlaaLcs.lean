import Derived.Test.YtnpdmeeolcjmlaaLck
set_option linter.unusedVariables false
set_option linter.unusedSimpArgs false
namespace Go.Proofs.Ytnpdmeeolcjmlaa
open Go.RowKit
namespace M
variable {D : Nat → Prop} {B x : Nat} {ws : List Int} {tr : List Ac} {bad : Nat} {w w' : World}
variable {l b nx sv : Nat} {t : Int} {has ho : Bool}
set_option maxRecDepth 100000 in
set_option maxHeartbeats 1000000 in
theorem leave_any (h : Mem D B x ws tr bad w) (hk : Lk l x nx sv w) (hl : tr.length < 1999999999999) :
    Calls Try.prog 25 #[.pointer (some ⟨l, 0, none⟩)] w fun e w' => e = .returned (.int .i64 (er ws sv)) ∧ To D B x (put ws sv (wrap64 (std ws sv + 1))) (tr ++ [⟨4, sv, 1, std ws sv, good ws sv⟩]) (bad + bd ws sv) w w' := by
  have c0 := hk.c0
  have c1 := hk.c2
  have HC : Hid (Calls Try.prog 43 #[.pointer (some ⟨x, 0, none⟩), .int .i64 (sv : Nat), .int .i64 1] w.drew fun e w' => e = .returned (.tuple #[.int .i64 (std ws sv), .int .i64 (er ws sv)]) ∧ To D B x (put ws sv (wrap64 (std ws sv + 1))) (tr ++ [⟨4, sv, 1, std ws sv, good ws sv⟩]) (bad + bd ws sv) w w') := hide' ((add_any (sv : Int) 1 h.drew hl).mono fun e w' ⟨he, ht⟩ => ⟨he, To.drew ht⟩)
  have Hk : Hid (∀ w', To D B x (put ws sv (wrap64 (std ws sv + 1))) (tr ++ [⟨4, sv, 1, std ws sv, good ws sv⟩]) (bad + bd ws sv) w w' → Lk l x nx sv w') := hide' (fun w' t => To.lk t h hk)
  generalize put ws sv (wrap64 (std ws sv + 1)) = ws1 at *
  generalize tr ++ [(⟨4, sv, 1, std ws sv, good ws sv⟩ : Ac)] = tr1 at *
  generalize bad + bd ws sv = bad1 at *
  generalize std ws sv = V at *
  generalize er ws sv = E at *
  clear h hk hl
  go_enter Try.func25, Try.ntmps25
  go_wp2_with fail
  go_region_held3 (fun w' => w'.cell? ⟨l, 0, none⟩ = some (.pointer (some ⟨x, 0, none⟩)) ∧ w'.cell? ⟨l, 2, none⟩ = some (.int .i64 (sv : Nat))) (first | exact ⟨c0, c1⟩ | exact ⟨k0, k1⟩) ((go_at_call 43; refine HC.out.mono ?_; rintro e w3 ⟨rfl, t3⟩; have k0 := (Hk.out w3 t3).c0; have k1 := (Hk.out w3 t3).c2))
  rename_i hHeld
  clear hHeld
  go_wp2
  go_ret
  exact ⟨rfl, t3⟩
/-- is the ticket served? -/
def srv (ws : List Int) (sv : Nat) (t : Int) : Bool := good ws sv && decide (std ws sv = t)
set_option maxRecDepth 100000 in
set_option maxHeartbeats 1000000 in
theorem serves_any (t : Int) (h : Mem D B x ws tr bad w) (hk : Lk l x nx sv w) (hl : tr.length < 1999999999999) :
    Calls Try.prog 28 #[.pointer (some ⟨l, 0, none⟩), .int .i64 t] w fun e w' => e = .returned (.bool (srv ws sv t)) ∧ To D B x ws (tr ++ [⟨1, sv, std ws sv, 0, good ws sv⟩]) (bad + bd ws sv) w w' := by
  have c0 := hk.c0
  have c1 := hk.c2
  have HC : Hid (Calls Try.prog 46 #[.pointer (some ⟨x, 0, none⟩), .int .i64 (sv : Nat)] w.drew fun e w' => e = .returned (.tuple #[.int .i64 (std ws sv), .int .i64 (er ws sv)]) ∧ To D B x ws (tr ++ [⟨1, sv, std ws sv, 0, good ws sv⟩]) (bad + bd ws sv) w w') := hide' ((load_any (sv : Int) h.drew hl).mono fun e w' ⟨he, ht⟩ => ⟨he, To.drew ht⟩)
  have Hk : Hid (∀ w', To D B x ws (tr ++ [⟨1, sv, std ws sv, 0, good ws sv⟩]) (bad + bd ws sv) w w' → Lk l x nx sv w') := hide' (fun w' t => To.lk t h hk)
  unfold srv
  generalize tr ++ [(⟨1, sv, std ws sv, 0, good ws sv⟩ : Ac)] = tr1 at *
  generalize bad + bd ws sv = bad1 at *
  unfold good
  generalize std ws sv = V at *
  generalize er ws sv = E at *
  clear h hk hl
  by_cases hE : E = 0
  · subst hE
    by_cases hV : V = t
    · subst hV
      have d1 : (decide ((0 : Int) = 0) && decide (V = V)) = true := by simp
      rw [d1]
      clear d1
      go_enter Try.func28, Try.ntmps28
      go_wp2_with fail
      go_region_held3 (fun w' => w'.cell? ⟨l, 0, none⟩ = some (.pointer (some ⟨x, 0, none⟩)) ∧ w'.cell? ⟨l, 2, none⟩ = some (.int .i64 (sv : Nat))) (first | exact ⟨c0, c1⟩ | exact ⟨k0, k1⟩) ((go_at_call 46; refine HC.out.mono ?_; rintro e w3 ⟨rfl, t3⟩; have k0 := (Hk.out w3 t3).c0; have k1 := (Hk.out w3 t3).c2))
      rename_i hHeld
      clear hHeld
      go_wp2
      go_ret
      exact ⟨rfl, t3⟩
    · have d2 : (V == t) = false := by simpa using hV
      have d1 : (decide ((0 : Int) = 0) && decide (V = t)) = false := by simp [hV]
      rw [d1]
      clear d1
      go_enter Try.func28, Try.ntmps28
      go_wp2_with fail
      go_region_held3 (fun w' => w'.cell? ⟨l, 0, none⟩ = some (.pointer (some ⟨x, 0, none⟩)) ∧ w'.cell? ⟨l, 2, none⟩ = some (.int .i64 (sv : Nat))) (first | exact ⟨c0, c1⟩ | exact ⟨k0, k1⟩) ((go_at_call 46; refine HC.out.mono ?_; rintro e w3 ⟨rfl, t3⟩; have k0 := (Hk.out w3 t3).c0; have k1 := (Hk.out w3 t3).c2))
      rename_i hHeld
      clear hHeld
      go_wp2
      go_ret
      exact ⟨rfl, t3⟩
  · have d2 : (E == 0) = false := by simpa using hE
    have d1 : (decide (E = 0) && decide (V = t)) = false := by simp [hE]
    rw [d1]
    clear d1
    go_enter Try.func28, Try.ntmps28
    go_wp2_with fail
    go_region_held3 (fun w' => w'.cell? ⟨l, 0, none⟩ = some (.pointer (some ⟨x, 0, none⟩)) ∧ w'.cell? ⟨l, 2, none⟩ = some (.int .i64 (sv : Nat))) (first | exact ⟨c0, c1⟩ | exact ⟨k0, k1⟩) ((go_at_call 46; refine HC.out.mono ?_; rintro e w3 ⟨rfl, t3⟩; have k0 := (Hk.out w3 t3).c0; have k1 := (Hk.out w3 t3).c2))
    rename_i hHeld
    clear hHeld
    go_wp2
    go_ret
    exact ⟨rfl, t3⟩
theorem piece_1k {ws : List Int} {k : Nat} (h : k < ws.length) : piece ws k 1 = [ws.getD k 0] ∧ pe ws k 1 = 0 := by
  have hw : Wi ws k 1 := by unfold Wi; omega
  refine ⟨?_, if_pos hw⟩
  unfold piece
  rw [if_pos hw, Int.toNat_natCast]
  have := drop_take_succ ws k 0 (by omega)
  simpa using this
set_option maxRecDepth 100000 in
set_option maxHeartbeats 1000000 in
theorem shows_any (t : Int) (h : Mem D B x ws tr bad w) (hk : Lk l x nx sv w) (hs : sv < ws.length) :
    Calls Try.prog 42 #[.pointer (some ⟨l, 0, none⟩), .int .i64 t] w fun e w' => e = .returned (.bool (decide (ws.getD sv 0 = t))) ∧ Below w.heap.size w w' := by
  have c0 := hk.c0
  have c1 := hk.c2
  obtain ⟨p1, p2⟩ := piece_1k hs
  have HC : Hid (Calls Try.prog 56 #[.pointer (some ⟨x, 0, none⟩), .int .i64 (sv : Nat), .int .i64 1] w.drew fun e w' => ∃ g rc, e = .returned (.tuple #[.slice (some ⟨g, 0, none⟩) 1 rc, .int .i64 0]) ∧ w'.cell? ⟨g, 0, none⟩ = some (.int .i64 (ws.getD sv 0)) ∧ Below w.heap.size w w') := hide' ((words_any (sv : Int) 1 h.drew (by omega)).mono fun e w' ⟨ro, rc, he, hr, hb⟩ => by
    rw [p1, p2] at he
    rw [p1] at hr
    obtain ⟨g, cap', hv, _, _⟩ := hr.form (by simp)
    simp only [Value.slice.injEq] at hv
    obtain ⟨rfl, _, rfl⟩ := hv
    refine ⟨g, rc, he, ?_, ⟨hb.os, hb.tape, hb.output, hb.size, hb.block⟩⟩
    have := row_cell hr 0 _ rfl
    simpa [Addr.add] using this)
  have Hk : Hid (∀ w', Below w.heap.size w w' → Lk l x nx sv w') := hide' (fun w' t => hk.below t)
  clear p1 p2 h hk hs
  generalize ws.getD sv 0 = V at *
  by_cases hV : V = t
  · subst hV
    rw [show decide (V = V) = true by simp]
    go_enter Try.func42, Try.ntmps42
    go_wp2_with fail
    go_region_held3 (fun w' => w'.cell? ⟨l, 0, none⟩ = some (.pointer (some ⟨x, 0, none⟩)) ∧ w'.cell? ⟨l, 2, none⟩ = some (.int .i64 (sv : Nat))) (first | exact ⟨c0, c1⟩ | exact ⟨k0, k1⟩) ((go_at_call 56; refine HC.out.mono ?_; rintro e w3 ⟨g, rc, rfl, cg, t3⟩; have k0 := (Hk.out w3 t3).c0; have k1 := (Hk.out w3 t3).c2))
    rename_i hHeld
    clear hHeld
    go_wp2
    go_ret
    exact ⟨rfl, t3⟩
  · have d2 : (V == t) = false := by simpa using hV
    rw [show decide (V = t) = false by simpa using hV]
    go_enter Try.func42, Try.ntmps42
    go_wp2_with fail
    go_region_held3 (fun w' => w'.cell? ⟨l, 0, none⟩ = some (.pointer (some ⟨x, 0, none⟩)) ∧ w'.cell? ⟨l, 2, none⟩ = some (.int .i64 (sv : Nat))) (first | exact ⟨c0, c1⟩ | exact ⟨k0, k1⟩) ((go_at_call 56; refine HC.out.mono ?_; rintro e w3 ⟨g, rc, rfl, cg, t3⟩; have k0 := (Hk.out w3 t3).c0; have k1 := (Hk.out w3 t3).c2))
    rename_i hHeld
    clear hHeld
    go_wp2
    go_ret
    exact ⟨rfl, t3⟩
end M
end Go.Proofs.Ytnpdmeeolcjmlaa
