import Derived.Test.YtihdagehenmolaaRea
set_option linter.unusedVariables false
set_option linter.unusedSimpArgs false
namespace Go.Proofs.Ytihdagehenmolaa
open Go.RowKit
namespace J
open M K
def E0 : En := ⟨258, [49, 50, 51, 52, 53, 54, 55, 56, 57]⟩
theorem E0_ok : E0.ok := ⟨by decide, by decide, by decide⟩
theorem E0_rcd : rcd E0 = [165, 2, 1, 0, 0, 9, 0, 0, 0] ++ ((rcd E0).drop 9).take 4 ++ [49, 50, 51, 52, 53, 54, 55, 56, 57, 38, 57, 244, 203] := by decide +kernel
/-- the cells of a list of entries -/
theorem es_cell {B : Nat} {ao : Option Addr} {cap : Nat} {es : List En} {w : World} (h : Es B ao cap es w) {k : Nat} {e : En} (hk : es[k]? = some e) : ∃ b, ao = some ⟨b, 0, none⟩ ∧ w.cell? ⟨b, k * 2, none⟩ = some (.int .i64 e.v) ∧ w.cell? ⟨b, k * 2 + 1, none⟩ = some (.string (sb e.t)) := by
  rcases h.row.2 with ⟨hv, h0⟩ | ⟨g, cap', cur, hv, hb, hg, rest⟩
  · have := (List.getElem?_eq_some_iff.1 hk).1; omega
  · simp only [Value.slice.injEq] at hv
    obtain ⟨rfl, _, _⟩ := hv
    have hj := (List.getElem?_eq_some_iff.1 hk).1
    refine ⟨g, rfl, ?_, ?_⟩
    · have := h.row.cellAt (g := g) (k * 2 + 0) (by omega)
      rw [flat_at ha_e es k 0 e (by decide) hk] at this
      exact this
    · have := h.row.cellAt (g := g) (k * 2 + 1) (by omega)
      rw [flat_at ha_e es k 1 e (by decide) hk] at this
      exact this
set_option maxRecDepth 100000 in
set_option maxHeartbeats 1000000 in
theorem alive_any (w : World) : Calls Try.prog 11 #[] w fun e w' => e = .returned (.bool true) ∧ Below w.heap.size w w' := by
  have C1 : Hid (Calls Try.prog 13 #[.agg #[.int .i64 258, .string ⟨#[49, 50, 51, 52, 53, 54, 55, 56, 57]⟩]] w _) := hide' (frame_ok E0 E0_ok w)
  have C2 : Hid (∀ w1, Calls Try.prog 15 #[.string (sb (rcd E0) ++ ⟨#[120]⟩)] w1 fun e w' => ∃ b cap, e = .returned (.tuple #[.slice (some ⟨b, 0, none⟩) 1 cap, .int .i64 26]) ∧ w'.cell? ⟨b, 0, none⟩ = some (.int .i64 258) ∧ w'.cell? ⟨b, 1, none⟩ = some (.string ⟨#[49, 50, 51, 52, 53, 54, 55, 56, 57]⟩) ∧ Below w1.heap.size w1 w') := hide' (fun w1 => by
    have e1 : sb (rcd E0) ++ ⟨#[120]⟩ = sb (rcd E0 ++ [120]) := sb_add (rcd E0) [120]
    rw [e1]
    refine (read_any (rcd E0 ++ [120]) (by rw [List.length_append, rec_len]; decide) w1).mono ?_
    rintro e w' ⟨es, ao, cap, rfl, hr, ho, hb⟩
    have hes : es = [E0] := hr.uniq ((Rds.none (bare_short (by decide))).more E0 E0_ok)
    subst hes
    obtain ⟨b, rfl, h1, h2⟩ := es_cell ho (k := 0) (e := E0) rfl
    refine ⟨b, cap, ?_, h1, h2, hb⟩
    rw [recs_one, rec_len]
    rfl)
  have s1 : (sb (rcd E0)).size = 26 := by rw [sb_size, rec_len]; rfl
  have s2 : (sb (rcd E0)).extract 0 9 = ⟨#[165, 2, 1, 0, 0, 9, 0, 0, 0]⟩ := by rw [sb_cut, E0_rcd]; rfl
  have s3 : (sb (rcd E0)).extract 13 26 = ⟨#[49, 50, 51, 52, 53, 54, 55, 56, 57, 38, 57, 244, 203]⟩ := by
    rw [sb_cut, show (rcd E0).drop 13 = [49, 50, 51, 52, 53, 54, 55, 56, 57, 38, 57, 244, 203] by decide +kernel]; rfl
  generalize sb (rcd E0) = S at *
  go_enter Try.func11, Try.ntmps11
  go_wp2_with fail
  refine C1.out.mono ?_
  rintro e w1 ⟨rfl, b1⟩
  have B1 := hide' b1
  have C3 := hide' (C2.out w1)
  clear b1 C1 C2
  go_wp2_with fail
  refine C3.out.mono ?_
  rintro e w2 ⟨b, cap, rfl, c0, c1, b2⟩
  have B2 := hide' (B1.out.trans (b2.mono B1.out.size))
  clear b2 C3
  go_wp2
  go_ret
  exact ⟨rfl, B2.out⟩
set_option maxRecDepth 100000 in
set_option maxHeartbeats 1000000 in
theorem names_any (w : World) : Calls Try.prog 3 #[] w fun e w' => e = .returned (.bool true) ∧ Below w.heap.size w w' := by
  have C1 := hide' (alive_any w)
  go_enter Try.func3, Try.ntmps3
  go_wp2_with fail
  refine C1.out.mono ?_
  rintro e w1 ⟨rfl, b1⟩
  have B1 := hide' b1
  clear b1 C1
  go_wp2
  go_ret
  exact ⟨rfl, B1.out⟩
end J
end Go.Proofs.Ytihdagehenmolaa
