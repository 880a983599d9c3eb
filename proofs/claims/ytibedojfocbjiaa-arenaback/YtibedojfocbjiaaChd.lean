import Derived.Test.YtibedojfocbjiaaHl2
import Derived.Test.YtibedojfocbjiaaSumP
import Derived.Deep.QuietTactic
set_option linter.unusedVariables false
set_option linter.unusedSimpArgs false
namespace Go.Proofs.Ytibedojfocbjiaa
open Go.RowKit Go.Sort
namespace Ar
open Fr
variable {B : Nat} {w w' : World}
theorem row_ints {ro : Option Addr} {rc : Nat} {ns : List Int} (h : w.ownsRow B 3 1 (.slice ro ns.length rc) ns.length (M.ivs ns)) : M.Ints w ro ns := by
  by_cases h0 : ns = []
  · exact .inl h0
  · have hp : 0 < ns.length := List.length_pos_iff.2 h0
    obtain ⟨g, cap', hv, h2, h3⟩ := h.form hp
    simp only [Value.slice.injEq] at hv
    obtain ⟨rfl, _, rfl⟩ := hv
    refine .inr ⟨g, 0, rfl, h3, fun j hj => ?_⟩
    rw [Nat.zero_add, h.cellAt j (by omega)]
    simp [M.ivs, List.getD, hj]
theorem bel_drewN {B : Nat} {w w' : World} (b : RowKit.Below B w w') (n : Nat) : RowKit.Below B w (w'.drewN n) := ⟨b.os, b.tape, b.output, b.size, b.block⟩
set_option maxRecDepth 100000 in
set_option maxHeartbeats 4000000 in
theorem changed_any (a n c : Int) {ro ro' : Option Addr} {rc rc' : Nat} {ws ns : List Int} (hI : M.Ints w ro ws) (hJ : M.Ints w ro' ns) (hl : ns.length = ws.length) (hl2 : ws.length < 1000000) (e0 : wrap64 (a + n) = a + n)
    (hc : ∀ i, i < ws.length → ns.getD i 0 = if a ≤ (i : Int) ∧ (i : Int) < a + n then c else ws.getD i 0) :
    Calls Try.prog 59 #[.slice ro ws.length rc, .slice ro' ns.length rc', .int .i64 a, .int .i64 n, .int .i64 c] w fun r w' => r = .returned (.bool true) ∧ Below w.heap.size w w' := by
  rw [hl]
  have HI := hide' hI
  have HJ := hide' hJ
  have Hc := hide' hc
  have Hl2 := hide' hl2
  have Hl := hide' hl
  clear hI hJ hc hl2 hl
  go_enter Try.func59, Try.ntmps59
  go_wp2_with fail
  go_loopw [11] (fun t11 wx => ∃ (k : Nat), t11 = .int .i64 (k : Int) ∧ k ≤ ws.length ∧ Below w.heap.size w wx) (fun t11 _ => ws.length - (intOf t11).toNat)
  case atStart => exact ⟨0, rfl, Nat.zero_le _, Below.refl _ _⟩
  case round =>
    obtain ⟨k, rfl, hk, hb⟩ := hrel
    by_cases hlt : k < ws.length
    · have e1 := vk k (by have := Hl2.out; omega)
      have hlt' : (k : Int) < (ws.length : Int) := by omega
      have Hend := hide' (hend hlt)
      have hcc := Hc.out k hlt
      rcases HI.out with q | ⟨g, off, hro, hg, hI⟩
      · rw [q] at hlt; simp at hlt
      rcases HJ.out with q | ⟨g', off', hro', hg', hJ⟩
      · have := Hl.out; rw [q] at this; simp at this; omega
      have i0 := (hb.cell (p := ⟨g, off + k, none⟩) hg).trans (hI k hlt)
      have j0 := (hb.cell (p := ⟨g', off' + k, none⟩) hg').trans (hJ k (by have := Hl.out; omega))
      obtain rfl := hro
      obtain rfl := hro'
      have Hb := hide' hb
      by_cases hin : a ≤ (k : Int) ∧ (k : Int) < a + n
      · rw [if_pos hin] at hcc
        rw [hcc] at j0
        obtain ⟨h1, h2⟩ := hin
        generalize ws.getD k 0 = u at *
        clear hcc hI hJ hg hg' hb hk
        go_wp2_with fail
        go_quiet (fail)
        go_wp2
        go_roundw
        case rel => exact ⟨k + 1, by go_num, hlt, by first | exact Hb.out | exact bel_drewN Hb.out _⟩
        case measure => first | exact Hend.out | (rw [e1]; exact Hend.out)
      · rw [if_neg hin] at hcc
        rw [hcc] at j0
        have hin' : ¬ (a ≤ (k : Int)) ∨ (a ≤ (k : Int) ∧ ¬ ((k : Int) < a + n)) := by omega
        generalize ws.getD k 0 = u at *
        clear hcc hI hJ hg hg' hb hk hin
        rcases hin' with h1 | ⟨h1, h2⟩
        all_goals
          go_wp2_with fail
          go_quiet (fail)
          go_wp2
          go_roundw
          case rel => exact ⟨k + 1, by go_num, hlt, by first | exact Hb.out | exact bel_drewN Hb.out _⟩
          case measure => first | exact Hend.out | (rw [e1]; exact Hend.out)
    · obtain rfl : k = ws.length := by omega
      have Hb := hide' hb
      clear hb hk
      go_wp2
      go_ret
      exact ⟨rfl, Hb.out⟩
end Ar
end Go.Proofs.Ytibedojfocbjiaa
