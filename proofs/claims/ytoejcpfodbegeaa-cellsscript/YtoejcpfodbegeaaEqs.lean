import Derived.Test.YtoejcpfodbegeaaWinP
set_option linter.unusedVariables false
set_option linter.unusedSimpArgs false
namespace Go.Proofs.Ytoejcpfodbegeaa
open Go.RowKit
namespace M
theorem wrap_in' (k : Nat) (h : k < 1000000) : wrap64 ((k : Int) + 1) = (k : Int) + 1 := by unfold wrap64; omega
theorem Ints.drewN {w : World} {a : Option Addr} {ns : List Int} (h : Ints w a ns) (n : Nat) : Ints (w.drewN n) a ns := h
set_option maxRecDepth 100000 in
set_option maxHeartbeats 1000000 in
theorem ints_eq (zs : List Int) (a1 a2 : Option Addr) (c1 c2 : Nat) (w : World) (h1 : Ints w a1 zs) (h2 : Ints w a2 zs) (hl : zs.length < 1000000) : Calls Try.prog 23 #[.slice a1 zs.length c1, .slice a2 zs.length c2] w fun e w' => e = .returned (.bool true) ∧ ∃ n, w' = w.drewN n := by
  have H1 := hide' h1
  have H2 := hide' h2
  have HL := hide' hl
  clear h1 h2 hl
  go_enter Try.func23, Try.ntmps23
  go_wp2_with fail
  go_loopw [5] (fun i wx => ∃ (k n : Nat), k ≤ zs.length ∧ i = .int .i64 (k : Int) ∧ wx = w.drewN n) (fun i _ => zs.length - (intOf i).toNat)
  case atStart => exact ⟨0, 0, by omega, rfl, rfl⟩
  case round =>
    obtain ⟨k, n, hk, rfl, rfl⟩ := hrel
    by_cases hlt : k < zs.length
    · rcases H1.out with hI | ⟨b, off, rfl, hb, hc⟩
      · rw [hI] at hlt; simp at hlt
      rcases H2.out with hI | ⟨b2, off2, rfl, hb2, hc2⟩
      · rw [hI] at hlt; simp at hlt
      have cw := hc k hlt
      have cw2 := hc2 k hlt
      have Hwk := hide' (show wrap64 ((k : Int) + 1) = (k : Int) + 1 from wrap_in' k (Nat.lt_trans hlt HL.out))
      generalize zs.getD k 0 = z at *
      clear hc hc2
      go_wp2_with fail
      go_quiet (fail)
      go_wp2
      exact ⟨⟨k + 1, n + nq, by omega, by rw [Hwk.out]; go_num, rfl⟩, msr' hlt _ Hwk.out⟩
    · obtain rfl : k = zs.length := by omega
      go_wp2
      go_ret
      exact ⟨rfl, n, rfl⟩
end M
end Go.Proofs.Ytoejcpfodbegeaa
