import Derived.Test.YtkipcdjadmocaaaSetB
import Derived.Test.YtkipcdjadmocaaaChgP
set_option linter.unusedVariables false
set_option linter.unusedSimpArgs false
namespace Go.Proofs.Ytkipcdjadmocaaa
open Go.RowKit
/-- what the three closures compute -/
def opJoin (a b : Nat) : Nat := a ||| b
def opMeet (a b : Nat) : Nat := a &&& b
def opLess (a b : Nat) : Nat := a &&& (18446744073709551615 - b)
set_option maxHeartbeats 1000000 in
theorem join1 (a b : Nat) (w : World) (ha : a < 18446744073709551616) (hb : b < 18446744073709551616) : Calls Try.prog 56 #[.int .u64 (a : Int), .int .u64 (b : Int)] w fun e w' => e = .returned (.int .u64 (opJoin a b : Nat)) ∧ w' = w := by
  have h := or_u64 a b ha hb
  go_enter Try.func56, Try.ntmps56
  go_wp2
  go_ret
  exact ⟨rfl, rfl⟩
set_option maxHeartbeats 1000000 in
theorem meet1 (a b : Nat) (w : World) (ha : a < 18446744073709551616) (hb : b < 18446744073709551616) : Calls Try.prog 57 #[.int .u64 (a : Int), .int .u64 (b : Int)] w fun e w' => e = .returned (.int .u64 (opMeet a b : Nat)) ∧ w' = w := by
  have h := and_mask a b ha hb
  go_enter Try.func57, Try.ntmps57
  go_wp2
  go_ret
  exact ⟨rfl, rfl⟩
set_option maxHeartbeats 1000000 in
theorem less1 (a b : Nat) (w : World) (ha : a < 18446744073709551616) (hb : b < 18446744073709551616) : Calls Try.prog 58 #[.int .u64 (a : Int), .int .u64 (b : Int)] w fun e w' => e = .returned (.int .u64 (opLess a b : Nat)) ∧ w' = w := by
  have h := andNot_u64 a b ha hb
  have Hh := hide' h
  clear h
  go_enter Try.func58, Try.ntmps58
  go_wp2
  go_ret
  exact ⟨ret_int Hh.out, rfl⟩
theorem shl_all (d : Nat) (h : 64 ≤ d) : IntKind.u64.wrap (1 * 2 ^ min d 64) = 0 := by
  rw [Nat.min_eq_right h]; rfl
theorem pow_less (d : Nat) (h : d < 64) : IntKind.u64.wrap (IntKind.u64.wrap (2 ^ d) - 1) = ((2 ^ d - 1 : Nat) : Int) := by
  rw [wrap_pow d h]
  have hp : (2 : Nat) ^ d < 2 ^ 64 := Nat.pow_lt_pow_right (by omega) h
  have hp1 : 1 ≤ (2 : Nat) ^ d := Nat.one_le_two_pow
  rw [IntKind.wrap_u64]
  generalize (2 : Nat) ^ d = q at *
  omega
theorem shl_big (y : Int) (h : 64 ≤ y) : Op.shift .shl .u64 1 .i64 y = pure (.int .u64 0) := by
  rw [shift_shl_any _ _ _ _ (by omega)]
  rw [show min y.toNat IntKind.u64.bits = 64 by simp [IntKind.bits]; omega]
  rfl
set_option maxRecDepth 100000 in
set_option maxHeartbeats 1000000 in
theorem reached_any (x room m : Nat) (w : World) (c0 : w.cell? ⟨x, 0, none⟩ = some (.int .i64 (room : Nat))) (hr : room ≤ 65536) (hm : m ≤ 1024) : Calls Try.prog 66 #[.pointer (some ⟨x, 0, none⟩), .int .i64 (m : Nat)] w fun e w' => e = .returned (.int .u64 (B.wd (B.rch room) m : Nat)) ∧ w' = w := by
  rcases Nat.lt_or_ge (64 * m) room with h | h
  · rcases Nat.lt_or_ge room (64 * m + 64) with h2 | h2
    · have e1 : ¬ ((room : Int) - (m : Int) * 64 < 0) := by omega
      have e2 : (room : Int) - (m : Int) * 64 ≤ 64 := by omega
      have hv := B.rch_some room m h h2
      have Hp := hide' (pow_less (room - m * 64) (by omega))
      rw [show room - 64 * m = room - m * 64 by omega] at hv
      rw [hv]
      clear hv
      go_enter Try.func66, Try.ntmps66
      go_wp2
      go_ret
      exact ⟨ret_int Hp.out, rfl⟩
    · have e1 : ¬ ((room : Int) - (m : Int) * 64 < 0) := by omega
      have hv := B.rch_all room m h2
      have hsh := shl_big ((room : Int) - (m : Int) * 64) (by omega)
      have hwr : IntKind.u64.wrap (-1) = 18446744073709551615 := by rfl
      rw [hv]
      clear hv
      go_enter Try.func66, Try.ntmps66
      go_wp2
      go_ret
      exact ⟨rfl, rfl⟩
  · have hv := B.rch_none room m h
    rw [hv]
    clear hv
    rcases Nat.lt_or_ge room (64 * m) with h2 | h2
    · have e1 : (room : Int) - (m : Int) * 64 < 0 := by omega
      go_enter Try.func66, Try.ntmps66
      go_wp2
      go_ret
      exact ⟨rfl, rfl⟩
    · have hq : (room : Int) - (m : Int) * 64 = 0 := by omega
      go_enter Try.func66, Try.ntmps66
      go_wp2
      go_ret
      exact ⟨rfl, rfl⟩
end Go.Proofs.Ytkipcdjadmocaaa
