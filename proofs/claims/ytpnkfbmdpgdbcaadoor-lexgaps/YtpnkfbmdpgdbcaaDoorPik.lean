import Derived.Test.YtpnkfbmdpgdbcaaDoorLeaf
set_option linter.unusedVariables false
set_option linter.unusedSimpArgs false
namespace Go.Proofs.YtpnkfbmdpgdbcaaDoor
open Go.RowKit
/-- a number from 0 to n - 1 out of any -/
def pik (k n : Int) : Int := if k.tmod n < 0 then k.tmod n + n else k.tmod n
theorem tmod_bd (k n : Int) (h : 0 < n) : -n < k.tmod n ∧ k.tmod n < n := by
  refine ⟨?_, Int.tmod_lt_of_pos k h⟩
  have h1 := Int.natAbs_tmod k n
  have h2 : k.natAbs % n.natAbs < n.natAbs := Nat.mod_lt _ (by omega)
  omega
theorem pik_bd (k n : Int) (h : 0 < n) : 0 ≤ pik k n ∧ pik k n < n := by
  have := tmod_bd k n h
  unfold pik
  split <;> omega
set_option maxHeartbeats 1000000 in
set_option maxRecDepth 100000 in
theorem pick_any (k n : Int) (w : World) (hk : -9223372036854775808 ≤ k ∧ k ≤ 9223372036854775807) (hn : 0 < n ∧ n ≤ 562949953421312) :
    Calls Tryd.prog 10 #[.int .i64 k, .int .i64 n] w fun e w' => e = .returned (.int .i64 (pik k n)) ∧ w' = w := by
  have hb := tmod_bd k n hn.1
  have h0 : ¬ n = 0 := by omega
  have hwr : IntKind.i64.wrap (k.tmod n) = k.tmod n := by rw [IntKind.wrap_i64]; omega
  unfold pik
  by_cases hlt : k.tmod n < 0
  · rw [if_pos hlt]
    have e1 : decide (k.tmod n < 0) = true := by simpa using hlt
    go_enter Tryd.func10, Tryd.ntmps10
    go_wp2
    all_goals go_ret
    all_goals exact ⟨rfl, rfl⟩
  · rw [if_neg hlt]
    have e1 : decide (k.tmod n < 0) = false := by simpa using hlt
    go_enter Tryd.func10, Tryd.ntmps10
    go_wp2
    all_goals go_ret
    all_goals exact ⟨rfl, rfl⟩
end Go.Proofs.YtpnkfbmdpgdbcaaDoor
