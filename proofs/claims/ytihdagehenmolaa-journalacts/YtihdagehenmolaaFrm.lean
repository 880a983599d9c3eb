import Derived.Test.YtihdagehenmolaaFra
set_option linter.unusedVariables false
set_option linter.unusedSimpArgs false
namespace Go.Proofs.Ytihdagehenmolaa
open Go.RowKit
namespace J
open M K
/-- what Frame answers -/
def frc (e : En) : Int := if 1 ≤ e.v ∧ e.v ≤ 2147483647 then (if e.t.length ≤ 65536 then 0 else 5) else 3
def frs (e : En) : List UInt8 := if frc e = 0 then rcd e else []
theorem frc_ok {e : En} (h : e.ok) : frc e = 0 := by unfold frc; rw [if_pos ⟨h.1, h.2.1⟩, if_pos h.2.2]
theorem frs_ok {e : En} (h : e.ok) : frs e = rcd e := by unfold frs; rw [if_pos (frc_ok h)]
theorem ok_frc {e : En} (h : frc e = 0) : e.ok := by
  unfold frc at h
  by_cases h1 : 1 ≤ e.v ∧ e.v ≤ 2147483647
  · rw [if_pos h1] at h
    by_cases h2 : e.t.length ≤ 65536
    · exact ⟨h1.1, h1.2, h2⟩
    · rw [if_neg h2] at h; cases h
  · rw [if_neg h1] at h; cases h
theorem frs_no {e : En} (h : ¬ frc e = 0) : frs e = [] := by unfold frs; rw [if_neg h]
theorem below_al (w : World) (o : Obj) : Below w.heap.size w (w.alloc o) := (Below.refl _ _).alloc (Nat.le_refl _) _
set_option maxRecDepth 100000 in
set_option maxHeartbeats 1000000 in
theorem frame_ok (e : En) (h : e.ok) (w : World) : Calls Try.prog 13 #[.agg #[.int .i64 e.v, .string (sb e.t)]] w fun r w' => r = .returned (.tuple #[.string (sb (rcd e)), .int .i64 0]) ∧ Below w.heap.size w w' := by
  obtain ⟨v, t⟩ := e
  obtain ⟨h1, h2, h3⟩ := h
  simp only at h1 h2 h3 ⊢
  obtain ⟨V, rfl⟩ := Int.eq_ofNat_of_zero_le (show 0 ≤ v by omega)
  have g1 : ¬ ((V : Int) < 1) := by omega
  have g2 : ¬ (2147483647 < (V : Int)) := by omega
  have g3 : ¬ (65536 < ((t.length : Nat) : Int)) := by omega
  have C1 := hide' (recordOf_any V t (w.alloc (.cells #[.int .i64 (V : Int), .string (sb t)] 24)) (by omega) h3)
  have z := sb_size t
  obtain ⟨T, hT⟩ : ∃ T, T = sb t := ⟨_, rfl⟩
  obtain ⟨R, hR⟩ : ∃ R, R = rcd ⟨(V : Int), t⟩ := ⟨_, rfl⟩
  obtain ⟨n, hn⟩ : ∃ n, n = t.length := ⟨_, rfl⟩
  rw [← hT] at C1 z ⊢
  rw [← hR] at C1 ⊢
  rw [← hn] at g3 z
  clear h1 h2 h3 hT hR hn
  go_enter Try.func13, Try.ntmps13
  go_wp2_with fail
  refine C1.out.mono ?_
  rintro e w1 ⟨ao, cap, rfl, o1, b1⟩
  have hc := conv o1 R.length cap (Nat.le_refl _)
  rw [List.take_length] at hc
  have B1 := hide' ((below_al w _).trans (b1.mono (by simp)))
  clear o1 b1 C1
  go_wp2
  go_ret2
  exact ⟨rfl, B1.out⟩
set_option maxRecDepth 100000 in
set_option maxHeartbeats 1000000 in
theorem frame_range (e : En) (h : ¬ (1 ≤ e.v ∧ e.v ≤ 2147483647)) (w : World) : Calls Try.prog 13 #[.agg #[.int .i64 e.v, .string (sb e.t)]] w fun r w' => r = .returned (.tuple #[.string ⟨#[]⟩, .int .i64 3]) ∧ Below w.heap.size w w' := by
  obtain ⟨v, t⟩ := e
  simp only at h ⊢
  generalize sb t = T
  by_cases h1 : v < 1
  · clear h
    go_enter Try.func13, Try.ntmps13
    go_wp2
    go_ret2
    exact ⟨rfl, below_al w _⟩
  · have h2 : 2147483647 < v := by omega
    clear h
    go_enter Try.func13, Try.ntmps13
    go_wp2
    go_ret2
    exact ⟨rfl, below_al w _⟩
set_option maxRecDepth 100000 in
set_option maxHeartbeats 1000000 in
theorem frame_long (e : En) (h : 1 ≤ e.v ∧ e.v ≤ 2147483647) (h3 : 65536 < e.t.length) (w : World) : Calls Try.prog 13 #[.agg #[.int .i64 e.v, .string (sb e.t)]] w fun r w' => r = .returned (.tuple #[.string ⟨#[]⟩, .int .i64 5]) ∧ Below w.heap.size w w' := by
  obtain ⟨v, t⟩ := e
  simp only at h h3 ⊢
  have z := sb_size t
  generalize sb t = T at *
  obtain ⟨n, hn⟩ : ∃ n, n = t.length := ⟨_, rfl⟩
  rw [← hn] at z h3
  have g1 : ¬ (v < 1) := by omega
  have g2 : ¬ (2147483647 < v) := by omega
  have g3 : 65536 < (n : Int) := by omega
  clear h h3 hn
  go_enter Try.func13, Try.ntmps13
  go_wp2
  go_ret2
  exact ⟨rfl, below_al w _⟩
theorem frame_any (e : En) (w : World) : Calls Try.prog 13 #[.agg #[.int .i64 e.v, .string (sb e.t)]] w fun r w' => r = .returned (.tuple #[.string (sb (frs e)), .int .i64 (frc e)]) ∧ Below w.heap.size w w' := by
  by_cases h : 1 ≤ e.v ∧ e.v ≤ 2147483647
  · by_cases h3 : e.t.length ≤ 65536
    · have ok : e.ok := ⟨h.1, h.2, h3⟩
      rw [frc_ok ok, frs_ok ok]
      exact frame_ok e ok w
    · have e1 : frc e = 5 := by unfold frc; rw [if_pos h, if_neg h3]
      rw [frs_no (by rw [e1]; decide), e1]
      exact frame_long e h (by omega) w
  · have e1 : frc e = 3 := by unfold frc; rw [if_neg h]
    rw [frs_no (by rw [e1]; decide), e1]
    exact frame_range e h w
end J
end Go.Proofs.Ytihdagehenmolaa
