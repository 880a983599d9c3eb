import Derived.Test.YtihdagehenmolaaDk
set_option linter.unusedVariables false
set_option linter.unusedSimpArgs false
namespace Go.Proofs.Ytihdagehenmolaa
open Go.RowKit
namespace K
open M
variable {B b s cap : Nat} {room : Int} {l : List UInt8} {ao : Option Addr} {w w' : World}
theorem below_drew2 (w : World) (n m : Nat) : Below w.heap.size w ((w.drewN n).drewN m) := ⟨rfl, rfl, rfl, Nat.le_refl _, fun _ _ => rfl⟩
theorem sum_is {s R : Nat} {k : Int} (h : (s : Int) + k = (R : Int)) (hR : R ≤ 1048576) : wrap64 ((s : Int) + k) = (R : Int) := by rw [h]; unfold wrap64; omega
set_option maxRecDepth 100000 in
set_option maxHeartbeats 1000000 in
theorem cut_neg (q : Dk B b room l s ao cap w) {k : Int} (hk : k < 0) : Calls Try.prog 29 #[.pointer (some ⟨b, 0, none⟩), .int .i64 k] w fun e w' => e = .returned (.string (sb (l.take (kp s l.length k)))) ∧ Below w.heap.size w w' := by
  have h1 := q.hs
  have h2 := q.hr
  have h3 := q.hm
  have hcap : l.length ≤ cap := by obtain ⟨_, _, e, h, _⟩ := q.row.form; cases e; exact h
  obtain ⟨R, hR⟩ : ∃ R, R = kp s l.length k := ⟨_, rfl⟩
  have hR1 : R ≤ l.length := by rw [hR]; unfold kp; omega
  have hcv : ∀ n : Nat, (convert 60 9 (.slice ao R cap)).run Try.prog (w.drewN n) = .ok (.string (sb (l.take R))) (w.drewN n) := fun n => conv (q.below (below_drewN w n)).row R cap hR1
  have c1 := q.c1
  have c2 := q.c2
  obtain ⟨m, hm⟩ : ∃ m, m = l.length := ⟨_, rfl⟩
  rw [← hR]
  rw [← hm] at c1 h1 h2 hcap hR1 hR
  have hR2 : R ≤ 1048576 := by omega
  have hsub : wrap64 ((m : Int) - (s : Int)) = (m : Int) - (s : Int) := by unfold wrap64; omega
  have hRs : R = s := by rw [hR]; unfold kp; omega
  have k1 : k < 0 := hk
  have k2 : ¬ ((m : Int) - (s : Int) < 0) := by omega
  have hadd : wrap64 ((s : Int) + 0) = (R : Int) := sum_is (by omega) hR2
  have hadd' : wrap64 ((s : Int)) = (R : Int) := by rw [← hadd, Int.add_zero]
  clear hRs hadd
  have hR0 : (0 : Int) ≤ (R : Int) := by omega
  have hRc : (R : Int) ≤ (cap : Int) := by omega
  obtain ⟨L, hL⟩ : ∃ L, L = sb (l.take R) := ⟨_, rfl⟩
  rw [← hL] at hcv ⊢
  clear q hm h1 h2 h3 hcap hR1 hR hL hR2
  go_enter Try.func29, Try.ntmps29
  go_wp2_with fail
  go_quiet (fail)
  go_wp2_with fail
  go_quiet (fail)
  go_wp2
  go_ret
  exact ⟨rfl, below_drew2 w _ _⟩
set_option maxRecDepth 100000 in
set_option maxHeartbeats 1000000 in
theorem cut_all (q : Dk B b room l s ao cap w) {k : Int} (hk : 0 ≤ k ∧ (l.length : Int) - s < k) : Calls Try.prog 29 #[.pointer (some ⟨b, 0, none⟩), .int .i64 k] w fun e w' => e = .returned (.string (sb (l.take (kp s l.length k)))) ∧ Below w.heap.size w w' := by
  have h1 := q.hs
  have h2 := q.hr
  have h3 := q.hm
  have hcap : l.length ≤ cap := by obtain ⟨_, _, e, h, _⟩ := q.row.form; cases e; exact h
  obtain ⟨R, hR⟩ : ∃ R, R = kp s l.length k := ⟨_, rfl⟩
  have hR1 : R ≤ l.length := by rw [hR]; unfold kp; omega
  have hcv : ∀ n : Nat, (convert 60 9 (.slice ao R cap)).run Try.prog (w.drewN n) = .ok (.string (sb (l.take R))) (w.drewN n) := fun n => conv (q.below (below_drewN w n)).row R cap hR1
  have c1 := q.c1
  have c2 := q.c2
  obtain ⟨m, hm⟩ : ∃ m, m = l.length := ⟨_, rfl⟩
  rw [← hR]
  rw [← hm] at c1 h1 h2 hcap hR1 hR
  have hR2 : R ≤ 1048576 := by omega
  have hsub : wrap64 ((m : Int) - (s : Int)) = (m : Int) - (s : Int) := by unfold wrap64; omega
  have hRs : R = m := by rw [hR]; unfold kp; omega
  have k1 : ¬ (k < 0) := by omega
  have k2 : ((m : Int) - (s : Int) < k) := by omega
  have hadd : wrap64 ((s : Int) + ((m : Int) - (s : Int))) = (R : Int) := sum_is (by omega) hR2
  clear hRs hk
  have hR0 : (0 : Int) ≤ (R : Int) := by omega
  have hRc : (R : Int) ≤ (cap : Int) := by omega
  obtain ⟨L, hL⟩ : ∃ L, L = sb (l.take R) := ⟨_, rfl⟩
  rw [← hL] at hcv ⊢
  clear q hm h1 h2 h3 hcap hR1 hR hL hR2
  go_enter Try.func29, Try.ntmps29
  go_wp2_with fail
  go_quiet (fail)
  go_wp2_with fail
  go_quiet (fail)
  go_wp2
  go_ret
  exact ⟨rfl, below_drew2 w _ _⟩
set_option maxRecDepth 100000 in
set_option maxHeartbeats 1000000 in
theorem cut_some (q : Dk B b room l s ao cap w) {k : Int} (hk : 0 ≤ k ∧ k ≤ (l.length : Int) - s) : Calls Try.prog 29 #[.pointer (some ⟨b, 0, none⟩), .int .i64 k] w fun e w' => e = .returned (.string (sb (l.take (kp s l.length k)))) ∧ Below w.heap.size w w' := by
  have h1 := q.hs
  have h2 := q.hr
  have h3 := q.hm
  have hcap : l.length ≤ cap := by obtain ⟨_, _, e, h, _⟩ := q.row.form; cases e; exact h
  obtain ⟨R, hR⟩ : ∃ R, R = kp s l.length k := ⟨_, rfl⟩
  have hR1 : R ≤ l.length := by rw [hR]; unfold kp; omega
  have hcv : ∀ n : Nat, (convert 60 9 (.slice ao R cap)).run Try.prog (w.drewN n) = .ok (.string (sb (l.take R))) (w.drewN n) := fun n => conv (q.below (below_drewN w n)).row R cap hR1
  have c1 := q.c1
  have c2 := q.c2
  obtain ⟨m, hm⟩ : ∃ m, m = l.length := ⟨_, rfl⟩
  rw [← hR]
  rw [← hm] at c1 h1 h2 hcap hR1 hR
  have hR2 : R ≤ 1048576 := by omega
  have hsub : wrap64 ((m : Int) - (s : Int)) = (m : Int) - (s : Int) := by unfold wrap64; omega
  have hRs : (R : Int) = s + k := by rw [hR]; unfold kp; omega
  have k1 : ¬ (k < 0) := by omega
  have k2 : ¬ ((m : Int) - (s : Int) < k) := by omega
  have hadd : wrap64 ((s : Int) + k) = (R : Int) := sum_is (by omega) hR2
  clear hRs hk
  have hR0 : (0 : Int) ≤ (R : Int) := by omega
  have hRc : (R : Int) ≤ (cap : Int) := by omega
  obtain ⟨L, hL⟩ : ∃ L, L = sb (l.take R) := ⟨_, rfl⟩
  rw [← hL] at hcv ⊢
  clear q hm h1 h2 h3 hcap hR1 hR hL hR2
  go_enter Try.func29, Try.ntmps29
  go_wp2_with fail
  go_quiet (fail)
  go_wp2_with fail
  go_quiet (fail)
  go_wp2
  go_ret
  exact ⟨rfl, below_drew2 w _ _⟩
theorem cut_any (q : Dk B b room l s ao cap w) (k : Int) : Calls Try.prog 29 #[.pointer (some ⟨b, 0, none⟩), .int .i64 k] w fun e w' => e = .returned (.string (sb (l.take (kp s l.length k)))) ∧ Below w.heap.size w w' := by
  by_cases h1 : k < 0
  · exact cut_neg q h1
  · by_cases h2 : (l.length : Int) - s < k
    · exact cut_all q ⟨by omega, h2⟩
    · exact cut_some q ⟨by omega, by omega⟩
end K
end Go.Proofs.Ytihdagehenmolaa
