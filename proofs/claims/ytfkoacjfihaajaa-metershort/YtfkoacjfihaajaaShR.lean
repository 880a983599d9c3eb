import Derived.Test.YtfkoacjfihaajaaNeW
import Derived.Test.YtfkoacjfihaajaaSuP
set_option linter.unusedVariables false
set_option linter.unusedSimpArgs false
namespace Go.Proofs.Ytfkoacjfihaajaa
open Go.RowKit
namespace N
open Fl M
/-- a power of two, in units -/
theorem rep_two {k : Nat} (hk : k ≤ 2045) : Rep (2 ^ k) := by
  have := rep_mk (c := 1) (L := k) (by omega) hk
  rwa [Nat.one_mul] at this
theorem pow_dbl {k Lm : Nat} (h : Fin Lm ((2 ^ k : Nat) : Int)) (hk : k < 2045) : ∃ L', Ieee.double.mul 4611686018427387904 Lm = some L' ∧ Fin L' ((2 ^ (k + 1) : Nat) : Int) := by
  have e1 : ((2 ^ (k + 1) : Nat) : Int) = 2 * ((2 ^ k : Nat) : Int) := by rw [Nat.pow_succ, Int.natCast_mul, Int.mul_comm]; rfl
  have : FO (opO .mul (some 4611686018427387904) (some Lm)) ((2 ^ (k + 1) : Nat) : Int) := by
    refine FO.mul ⟨_, rfl, two_fin⟩ ⟨_, rfl, h⟩ ?_ (by rw [Int.natAbs_natCast]; exact rep_two (by omega))
    rw [e1]
    generalize (Q : Int) = q
    generalize ((2 ^ k : Nat) : Int) = u
    simp only [Int.mul_assoc, Int.mul_left_comm, Int.mul_comm]
  obtain ⟨L', a, b⟩ := this
  exact ⟨L', a, b⟩
theorem one_pow {k : Nat} (hk : k = 1074) : Fin 4607182418800017408 ((2 ^ k : Nat) : Int) := by
  have := one_fin
  rw [Int.one_mul, Q_def hk] at this
  exact this
theorem V_one {k : Nat} (hk : k = 1074) : V 52 4607182418800017408 = 1 * 2 ^ k := by
  obtain ⟨L, hL⟩ : ∃ L : Nat, L = 1022 := ⟨_, rfl⟩
  have h1 : (4607182418800017408 : Nat) = L * 2 ^ 52 + 2 ^ 52 := by rw [hL, d_bin]
  rw [h1, V_mk 52 L (2 ^ 52) (Nat.le_refl _) (by decide), ← Nat.pow_add, Nat.one_mul, show 52 + L = k by omega]
theorem half_pow {j k : Nat} (h : k + j = 1074) (hk : 53 ≤ k) : Fin (hvn j 4607182418800017408) ((2 ^ k : Nat) : Int) := by
  have h1 := hvn_exact (r := 4607182418800017408) (A := 1) (k := k) j (V_one h) hk
  rw [Nat.one_mul] at h1
  have := fin_pos (hvn_lt (r := 4607182418800017408) (by omega) j)
  rw [h1] at this
  exact this
set_option maxRecDepth 100000 in
set_option maxHeartbeats 2000000 in
theorem power_pos (n : Nat) (w : World) (hn : n ≤ 200) : Calls Try.prog 39 #[.int .i64 (n : Nat)] w fun e w' => ∃ P : Nat, e = .returned (.float .f64 P) ∧ Hid (∀ k, k = 1074 + n → Fin P ((2 ^ k : Nat) : Int)) ∧ w' = w := by
  have HN := hide' hn
  clear hn
  have hn0 : ¬ ((n : Int) < 0) := by omega
  go_enter Try.func39, Try.ntmps39
  go_wp2_with fail
  go_loopw [3, 4] (fun x i wx => ∃ j Lm : Nat, x = .float .f64 Lm ∧ i = .int .i64 (j : Int) ∧ j ≤ n ∧ (∀ k, k = 1074 + j → Fin Lm ((2 ^ k : Nat) : Int)) ∧ wx = w) (fun _ i _ => n - (intOf i).toNat)
  case atStart => exact ⟨0, _, rfl, rfl, Nat.zero_le _, fun k hk => one_pow hk, rfl⟩
  case round =>
    obtain ⟨j, Lm, rfl, rfl, hj, hL, rfl⟩ := hrel
    by_cases hlt : j < n
    · have hlt' : (j : Int) < (n : Int) := by omega
      obtain ⟨k0, hk0⟩ : ∃ k, k = 1074 + j := ⟨_, rfl⟩
      obtain ⟨L', e', f'⟩ := pow_dbl (hL k0 hk0) (by have := HN.out; omega)
      have hm := fun w => run_mul e' w
      have HF : Hid (∀ k, k = 1074 + (j + 1) → Fin L' ((2 ^ k : Nat) : Int)) := hide' (fun k hk => by rw [show k = k0 + 1 by omega]; exact f')
      have Hlt := hide' hlt
      have hnb : (n : Int) ≤ 200 := by have := HN.out; omega
      clear hL e' f' hlt hj hk0
      go_wp2
      exact ⟨⟨j + 1, L', rfl, rfl, Hlt.out, HF.out, trivial⟩, msr' Hlt.out _ rfl⟩
    · obtain rfl : j = n := by omega
      have HL := hide' hL
      clear hL hlt hj
      go_wp2_with fail
      go_loopw [3, 5] (fun x i wx => x = .float .f64 Lm ∧ i = .int .i64 0 ∧ wx = wr) (fun _ i _ => 0)
      case atStart => exact ⟨rfl, rfl, rfl⟩
      case round =>
        obtain ⟨rfl, rfl, rfl⟩ := hrel
        go_wp2
        go_ret
        exact ⟨Lm, rfl, hide' HL.out, rfl⟩
set_option maxRecDepth 100000 in
set_option maxHeartbeats 2000000 in
theorem power_neg (n : Nat) (w : World) (hn : n ≤ 200) (h0 : 0 < n) : Calls Try.prog 39 #[.int .i64 (-(n : Int))] w fun e w' => ∃ P : Nat, e = .returned (.float .f64 P) ∧ Hid (∀ k, k + n = 1074 → Fin P ((2 ^ k : Nat) : Int)) ∧ w' = w := by
  have HN := hide' (And.intro hn h0)
  have HR := hide' (fun k => hvn_lt (r := 4607182418800017408) (by omega) k)
  obtain ⟨m, hm⟩ : ∃ m : Int, m = -(n : Int) := ⟨_, rfl⟩
  rw [← hm]
  have Hm := hide' hm
  have hn0 : ¬ ((0 : Int) < m) := by omega
  clear hn h0 hm
  go_enter Try.func39, Try.ntmps39
  go_wp2_with fail
  go_loopw [3, 4] (fun x i wx => x = .float .f64 4607182418800017408 ∧ i = .int .i64 0 ∧ wx = w) (fun _ i _ => 0)
  case atStart => exact ⟨rfl, rfl, rfl⟩
  case round =>
    obtain ⟨rfl, rfl, rfl⟩ := hrel
    go_wp2_with fail
    go_loopw [3, 5] (fun x i wx => ∃ j : Nat, x = .float .f64 (hvn j 4607182418800017408) ∧ i = .int .i64 (-(j : Int)) ∧ j ≤ n ∧ wx = wr) (fun _ i _ => n - (-(intOf i)).toNat)
    case atStart => exact ⟨0, rfl, rfl, Nat.zero_le _, rfl⟩
    case round =>
      obtain ⟨j, rfl, rfl, hj, rfl⟩ := hrel
      by_cases hlt : j < n
      · have hlt' : m < -(j : Int) := by have := Hm.out; omega
        have hq := fun w => run_half (HR.out j) w
        have e1 : hv (hvn j 4607182418800017408) = hvn (j + 1) 4607182418800017408 := rfl
        rw [e1] at hq
        have Hw : Hid (wrap64 (-(j : Int) - 1) = -((j + 1 : Nat) : Int)) := hide' (by have := HN.out.1; unfold wrap64; omega)
        have Hlt := hide' hlt
        obtain ⟨J, hJ⟩ : ∃ J : Int, J = -(j : Int) := ⟨_, rfl⟩
        have HJ := hide' hJ
        rw [← hJ] at hlt' Hw ⊢
        generalize hX' : hvn (j + 1) 4607182418800017408 = x' at *
        generalize hX : hvn j 4607182418800017408 = x at *
        have HX := hide' hX'
        clear hX hX' e1 hj hlt hJ
        go_wp2
        rw [Hw.out]
        refine ⟨⟨j + 1, by rw [HX.out], rfl, Hlt.out, trivial⟩, ?_⟩
        show n - (- -((j + 1 : Nat) : Int)).toNat < n - (-J).toNat
        have := HJ.out
        have := Hlt.out
        omega
      · obtain rfl : j = n := by omega
        have hgt : ¬ (m < -(j : Int)) := by have := Hm.out; omega
        have HF : Hid (∀ k, k + j = 1074 → Fin (hvn j 4607182418800017408) ((2 ^ k : Nat) : Int)) := hide' (fun k hk => half_pow hk (by have := HN.out.1; omega))
        generalize hvn j 4607182418800017408 = x at *
        obtain ⟨J, hJ⟩ : ∃ J : Int, J = -(j : Int) := ⟨_, rfl⟩
        rw [← hJ] at hgt ⊢
        clear hJ hlt hj
        go_wp2
        go_ret
        exact ⟨x, rfl, hide' HF.out, rfl⟩
/-- 2 to any power that is asked for -/
theorem power_any (n : Int) (k : Nat) (w : World) (h : (k : Int) = 1074 + n) (h1 : -200 ≤ n) (h2 : n ≤ 200) : Calls Try.prog 39 #[.int .i64 n] w fun e w' => ∃ P : Nat, e = .returned (.float .f64 P) ∧ Hid (Fin P ((2 ^ k : Nat) : Int)) ∧ w' = w := by
  by_cases hn : n < 0
  · obtain ⟨m, rfl⟩ : ∃ m : Nat, n = -(m : Int) := ⟨(-n).toNat, by omega⟩
    exact (power_neg m w (by omega) (by omega)).mono (fun e w' ⟨P, a, b, c⟩ => ⟨P, a, hide' (b.out k (by omega)), c⟩)
  · obtain ⟨m, rfl⟩ : ∃ m : Nat, n = (m : Int) := ⟨n.toNat, by omega⟩
    exact (power_pos m w (by omega)).mono (fun e w' ⟨P, a, b, c⟩ => ⟨P, a, hide' (b.out k (by omega)), c⟩)
end N
end Go.Proofs.Ytfkoacjfihaajaa
