import Derived.Test.YtihdagehenmolaaFrm
set_option linter.unusedVariables false
set_option linter.unusedSimpArgs false
namespace Go.Proofs.Ytihdagehenmolaa
open Go.RowKit
namespace J
open M K
theorem or32 {a c : Nat} (i : Nat) (ha : a < 2 ^ i) (h : a + 2 ^ i * c < 4294967296) : bits .or .u32 (a : Int) ((2 ^ i * c : Nat) : Int) = ((a + 2 ^ i * c : Nat) : Int) := by
  rw [u32_or_nat _ _ (by omega) (by omega), Nat.or_comm, ← Nat.two_pow_add_eq_or_of_lt ha, Nat.add_comm]
set_option maxRecDepth 100000 in
set_option maxHeartbeats 1000000 in
theorem number_any {w : World} {b off n cap : Nat} {p q r s : UInt8} (hn : 4 ≤ n) (h0 : w.cell? ⟨b, off, none⟩ = some (.int .u8 (p.toNat : Int))) (h1 : w.cell? ⟨b, off + 1, none⟩ = some (.int .u8 (q.toNat : Int))) (h2 : w.cell? ⟨b, off + 2, none⟩ = some (.int .u8 (r.toNat : Int))) (h3 : w.cell? ⟨b, off + 3, none⟩ = some (.int .u8 (s.toNat : Int))) : Calls Try.prog 48 #[.slice (some ⟨b, off, none⟩) n cap] w fun e w' => e = .returned (.int .u32 (num4 p q r s : Nat)) ∧ ∃ m, w' = w.drewN m := by
  have k0 : (0 : Int) < (n : Int) := by omega
  have k1 : (1 : Int) < (n : Int) := by omega
  have k2 : (2 : Int) < (n : Int) := by omega
  have k3 : (3 : Int) < (n : Int) := by omega
  have l0 := u8_lt p
  have l1 := u8_lt q
  have l2 := u8_lt r
  have l3 := u8_lt s
  have U : Hid (p.toNat < 256 ∧ q.toNat < 256 ∧ r.toNat < 256 ∧ s.toNat < 256) := hide' ⟨l0, l1, l2, l3⟩
  have HE : Hid (num4 p q r s = p.toNat + 256 * q.toNat + 65536 * r.toNat + 16777216 * s.toNat) := hide' rfl
  generalize num4 p q r s = N at *
  generalize p.toNat = P at *
  generalize q.toNat = Q at *
  generalize r.toNat = R at *
  generalize s.toNat = S at *
  clear l0 l1 l2 l3 hn
  go_enter Try.func48, Try.ntmps48
  go_wp2_with fail
  go_quiet (fail)
  go_wp2
  go_ret
  refine ⟨?_, _, rfl⟩
  obtain ⟨u0, u1, u2, u3⟩ := U.out
  have e0 : (P : Int) % 4294967296 = ((P : Nat) : Int) := by omega
  have e1 : (Q : Int) % 4294967296 * 256 % 4294967296 = ((2 ^ 8 * Q : Nat) : Int) := by omega
  have e2 : (R : Int) % 4294967296 * 65536 % 4294967296 = ((2 ^ 16 * R : Nat) : Int) := by omega
  have e3 : (S : Int) % 4294967296 * 16777216 % 4294967296 = ((2 ^ 24 * S : Nat) : Int) := by omega
  show Ending.returned (.int .u32 (bits .or .u32 (bits .or .u32 (bits .or .u32 ((P : Int) % 4294967296) ((Q : Int) % 4294967296 * 256 % 4294967296)) ((R : Int) % 4294967296 * 65536 % 4294967296)) ((S : Int) % 4294967296 * 16777216 % 4294967296))) = _
  rw [e0, e1, e2, e3, or32 8 (by omega) (by omega), or32 16 (by omega) (by omega), or32 24 (by omega) (by omega), HE.out]
end J
end Go.Proofs.Ytihdagehenmolaa
