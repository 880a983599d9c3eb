import Derived.Test.YtclmnkilfijeaaaDoorNuQ
set_option linter.unusedVariables false
set_option linter.unusedSimpArgs false
namespace Go.Proofs.YtclmnkilfijeaaaDoor
open Go.RowKit
theorem digit_sub (k : Nat) (h : k < 10) : (ByteArray.mk #[48, 49, 50, 51, 52, 53, 54, 55, 56, 57]).extract k (k + 1) = ⟨#[UInt8.ofNat (48 + k)]⟩ := by
  rcases (by omega : k = 0 ∨ k = 1 ∨ k = 2 ∨ k = 3 ∨ k = 4 ∨ k = 5 ∨ k = 6 ∨ k = 7 ∨ k = 8 ∨ k = 9) with rfl | rfl | rfl | rfl | rfl | rfl | rfl | rfl | rfl | rfl <;> rfl
theorem app_mk (a b : List UInt8) : (⟨a.toArray⟩ : ByteArray) ++ ⟨b.toArray⟩ = ⟨(a ++ b).toArray⟩ := by
  apply ByteArray.ext
  simp [ByteArray.data_append]
theorem dg_head : ∀ j n, Fp.dg (j + 1) n = UInt8.ofNat (48 + n / 10 ^ j % 10) :: Fp.dg j n
  | 0, n => by simp [Fp.dg]
  | j + 1, n => by
    rw [Fp.dg, dg_head j (n / 10), Fp.dg, List.cons_append, Nat.div_div_eq_div_mul]
    congr 3
    exact congrArg (fun z => n / z % 10) (Nat.pow_succ').symm
set_option maxRecDepth 100000 in
set_option maxHeartbeats 4000000 in
theorem digits_any (n k : Nat) (hn : n < 1000000000) (hk : k ≤ 9) (w : World) : Calls Tryd.prog 12 #[.int .i64 n, .int .i64 k] w fun e w' => e = .returned (.string ⟨(Fp.dg k n).toArray⟩) ∧ w' = w := by
  have hk' : (k : Int) ≤ 9 := by omega
  go_enter Tryd.func12, Tryd.ntmps12
  go_wp2
  go_loopw [0, 6, 7] (fun v s i wx => ∃ (j m : Nat) (b : ByteArray), j ≤ k ∧ i = .int .i64 (j : Int) ∧ v = .int .i64 (m : Int) ∧ s = .string b ∧ Hid (m = n / 10 ^ j ∧ b = ⟨(Fp.dg j n).toArray⟩) ∧ wx = w) (fun _ _ i _ => k - (intOf i).toNat)
  case atStart => exact ⟨0, n, ⟨#[]⟩, by omega, rfl, rfl, rfl, ⟨by simp, rfl⟩, rfl⟩
  case round =>
    obtain ⟨j, m, b, hj, rfl, rfl, rfl, HE, rfl⟩ := hrel
    by_cases hlt : j < k
    · have hlt' : (j : Int) < (k : Int) := by omega
      obtain ⟨hm, hb⟩ := HE.out
      have hbs : b.size = j := by rw [hb]; simp [ByteArray.size, Fp.dg_length]
      have hmod := digit_sub (m % 10) (Nat.mod_lt _ (by omega))
      have hm9 : m < 1000000000 := by rw [hm]; exact Nat.lt_of_le_of_lt (Nat.div_le_self _ _) hn
      obtain ⟨D, hD⟩ : ∃ D, D = (ByteArray.mk #[48, 49, 50, 51, 52, 53, 54, 55, 56, 57]).extract (m % 10) (m % 10 + 1) := ⟨_, rfl⟩
      have hDs : D.size = 1 := by rw [hD, hmod]; rfl
      have hno : ¬ (9223372036854775807 < ((ByteArray.mk #[48, 49, 50, 51, 52, 53, 54, 55, 56, 57]).extract (m % 10) (m % 10 + 1)).size + b.size) := by rw [← hD, hDs, hbs]; omega
      have HF := hide' (And.intro hm (And.intro hb (And.intro hmod hm9)))
      clear hm hb hmod hD hDs hm9 hbs
      go_wp2
      obtain ⟨hm, hb, hmod, hm9⟩ := HF.out
      refine ⟨⟨j + 1, m / 10, _, by omega, by simp, ?_, rfl, ⟨?_, ?_⟩, trivial⟩, by simp [intOf]; omega⟩
      · have : wrap64 ((m : Int) / 10) = ((m / 10 : Nat) : Int) := by unfold wrap64; omega
        rw [this]
      · rw [hm, Nat.div_div_eq_div_mul, ← Nat.pow_succ]
      · rw [hmod, hb, dg_head, ← hm]
        exact app_mk [UInt8.ofNat (48 + m % 10)] (Fp.dg j n)
    · have hjk : j = k := by omega
      subst hjk
      go_wp2
      go_ret
      exact ⟨by rw [← HE.out.2]; rfl, rfl⟩
end Go.Proofs.YtclmnkilfijeaaaDoor
