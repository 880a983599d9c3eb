import Derived.Test.YtclmnkilfijeaaaDoorNuE
import Derived.Lib.Itoa
import Derived.Lib.ItoaMem
import Derived.Lib.AppendIntMem
set_option linter.unusedVariables false
set_option linter.unusedSimpArgs false
namespace Go.Proofs.YtclmnkilfijeaaaDoor
open Go.RowKit
theorem dg_at : ∀ (k n j : Nat), j < k → (Fp.dg k n)[j]? = some (Lib.dg n (k - 1 - j))
  | 0, n, j, h => absurd h (Nat.not_lt_zero _)
  | k + 1, n, j, h => by
    rw [Fp.dg]
    by_cases hj : j = k
    · subst hj
      rw [List.getElem?_append_right (by rw [Fp.dg_length]; exact Nat.le_refl _), Fp.dg_length, Nat.sub_self]
      simp [Lib.dg]
    · rw [List.getElem?_append_left (by rw [Fp.dg_length]; omega), dg_at k (n / 10) j (by omega)]
      unfold Lib.dg
      have e : 10 * 10 ^ (k - 1 - j) = 10 ^ (k + 1 - 1 - j) := by
        rw [show k + 1 - 1 - j = k - 1 - j + 1 by omega]; exact Nat.pow_succ'.symm
      rw [Nat.div_div_eq_div_mul, e]
theorem dg_byte (u j : Nat) : (Lib.dg u j).toNat = 48 + u / 10 ^ j % 10 := by
  unfold Lib.dg
  have := Nat.mod_lt (u / 10 ^ j) (show 10 > 0 by omega)
  rw [UInt8.toNat_ofNat_of_lt' (by have : UInt8.size = 256 := rfl; omega)]
/-- the first cells of a block hold the last k digits of n -/
def Digs (w : World) (b k n : Nat) : Prop := ∀ j, j < k → w.cell? ⟨b, j, none⟩ = some (.int .u8 ((Lib.dg n (k - 1 - j)).toNat : Nat))
abbrev encB : UInt8 → Value := fun b => Value.int .u8 (b.toNat : Int)
theorem turn_putRow (w : World) (b : Nat) (d : Array UInt8) : Turn (fun k => k = b) w (Go.Sort.putRow encB w b 0 d) := by
  refine ⟨rfl, rfl, rfl, ?_, fun k hk hn => ?_⟩
  · simp [Go.Sort.putRow, Go.Sort.mapBlock]
  · simp only [Go.Sort.putRow, Go.Sort.mapBlock, Array.getElem?_modify]
    rw [if_neg (fun e => hn e.symm)]
set_option maxRecDepth 100000 in
set_option maxHeartbeats 4000000 in
theorem setDigits_any (b d nd : Nat) (P : Int) (w : World) (hd : d < 10 ^ nd) (hd2 : d < 18446744073709551616) (hnd : nd ≤ 24) (hP : -1000 ≤ P) (hP2 : P ≤ 0) (hH : Go.Sort.Holds encB w b 0 (Array.replicate nd (0 : UInt8))) :
    Calls Tryd.prog 24 #[.slice (some ⟨b, 0, none⟩) 32 32, .int .u64 d, .int .i64 P, .int .i64 nd] w fun e w' =>
      e = .returned (.tuple #[.int .i64 (nd + P), .int .i64 (Fp.st nd d).1]) ∧ Digs w' b nd d ∧ Turn (fun k => k = b) w w' := by
  have hf := sh.internal_strconv_formatBase10 b 0 32 d (Array.replicate nd (0 : UInt8)) w hH (by rw [Array.size_replicate]; exact hd) hd2 (by rw [Array.size_replicate]; omega)
  rw [Array.size_replicate] at hf
  have HF := hide' hf
  have HH := hide' (And.intro hH (And.intro hd hd2))
  clear hf hH hd hd2
  have n1 : (nd : Int) ≤ 32 := by omega
  go_enter Tryd.func24, Tryd.ntmps24
  go_wp2_with (fail)
  refine HF.out.mono ?_
  rintro e w1 ⟨rfl, n, v', dk, rfl, hI⟩
  have hD : Digs ((Go.Sort.putRow encB w b 0 dk).drewN n) b nd d := by
    intro j hj
    have h1 := Go.Sort.cell?_putRow encB w b 0 _ dk HH.out.1 (by rw [hI.size, Array.size_replicate]) j (by rw [hI.size]; exact hj)
    rw [Nat.zero_add] at h1
    rw [World.cell?_drewN, h1, hI.done j (Nat.zero_le _) hj]
  have hT : Turn (fun k => k = b) w ((Go.Sort.putRow encB w b 0 dk).drewN n) := (turn_putRow w b dk).drewN n
  generalize (Go.Sort.putRow encB w b 0 dk).drewN n = w2 at *
  have HD := hide' (And.intro hD hT)
  clear hD hT hI
  go_wp2_with (fail)
  go_loopw [3] (fun i wx => ∃ k : Nat, i = .int .i64 k ∧ k ≤ nd ∧ Fp.st k (d / 10 ^ (nd - k)) = Fp.st nd d ∧ wx = w2) (fun i _ => (intOf i).toNat)
  case atStart => exact ⟨nd, rfl, Nat.le_refl _, by simp, rfl⟩
  case round =>
    obtain ⟨k, rfl, hk, hst, rfl⟩ := hrel
    cases k with
    | zero =>
      have h1 : (Fp.st nd d).1 = 0 := by rw [← hst]; rfl
      have H1 := hide' h1
      clear hst h1
      go_wp2_with (fail)
      go_ret2
      exact ⟨by rw [H1.out]; rfl, HD.out.1, HD.out.2⟩
    | succ k =>
      have hc := HD.out.1 k (by omega)
      have hb := dg_byte d (nd - 1 - k)
      obtain ⟨B, hB⟩ : ∃ B : Int, B = ((Lib.dg d (nd - 1 - k)).toNat : Nat) := ⟨_, rfl⟩
      rw [← hB] at hc
      have hB2 : B = 48 + ((d / 10 ^ (nd - 1 - k) % 10 : Nat) : Int) := by rw [hB, hb]; omega
      have e : nd - (k + 1) = nd - 1 - k := by omega
      rw [e] at hst
      have hk32 : (k : Int) < 24 := by omega
      by_cases hz : d / 10 ^ (nd - 1 - k) % 10 = 0
      · have q : (B == 48) = true := by rw [beq_iff_eq, hB2, hz]; rfl
        have hs2 : Fp.st k (d / 10 ^ (nd - k)) = Fp.st nd d := by
          rw [← hst, Fp.st, if_pos hz, Nat.div_div_eq_div_mul, ← Nat.pow_succ, show Nat.succ (nd - 1 - k) = nd - k by omega]
        have HS := hide' (And.intro hs2 hk)
        clear hst hs2 hz hB hB2 hb e
        go_wp2_with (fail)
        exact ⟨⟨k, by simp, by have := HS.out.2; omega, HS.out.1, trivial⟩, by simp [intOf]⟩
      · have q : (B == 48) = false := by rw [beq_eq_false_iff_ne, hB2]; omega
        have hs2 : (Fp.st nd d).1 = k + 1 := by rw [← hst, Fp.st, if_neg hz]
        have H1 := hide' hs2
        clear hst hs2 hz hB hB2 hb e
        go_wp2_with (fail)
        go_ret2
        exact ⟨by rw [H1.out]; rfl, HD.out.1, HD.out.2⟩
end Go.Proofs.YtclmnkilfijeaaaDoor
