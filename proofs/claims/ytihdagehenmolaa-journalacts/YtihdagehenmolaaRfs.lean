import Derived.Test.YtihdagehenmolaaRea
import Derived.Test.YtihdagehenmolaaJuC
set_option linter.unusedVariables false
set_option linter.unusedSimpArgs false
namespace Go.Proofs.Ytihdagehenmolaa
open Go.RowKit
namespace J
open M K
theorem index_sb {t : List UInt8} {k : Nat} {z : UInt8} (h : t[k]? = some z) (w : World) : (Instr.index 9 (.string (sb t)) (.int .i64 (k : Int))).run Try.prog w = .ok (.int .u8 (z.toNat : Int)) w := by
  have hk := (List.getElem?_eq_some_iff.1 h).1
  have hs := sb_size t
  rw [run_index_string w 9 (sb t) .i64 (k : Int) Try.underlying9, dif_pos ⟨by omega, by omega⟩]
  have e : (sb t)[(k : Int).toNat]'(by rw [hs]; omega) = z := by
    have := (List.getElem?_eq_some_iff.1 h).2
    rw [← this]
    show (sb t).data[(k : Int).toNat] = _
    simp [sb]
  rw [e]
theorem tmodN (a b : Nat) : (a : Int).tmod (b : Int) = ((a % b : Nat) : Int) := rfl
theorem tdivN (a b : Nat) : (a : Int).tdiv (b : Int) = ((a / b : Nat) : Int) := rfl
set_option maxRecDepth 100000 in
set_option maxHeartbeats 1000000 in
theorem turned_any (n : Nat) (hn : n < 4294967296) (w : World) : Calls Try.prog 45 #[.int .i64 (n : Int), .int .i64 32] w fun e w' => e = .returned (.int .i64 (trn n 32 : Nat)) ∧ w' = w := by
  have HN := hide' hn
  clear hn
  go_enter Try.func45, Try.ntmps45
  go_wp2
  go_loopw [0, 5, 6] (fun m o i wx => ∃ k M O : Nat, m = .int .i64 (M : Int) ∧ o = .int .i64 (O : Int) ∧ i = .int .i64 (k : Int) ∧ k ≤ 32 ∧ M = n / 2 ^ k ∧ O = trn n k ∧ wx = w) (fun _ _ i _ => 32 - (intOf i).toNat)
  case atStart => exact ⟨0, n, 0, rfl, rfl, rfl, Nat.zero_le _, by simp, rfl, rfl⟩
  case round =>
    obtain ⟨k, M, O, rfl, rfl, rfl, hk, hM, hO, rfl⟩ := hrel
    have HK : Hid (M = n / 2 ^ k ∧ O = trn n k) := hide' ⟨hM, hO⟩
    have hOl : O < 4294967296 := by
      have h1 := (trn_bits n k).1
      have h2 : 2 ^ k ≤ 2 ^ 32 := Nat.pow_le_pow_right (by decide) hk
      rw [hO]; omega
    have hMl : M < 4294967296 := by
      rw [hM]
      exact Nat.lt_of_le_of_lt (Nat.div_le_self _ _) HN.out
    clear hM hO
    by_cases hlt : k < 32
    · have hlt' : (k : Int) < 32 := by omega
      have e1 : (M : Int).tmod 2 = ((M % 2 : Nat) : Int) := rfl
      have e2 : (M : Int).tdiv 2 = ((M / 2 : Nat) : Int) := rfl
      have e3 : Hid (wrap64 (2 * (O : Int)) = 2 * (O : Int) ∧ wrap64 (2 * (O : Int) + ((M % 2 : Nat) : Int)) = ((2 * O + M % 2 : Nat) : Int) ∧ wrap64 (((M / 2 : Nat) : Int)) = ((M / 2 : Nat) : Int)) := hide' ⟨by unfold wrap64; omega, by unfold wrap64; omega, by unfold wrap64; omega⟩
      have ek := hide' (wsucN k (by omega))
      have Hms := hide' (msr' hlt _ rfl)
      have Hlt := hide' hlt
      clear hk hlt hOl hMl
      go_wp2
      refine ⟨⟨k + 1, M / 2, 2 * O + M % 2, ?_, ?_, rfl, Hlt.out, ?_, ?_, trivial⟩, Hms.out⟩
      · congr 1; exact e3.out.2.2
      · rw [e3.out.1]; congr 1; exact e3.out.2.1
      · rw [HK.out.1, Nat.div_div_eq_div_mul, Nat.pow_succ]
      · show _ = 2 * trn n k + n / 2 ^ k % 2
        rw [HK.out.2, HK.out.1]
    · have hlt' : ¬ ((k : Int) < 32) := by omega
      obtain rfl : k = 32 := by omega
      clear hk hlt hlt' hOl hMl
      go_wp2
      go_ret
      exact ⟨by rw [← HK.out.2]; rfl, rfl⟩
theorem rst_lt (l : List UInt8) (i : Nat) : rst l i < 4294967296 := by
  by_cases h : i ≤ 32
  · have h1 := (rst_head l i h).1
    have h2 : 2 ^ i ≤ 2 ^ 32 := Nat.pow_le_pow_right (by decide) h
    omega
  · have := (regs l (i - 32)).1
    rwa [show i - 32 + 32 = i by omega] at this
theorem xor64 {a b : Nat} (ha : a < 8589934592) (hb : b < 8589934592) : bits .xor .i64 (a : Int) (b : Int) = ((a ^^^ b : Nat) : Int) := by
  have hx : a ^^^ b < 2 ^ 33 := Nat.xor_lt_two_pow (by omega) (by omega)
  show IntKind.i64.wrap ((BitVec.ofInt 64 (a : Int) ^^^ BitVec.ofInt 64 (b : Int)).toNat : Int) = _
  rw [BitVec.toNat_xor, BitVec.ofInt_natCast, BitVec.ofInt_natCast, BitVec.toNat_ofNat, BitVec.toNat_ofNat, Nat.mod_eq_of_lt (by omega), Nat.mod_eq_of_lt (by omega), IntKind.wrap_i64]
  omega
/-- the document's bit -/
theorem mb_in {l : List UInt8} {i : Nat} {z : UInt8} (h : l[i / 8]? = some z) : (mb l i).toNat = z.toNat / 2 ^ (i % 8) % 2 := by
  unfold mb
  rw [List.getD_eq_getElem?_getD, h, Option.getD_some, Nat.toNat_testBit]
theorem rst_step {l : List UInt8} {k R b : Nat} (hR : R = rst l k) (hb : b = rb l k) : rst l (k + 1) = if 4294967296 ≤ 2 * R + b then (2 * R + b) ^^^ 4374732215 else 2 * R + b := by
  show rs (rst l k) (rb l k) = _
  rw [← hR, ← hb]; rfl
set_option maxRecDepth 100000 in
set_option maxHeartbeats 2000000 in
theorem rsum_any (l : List UInt8) (hl : l.length ≤ 1099511627776) (w : World) : Calls Try.prog 33 #[.string (sb l)] w fun e w' => e = .returned (.int .i64 (sm l : Nat)) ∧ w' = w := by
  obtain ⟨T, hT⟩ : ∃ T, T = sb l := ⟨_, rfl⟩
  have z := sb_size l
  rw [← hT] at z ⊢
  have HT := hide' hT
  obtain ⟨n, hn⟩ : ∃ n, n = l.length := ⟨_, rfl⟩
  rw [← hn] at z hl
  have Hn := hide' hn
  obtain ⟨A8, h8⟩ : ∃ A : Int, A = ((8 * n : Nat) : Int) := ⟨_, rfl⟩
  obtain ⟨AA, hA⟩ : ∃ A : Int, A = ((8 * n + 32 : Nat) : Int) := ⟨_, rfl⟩
  have w1 : wrap64 (8 * (n : Int)) = A8 := by rw [h8]; unfold wrap64; omega
  have w2 : wrap64 (A8 + 32) = AA := by rw [h8, hA]; unfold wrap64; omega
  have HA := hide' (And.intro h8 (And.intro hA hl))
  clear hT hl hn h8 hA
  go_enter Try.func33, Try.ntmps33
  go_wp2
  go_loopw [3, 5] (fun r i wx => ∃ k R : Nat, r = .int .i64 (R : Int) ∧ i = .int .i64 (k : Int) ∧ k ≤ 8 * n + 32 ∧ R = rst l k ∧ wx = w) (fun _ i _ => 8 * n + 32 - (intOf i).toNat)
  case atStart => exact ⟨0, 0, rfl, rfl, Nat.zero_le _, rfl, rfl⟩
  case round =>
    obtain ⟨k, R, rfl, rfl, hk, hR, rfl⟩ := hrel
    have HR := hide' hR
    have hRl : Hid (R < 4294967296) := hide' (by rw [hR]; exact rst_lt l k)
    clear hR
    by_cases hlt : k < 8 * n + 32
    · have hlt' : (k : Int) < AA := by rw [HA.out.2.1]; omega
      have Hlt := hide' hlt
      have ek := hide' (wsucN k (by have := HA.out.2.2; omega))
      have Hms := hide' (msr' hlt _ rfl)
      obtain ⟨b, hb⟩ : ∃ b, b = rb l k := ⟨_, rfl⟩
      have hb1 : b ≤ 1 := by rw [hb]; exact rb_le l k
      obtain ⟨c, hc⟩ : ∃ c, c = (mb l k).toNat := ⟨_, rfl⟩
      have hc1 : c ≤ 1 := by rw [hc]; exact Bool.toNat_le _
      have HS := hide' (rst_step HR.out hb)
      obtain ⟨D, hD⟩ : ∃ D : Int, D = 2 * (R : Int) := ⟨_, rfl⟩
      obtain ⟨G, hG⟩ : ∃ G : Int, G = ((2 * R + b : Nat) : Int) := ⟨_, rfl⟩
      have d1 : wrap64 (2 * (R : Int)) = D := by rw [hD]; have := hRl.out; unfold wrap64; omega
      have d2 : wrap64 (D + (b : Int)) = G := by rw [hD, hG]; have := hRl.out; unfold wrap64; omega
      have d3 : bits .xor .i64 G 4374732215 = (((2 * R + b) ^^^ 4374732215 : Nat) : Int) := by rw [hG]; exact xor64 (by have := hRl.out; omega) (by decide)
      have HG := hide' hG
      have HBC := hide' (And.intro hb hc)
      have HB1 := hide' (And.intro hb1 hc1)
      clear hk hlt hD hG hb hc hb1 hc1
      by_cases h8 : k < 8 * n
      · have h8' : (k : Int) < A8 := by rw [HA.out.1]; omega
        obtain ⟨y, hy⟩ : ∃ y, l[k / 8]? = some y := ⟨_, List.getElem?_eq_getElem (by rw [← Hn.out]; omega)⟩
        obtain ⟨Q, hQ⟩ : ∃ Q : Int, Q = ((k / 8 : Nat) : Int) := ⟨_, rfl⟩
        have hix : ∀ w', (Instr.index 9 (.string T) (.int .i64 Q)).run Try.prog w' = .ok (.int .u8 (y.toNat : Int)) w' := fun w' => by rw [HT.out, hQ]; exact index_sb hy w'
        obtain ⟨M8, hM8⟩ : ∃ M : Int, M = ((k % 8 : Nat) : Int) := ⟨_, rfl⟩
        have e1 : (k : Int) / 8 = Q := by rw [hQ]; omega
        have e2 : (k : Int) % 8 = M8 := by rw [hM8]; omega
        have m1 : 0 ≤ M8 := by omega
        have m2 : M8 ≤ 8 := by omega
        obtain ⟨S, hS⟩ : ∃ S : Int, S = ((y.toNat / 2 ^ (k % 8) : Nat) : Int) := ⟨_, rfl⟩
        have e3 : (y.toNat : Int) / 2 ^ M8.toNat = S := by rw [hS, hM8, Int.toNat_natCast]; simp
        have hy8 := u8_lt y
        have hSl : y.toNat / 2 ^ (k % 8) < 256 := Nat.lt_of_le_of_lt (Nat.div_le_self _ _) hy8
        have e4 : wrap64 S = S := by rw [hS]; generalize y.toNat / 2 ^ (k % 8) = q at hSl; clear e3 hS; unfold wrap64; omega
        have wq : wrap64 Q = Q := by rw [hQ]; have := HA.out.2.2; clear e3; unfold wrap64; omega
        have e5 : S.tmod 2 = (c : Int) := by rw [hS, HBC.out.2, mb_in hy]; rfl
        clear h8 hy hQ hM8 hS hy8 hSl
        by_cases h32 : k < 32
        · have h32' : (k : Int) < 32 := by omega
          have hbc : (b : Int) = 1 - (c : Int) := by rw [HBC.out.1, HBC.out.2]; unfold rb; rw [if_pos h32]; cases mb l k <;> rfl
          have e6 : wrap64 (1 - (c : Int)) = (b : Int) := by rw [← hbc]; have := HB1.out; unfold wrap64; omega
          clear h32 hbc
          by_cases hov : 4294967296 ≤ 2 * R + b
          · have hov' : 4294967296 ≤ G := by rw [HG.out]; omega
            rw [if_pos hov] at HS
            clear hov
            go_wp2
            exact ⟨⟨k + 1, ((2 * R + b) ^^^ 4374732215), by first | rfl | rw [d2, d3] | rw [d3], by first | rfl | rw [ek.out], Hlt.out, HS.out.symm, trivial⟩, by first | exact Hms.out | (rw [ek.out]; exact Hms.out)⟩
          · have hov' : ¬ (4294967296 ≤ G) := by rw [HG.out]; omega
            rw [if_neg hov] at HS
            clear hov
            go_wp2
            exact ⟨⟨k + 1, (2 * R + b), by first | rw [d2, HG.out] | rw [HG.out], by first | rfl | rw [ek.out], Hlt.out, HS.out.symm, trivial⟩, by first | exact Hms.out | (rw [ek.out]; exact Hms.out)⟩
        · have h32' : ¬ ((k : Int) < 32) := by omega
          have hbc : (b : Int) = (c : Int) := by rw [HBC.out.1, HBC.out.2]; unfold rb; rw [if_neg h32]
          rw [← hbc] at e5
          clear h32 hbc
          by_cases hov : 4294967296 ≤ 2 * R + b
          · have hov' : 4294967296 ≤ G := by rw [HG.out]; omega
            rw [if_pos hov] at HS
            clear hov
            go_wp2
            exact ⟨⟨k + 1, ((2 * R + b) ^^^ 4374732215), by first | rfl | rw [d2, d3] | rw [d3], by first | rfl | rw [ek.out], Hlt.out, HS.out.symm, trivial⟩, by first | exact Hms.out | (rw [ek.out]; exact Hms.out)⟩
          · have hov' : ¬ (4294967296 ≤ G) := by rw [HG.out]; omega
            rw [if_neg hov] at HS
            clear hov
            go_wp2
            exact ⟨⟨k + 1, (2 * R + b), by first | rw [d2, HG.out] | rw [HG.out], by first | rfl | rw [ek.out], Hlt.out, HS.out.symm, trivial⟩, by first | exact Hms.out | (rw [ek.out]; exact Hms.out)⟩
      · have h8' : ¬ ((k : Int) < A8) := by rw [HA.out.1]; omega
        have e5 : (c : Int) = 0 := by rw [HBC.out.2, mb_out (by rw [← Hn.out]; omega)]; rfl
        have e5 := hide' e5
        clear h8
        by_cases h32 : k < 32
        · have h32' : (k : Int) < 32 := by omega
          have hbc : (b : Int) = 1 - (c : Int) := by rw [HBC.out.1, HBC.out.2]; unfold rb; rw [if_pos h32]; cases mb l k <;> rfl
          have e6 : (b : Int) = 1 := by rw [hbc, e5.out]; rfl
          rw [e6] at d2
          clear h32 hbc
          by_cases hov : 4294967296 ≤ 2 * R + b
          · have hov' : 4294967296 ≤ G := by rw [HG.out]; omega
            rw [if_pos hov] at HS
            clear hov
            go_wp2
            exact ⟨⟨k + 1, ((2 * R + b) ^^^ 4374732215), by first | rfl | rw [d2, d3] | rw [d3], by first | rfl | rw [ek.out], Hlt.out, HS.out.symm, trivial⟩, by first | exact Hms.out | (rw [ek.out]; exact Hms.out)⟩
          · have hov' : ¬ (4294967296 ≤ G) := by rw [HG.out]; omega
            rw [if_neg hov] at HS
            clear hov
            go_wp2
            exact ⟨⟨k + 1, (2 * R + b), by first | rw [d2, HG.out] | rw [HG.out], by first | rfl | rw [ek.out], Hlt.out, HS.out.symm, trivial⟩, by first | exact Hms.out | (rw [ek.out]; exact Hms.out)⟩
        · have h32' : ¬ ((k : Int) < 32) := by omega
          have hbc : (b : Int) = (c : Int) := by rw [HBC.out.1, HBC.out.2]; unfold rb; rw [if_neg h32]
          rw [hbc, e5.out, Int.add_zero] at d2
          clear h32 hbc
          by_cases hov : 4294967296 ≤ 2 * R + b
          · have hov' : 4294967296 ≤ G := by rw [HG.out]; omega
            rw [if_pos hov] at HS
            clear hov
            go_wp2
            exact ⟨⟨k + 1, ((2 * R + b) ^^^ 4374732215), by first | rfl | rw [d2, d3] | rw [d3], by first | rfl | rw [ek.out], Hlt.out, HS.out.symm, trivial⟩, by first | exact Hms.out | (rw [ek.out]; exact Hms.out)⟩
          · have hov' : ¬ (4294967296 ≤ G) := by rw [HG.out]; omega
            rw [if_neg hov] at HS
            clear hov
            go_wp2
            exact ⟨⟨k + 1, (2 * R + b), by first | rw [d2, HG.out] | rw [HG.out], by first | rfl | rw [ek.out], Hlt.out, HS.out.symm, trivial⟩, by first | exact Hms.out | (rw [ek.out]; exact Hms.out)⟩
    · have hlt' : ¬ ((k : Int) < AA) := by rw [HA.out.2.1]; omega
      have hke : k = 8 * n + 32 := by omega
      have C1 := hide' (turned_any R hRl.out wr)
      obtain ⟨U, hU⟩ : ∃ U, U = trn R 32 := ⟨_, rfl⟩
      rw [← hU] at C1
      have hUl : U < 4294967296 := by rw [hU]; simpa using (trn_bits R 32).1
      have HE : Hid (4294967295 - U = sm l) := hide' (by rw [hU, HR.out, hke, Hn.out]; exact sum_eq l)
      have w3 : wrap64 (4294967295 - (U : Int)) = ((4294967295 - U : Nat) : Int) := by unfold wrap64; omega
      obtain ⟨Z, hZ⟩ : ∃ Z : Int, Z = ((4294967295 - U : Nat) : Int) := ⟨_, rfl⟩
      rw [← hZ] at w3
      have HZ := hide' hZ
      clear hk hlt hke hU hUl hZ
      go_wp2_with fail
      refine C1.out.mono ?_
      rintro e w4 ⟨rfl, rfl⟩
      clear C1
      go_wp2
      go_ret
      refine ⟨?_, rfl⟩
      rw [← HE.out, ← HZ.out, ← w3]
      rfl
end J
end Go.Proofs.Ytihdagehenmolaa
