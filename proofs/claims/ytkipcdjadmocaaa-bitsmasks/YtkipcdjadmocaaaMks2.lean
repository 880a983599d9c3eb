import Derived.Test.YtkipcdjadmocaaaMks
set_option linter.unusedVariables false
set_option linter.unusedSimpArgs false
namespace Go.Proofs.Ytkipcdjadmocaaa
open Go.RowKit
/-- the mask of what is in -/
def mb (p : Nat → Bool) : Nat := B.wdN p 16 0
theorem mb_lt (p : Nat → Bool) : mb p < 65536 := B.wdN_lt p 16 0
theorem mb_bit (p : Nat → Bool) (i : Nat) : (mb p).testBit i = (decide (i < 16) && p i) := by
  have := B.wdN_bit p 16 0 i
  rw [Nat.zero_add] at this
  exact this
theorem mb_congr {p q : Nat → Bool} (h : ∀ i, i < 16 → p i = q i) : mb p = mb q := by
  apply Nat.eq_of_testBit_eq
  intro i
  rw [mb_bit, mb_bit]
  by_cases hi : i < 16
  · rw [h i hi]
  · simp [hi]
theorem mb_self (m : Nat) (h : m < 65536) : mb (fun i => m.testBit i) = m := by
  apply Nat.eq_of_testBit_eq
  intro i
  rw [mb_bit]
  by_cases hi : i < 16
  · simp [hi]
  · have : m < 2 ^ i := Nat.lt_of_lt_of_le h (by rw [show (65536 : Nat) = 2 ^ 16 by rfl]; exact Nat.pow_le_pow_right (by omega) (by omega))
    rw [Nat.testBit_lt_two_pow this]; simp [hi]
theorem u16_pow (j : Nat) (hj : j < 16) : IntKind.u16.wrap (2 ^ j) = ((2 ^ j : Nat) : Int) ∧ (2 : Nat) ^ j < 65536 := by
  have hp : (2 : Nat) ^ j < 2 ^ 16 := Nat.pow_lt_pow_right (by omega) hj
  refine ⟨?_, hp⟩
  rw [show (2 : Int) ^ j = ((2 ^ j : Nat) : Int) by simp]
  generalize (2 : Nat) ^ j = z at *
  simp [IntKind.wrap, IntKind.signed, IntKind.bits]
  omega
theorem mb_or_nat (p q : Nat → Bool) (j : Nat) (hj : j < 16) (h : ∀ i, i < 16 → q i = (p i || decide (i = j))) : mb p ||| 2 ^ j = mb q := by
  apply Nat.eq_of_testBit_eq
  intro i
  rw [Nat.testBit_or, mb_bit, mb_bit, Nat.testBit_two_pow]
  by_cases hi : i < 16
  · rw [h i hi]
    simp only [hi, decide_true, Bool.true_and]
    congr 1
    rw [Bool.eq_iff_iff]
    simp only [decide_eq_true_eq]
    exact eq_comm
  · simp only [hi, decide_false, Bool.false_and, Bool.false_or, decide_eq_false_iff_not]
    omega
theorem mb_or (p q : Nat → Bool) (j : Nat) (hj : j < 16) (h : ∀ i, i < 16 → q i = (p i || decide (i = j))) : bits .or .u16 (mb p : Nat) (IntKind.u16.wrap (2 ^ j)) = (mb q : Nat) := by
  rw [(u16_pow j hj).1, u16_or_nat _ _ (mb_lt p) (u16_pow j hj).2, mb_or_nat p q j hj h]
def inM (l : List Int) : Nat → Bool := fun i => decide ((i : Int) ∈ l)
set_option maxHeartbeats 1000000 in
set_option maxRecDepth 100000 in
theorem mask_any (a : Option Addr) (len cap : Nat) (ns : List Int) (w : World) (h : IsInts w a len cap ns) : Calls Try.prog 34 #[.slice a len cap] w fun e w' => e = .returned (.int .u16 (mb (inM ns) : Nat)) ∧ w' = w := by
  obtain ⟨h1, h2, h3, h4⟩ := h
  unfold maxLen at h2
  have h0 : mb (inM []) = 0 := by
    apply Nat.eq_of_testBit_eq
    intro i
    rw [mb_bit]; simp [inM]
  have Hall : Hid (ns.take len = ns) := List.take_of_length_le (by omega)
  have H0 := hide' h0
  rcases h4 with rfl | ⟨b, off, rfl, hb, hc⟩
  · have hnil : ns = [] := List.length_eq_zero_iff.1 h3
    subst hnil
    rw [h0]
    go_enter Try.func34, Try.ntmps34
    go_wp2
    go_loopw [3, 8] (fun m i wx => wx = w ∧ i = .int .i64 0 ∧ m = .int .u16 0) (fun _ i _ => 0)
    case atStart => exact ⟨rfl, rfl, rfl⟩
    case round =>
      obtain ⟨rfl, rfl, rfl⟩ := hrel
      go_wp2
      go_ret
      exact ⟨rfl, rfl⟩
  · have Hc := hide' hc
    clear hc
    go_enter Try.func34, Try.ntmps34
    go_wp2
    go_loopw [3, 8] (fun m i wx => wx = w ∧ ∃ k : Nat, k ≤ len ∧ i = .int .i64 (k : Int) ∧ m = .int .u16 (mb (inM (ns.take k)) : Nat)) (fun _ i _ => len - (intOf i).toNat)
    case atStart => exact ⟨rfl, 0, by omega, rfl, by rw [List.take_zero, H0.out]; rfl⟩
    case round =>
      obtain ⟨rfl, k, hk, rfl, rfl⟩ := hrel
      by_cases hlt : k < len
      · have cw := Hc.out k hlt
        have hlt' : (k : Int) < (len : Int) := by omega
        have hst : ∀ i : Nat, inM (ns.take (k + 1)) i = (inM (ns.take k) i || decide ((i : Int) = ns.getD k 0)) := fun i => by
          have hkl : k < ns.length := by omega
          have e : ns.getD k 0 = ns[k] := by simp [List.getD, List.getElem?_eq_getElem hkl]
          rw [e]
          unfold inM
          rw [List.take_succ_eq_append_getElem hkl]
          rw [Bool.eq_iff_iff]
          simp only [decide_eq_true_eq, Bool.or_eq_true, List.mem_append, List.mem_singleton]
        generalize ns.getD k 0 = z at *
        by_cases hz0 : 0 ≤ z
        · by_cases hz1 : z < 16
          · obtain ⟨j, rfl⟩ : ∃ j : Nat, z = (j : Int) := ⟨z.toNat, by omega⟩
            have hor := mb_or (inM (ns.take k)) (inM (ns.take (k + 1))) j (by omega) (fun i _ => by rw [hst i]; congr 1; rw [Bool.eq_iff_iff]; simp only [decide_eq_true_eq]; omega)
            have e1 : decide (0 ≤ (j : Int)) = true := by simp
            have e2 : decide ((j : Int) < 16) = true := by simpa using hz1
            have e3 : (j : Int) ≤ 16 := by omega
            generalize mb (inM (ns.take k)) = M at *
            generalize hM2 : mb (inM (ns.take (k + 1))) = M2 at *
            have HM2 := hide' hM2
            clear hst hM2
            go_wp2
            exact ⟨⟨trivial, k + 1, by omega, by go_num, by rw [HM2.out]⟩, by simp [intOf]; omega⟩
          · have hM : mb (inM (ns.take (k + 1))) = mb (inM (ns.take k)) := mb_congr (fun i hi => by rw [hst i, decide_eq_false (by omega), Bool.or_false])
            have e1 : decide (0 ≤ z) = true := by simpa using hz0
            have e2 : decide (z < 16) = false := by simpa using hz1
            have HM := hide' hM
            clear hst hM
            go_wp2
            exact ⟨⟨trivial, k + 1, by omega, by go_num, by rw [HM.out]⟩, by simp [intOf]; omega⟩
        · have hM : mb (inM (ns.take (k + 1))) = mb (inM (ns.take k)) := mb_congr (fun i hi => by rw [hst i, decide_eq_false (by omega), Bool.or_false])
          have e1 : decide (0 ≤ z) = false := by simpa using hz0
          have HM := hide' hM
          clear hst hM
          go_wp2
          exact ⟨⟨trivial, k + 1, by omega, by go_num, by rw [HM.out]⟩, by simp [intOf]; omega⟩
      · have hkl : k = len := by omega
        subst hkl
        rw [Hall.out]
        have hlt' : ¬ (k : Int) < (k : Int) := by omega
        go_wp2
        go_ret
        exact ⟨rfl, rfl⟩
set_option maxHeartbeats 1000000 in
set_option maxRecDepth 100000 in
theorem fold_any (b : Nat) (a : Nat → Int) (w : World) (hc : ∀ j, j < 16 → w.cell? ⟨b, j, none⟩ = some (.int .i8 (a j))) : Calls Try.prog 35 #[.pointer (some ⟨b, 0, none⟩)] w fun e w' => e = .returned (.int .u16 (mb (fun i => !decide (a i = 0)) : Nat)) ∧ ∃ n, w' = w.drewN n := by
  have h0 : mb (fun i => decide (i < 0) && !decide (a i = 0)) = 0 := by
    apply Nat.eq_of_testBit_eq
    intro i
    rw [mb_bit]; simp
  have H0 := hide' h0
  have Hc := hide' hc
  have H16 : Hid (mb (fun i => decide (i < 16) && !decide (a i = 0)) = mb (fun i => !decide (a i = 0))) := mb_congr (fun i hi => by rw [decide_eq_true hi, Bool.true_and])
  clear hc h0
  go_enter Try.func35, Try.ntmps35
  go_wp2
  go_loopw [3, 9] (fun m i wx => ∃ (k nn : Nat), k ≤ 16 ∧ i = .int .i64 (k : Int) ∧ wx = w.drewN nn ∧ m = .int .u16 (mb (fun i => decide (i < k) && !decide (a i = 0)) : Nat)) (fun _ i _ => 16 - (intOf i).toNat)
  case atStart => exact ⟨0, 0, by omega, rfl, rfl, by rw [H0.out]; rfl⟩
  case round =>
    obtain ⟨k, nn, hk, rfl, rfl, rfl⟩ := hrel
    by_cases hlt : k < 16
    · have cw := Hc.out k hlt
      have hlt' : (k : Int) < 16 := by omega
      by_cases hz : a k = 0
      · have hM : mb (fun i => decide (i < k + 1) && !decide (a i = 0)) = mb (fun i => decide (i < k) && !decide (a i = 0)) := mb_congr (fun i hi => by
          by_cases e : i = k
          · subst e; simp [hz]
          · rw [show decide (i < k + 1) = decide (i < k) by rw [Bool.eq_iff_iff]; simp only [decide_eq_true_eq]; omega])
        have HM := hide' hM
        rw [hz] at cw
        clear hM hz
        generalize mb (fun i => decide (i < k) && !decide (a i = 0)) = M at *
        go_wp2
        go_quiet (fail)
        go_wp2
        exact ⟨⟨k + 1, nn + nq, by omega, by go_num, rfl, by rw [HM.out]⟩, by simp [intOf]; omega⟩
      · have hor := mb_or (fun i => decide (i < k) && !decide (a i = 0)) (fun i => decide (i < k + 1) && !decide (a i = 0)) k hlt (fun i hi => by
          by_cases e : i = k
          · subst e; simp [hz]
          · rw [show decide (i < k + 1) = decide (i < k) by rw [Bool.eq_iff_iff]; simp only [decide_eq_true_eq]; omega, decide_eq_false e, Bool.or_false])
        have e3 : (k : Int) ≤ 16 := by omega
        have e4 : (a k != 0) = true := by simpa using hz
        generalize mb (fun i => decide (i < k) && !decide (a i = 0)) = M at *
        generalize hM2 : mb (fun i => decide (i < k + 1) && !decide (a i = 0)) = M2 at *
        have HM2 := hide' hM2
        generalize a k = ak at *
        clear hz hM2
        go_wp2
        go_quiet (fail)
        go_wp2
        exact ⟨⟨k + 1, nn + nq, by omega, by go_num, rfl, by rw [HM2.out]⟩, by simp [intOf]; omega⟩
    · have hk16 : k = 16 := by omega
      subst hk16
      rw [H16.out]
      go_wp2
      go_ret
      exact ⟨rfl, nn, rfl⟩
end Go.Proofs.Ytkipcdjadmocaaa
