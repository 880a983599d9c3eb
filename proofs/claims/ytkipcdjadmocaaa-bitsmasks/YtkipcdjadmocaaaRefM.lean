import Derived.Test.YtkipcdjadmocaaaBackW
set_option linter.unusedVariables false
set_option linter.unusedSimpArgs false
namespace Go.Proofs.Ytkipcdjadmocaaa
open Go.RowKit
/-- twice a power, as it stands in a mask -/
theorem u16_twice (z : Nat) (h : z < 32768) : IntKind.u16.wrap ((z : Int) * 2) = ((z * 2 : Nat) : Int) := by
  simp [IntKind.wrap, IntKind.signed, IntKind.bits]
  omega
theorem u16_sum (y z : Nat) (h : y + z < 65536) : IntKind.u16.wrap ((y : Int) + (z : Int)) = ((y + z : Nat) : Int) := by
  simp [IntKind.wrap, IntKind.signed, IntKind.bits]
  omega
/-- a power of two, kept whole -/
def pw (i : Nat) : Nat := 2 ^ i
theorem pw_lt (i : Nat) (h : i < 16) : pw i < 65536 := by
  have : (2 : Nat) ^ i < 2 ^ 16 := Nat.pow_lt_pow_right (by omega) h
  exact this
theorem pw_pos (i : Nat) : 0 < pw i := Nat.pow_pos (by omega)
set_option maxHeartbeats 1000000 in
set_option maxRecDepth 100000 in
theorem power_any (i : Nat) (hi : i < 16) (w : World) : Calls Try.prog 64 #[.int .i64 (i : Nat)] w fun e w' => e = .returned (.int .u16 (pw i : Nat)) ∧ w' = w := by
  have hi' : (i : Int) < 16 := by omega
  go_enter Try.func64, Try.ntmps64
  go_wp2
  go_loopw [3, 4] (fun p k wx => wx = w ∧ ∃ j z : Nat, j ≤ i ∧ k = .int .i64 (j : Int) ∧ p = .int .u16 (z : Nat) ∧ z = pw j) (fun _ k _ => i - (intOf k).toNat)
  case atStart => exact ⟨rfl, 0, 1, by omega, rfl, rfl, rfl⟩
  case round =>
    obtain ⟨rfl, j, z, hj, rfl, rfl, hz⟩ := hrel
    have HZ := hide' hz
    by_cases hlt : j < i
    · have hlt' : (j : Int) < (i : Int) := by omega
      have hp : (2 : Nat) ^ j < 2 ^ 15 := Nat.pow_lt_pow_right (by omega) (by omega)
      have hb : z < 32768 := by rw [hz]; unfold pw; exact hp
      have hw := u16_twice z hb
      clear hz hp
      go_wp2
      exact ⟨⟨trivial, j + 1, z * 2, by omega, by go_num, by first | rfl | simp, by rw [HZ.out]; exact (Nat.pow_succ 2 j).symm⟩, by simp [intOf]; omega⟩
    · have hji : j = i := by omega
      subst hji
      have hlt' : ¬ (j : Int) < (j : Int) := by omega
      clear hz
      go_wp2
      go_ret
      exact ⟨by rw [HZ.out]; rfl, rfl⟩
/-- whether a mask holds a number -/
def holdsB (m : Nat) (i : Int) : Bool := if 0 ≤ i ∧ i < 16 then m.testBit i.toNat else false
theorem holds_bit (m i : Nat) (hi : i < 16) (hm : m < 65536) : ((IntKind.u16.wrap ((m : Int) / (pw i : Nat))).tmod 2 == 1) = m.testBit i := by
  have hq : m / pw i ≤ m := Nat.div_le_self _ _
  have hw : IntKind.u16.wrap ((m : Int) / (pw i : Nat)) = ((m / pw i : Nat) : Int) := by
    rw [← Int.natCast_ediv]
    generalize m / pw i = z at *
    simp [IntKind.wrap, IntKind.signed, IntKind.bits]
    omega
  rw [hw, show (2 : Int) = ((2 : Nat) : Int) by rfl, ← Int.ofNat_tmod, Nat.testBit_eq_decide_div_mod_eq]
  unfold pw
  generalize m / 2 ^ i % 2 = z
  rw [Bool.eq_iff_iff]
  simp only [beq_iff_eq, decide_eq_true_eq]
  omega
set_option maxHeartbeats 1000000 in
set_option maxRecDepth 100000 in
theorem holds_any (m : Nat) (i : Int) (hm : m < 65536) (w : World) : Calls Try.prog 46 #[.int .u16 (m : Nat), .int .i64 i] w fun e w' => e = .returned (.bool (holdsB m i)) ∧ w' = w := by
  by_cases h0 : 0 ≤ i
  · by_cases h1 : i < 16
    · obtain ⟨j, rfl⟩ : ∃ j : Nat, i = (j : Int) := ⟨i.toNat, by omega⟩
      have hb : holdsB m (j : Int) = m.testBit j := by unfold holdsB; rw [if_pos ⟨h0, h1⟩]; rfl
      rw [hb]
      have hB := holds_bit m j (by omega) hm
      have hp := pw_lt j (by omega)
      have hp0 := pw_pos j
      have Hp := hide' (fun w => power_any j (by omega) w)
      generalize pw j = P at *
      have e1 : decide (0 ≤ (j : Int)) = true := by simp
      have e2 : decide ((j : Int) < 16) = true := by simpa using h1
      have e3 : ((P : Int) == 0) = false := by simp; omega
      clear hb
      go_enter Try.func46, Try.ntmps46
      go_wp2_with fail
      refine (Hp.out _).mono ?_
      rintro e w1 ⟨rfl, rfl⟩
      go_wp2_with fail
      go_ret
      exact ⟨by first | rfl | (rw [← hB]; rfl), rfl⟩
    · have hb : holdsB m i = false := by unfold holdsB; rw [if_neg (by omega)]
      rw [hb]
      have e1 : decide (0 ≤ i) = true := by simpa using h0
      have e2 : decide (i < 16) = false := by simpa using h1
      go_enter Try.func46, Try.ntmps46
      go_wp2_with fail
      go_ret
      exact ⟨rfl, rfl⟩
  · have hb : holdsB m i = false := by unfold holdsB; rw [if_neg (by omega)]
    rw [hb]
    have e1 : decide (0 ≤ i) = false := by simpa using h0
    go_enter Try.func46, Try.ntmps46
    go_wp2_with fail
    go_ret
    exact ⟨rfl, rfl⟩
/-- a mask's sum -/
theorem mb_add (p q : Nat → Bool) (j : Nat) (hj : j < 16) (hp : ∀ i, j ≤ i → p i = false) (h : ∀ i, i < 16 → q i = (p i || decide (i = j))) : mb p + pw j = mb q := by
  rw [← mb_or_nat p q j hj h]
  have hl : mb p < 2 ^ j := Nat.lt_pow_two_of_testBit _ (fun i hi => by rw [mb_bit, hp i hi, Bool.and_false])
  have e := Nat.two_pow_add_eq_or_of_lt hl 1
  unfold pw
  rw [Nat.mul_one] at e
  rw [Nat.or_comm, ← e, Nat.add_comm]
/-- the first of them -/
def upTo (p : Nat → Bool) (k : Nat) : Nat → Bool := fun i => decide (i < k) && p i
theorem upTo_zero (p : Nat → Bool) : mb (upTo p 0) = 0 := by
  apply Nat.eq_of_testBit_eq
  intro i
  rw [mb_bit]; simp [upTo]
theorem upTo_all (p : Nat → Bool) : mb (upTo p 16) = mb p := mb_congr fun i hi => by simp [upTo, hi]
theorem upTo_no (p : Nat → Bool) (k : Nat) (h : p k = false) : mb (upTo p (k + 1)) = mb (upTo p k) := mb_congr fun i hi => by
  unfold upTo
  by_cases e : i = k
  · subst e; simp [h]
  · rw [show decide (i < k + 1) = decide (i < k) by rw [Bool.eq_iff_iff]; simp only [decide_eq_true_eq]; omega]
theorem upTo_yes (p : Nat → Bool) (k : Nat) (hk : k < 16) (h : p k = true) : mb (upTo p k) + pw k = mb (upTo p (k + 1)) := mb_add _ _ k hk (fun i hi => by simp [upTo]; omega) (fun i hi => by
  unfold upTo
  by_cases e : i = k
  · subst e; simp [h]
  · rw [show decide (i < k + 1) = decide (i < k) by rw [Bool.eq_iff_iff]; simp only [decide_eq_true_eq]; omega, decide_eq_false e, Bool.or_false])
theorem inM_step (ns : List Int) (k i : Nat) (h : k < ns.length) : inM (ns.take (k + 1)) i = (inM (ns.take k) i || (ns.getD k 0 == (i : Int))) := by
  have e : ns.getD k 0 = ns[k] := by simp [List.getD, List.getElem?_eq_getElem h]
  rw [e]
  unfold inM
  rw [List.take_succ_eq_append_getElem h]
  rw [Bool.eq_iff_iff]
  simp only [decide_eq_true_eq, Bool.or_eq_true, List.mem_append, List.mem_singleton, beq_iff_eq]
  constructor <;> (intro h; rcases h with h | h) <;> simp [h]
set_option maxHeartbeats 1000000 in
set_option maxRecDepth 100000 in
theorem rmask_any (a : Option Addr) (len cap : Nat) (ns : List Int) (w : World) (h : IsInts w a len cap ns) : Calls Try.prog 48 #[.slice a len cap] w fun e w' => e = .returned (.int .u16 (mb (inM ns) : Nat)) ∧ w' = w := by
  obtain ⟨h1, h2, h3, h4⟩ := h
  unfold maxLen at h2
  have Hp := hide' (fun i hi w => power_any i hi w)
  have Hall : Hid (ns.take len = ns) := List.take_of_length_le (by omega)
  have H0 := hide' (upTo_zero (inM ns))
  have H16 := hide' (upTo_all (inM ns))
  have Hn := hide' (upTo_no (inM ns))
  have Hy := hide' (upTo_yes (inM ns))
  have Hlt := hide' (fun k => mb_lt (upTo (inM ns) k))
  have Hc : Hid (∀ j, j < len → ∃ b off, a = some ⟨b, off, none⟩ ∧ w.cell? ⟨b, off + j, none⟩ = some (.int .i64 (ns.getD j 0))) := fun j hj => by
    rcases h4 with rfl | ⟨b, off, rfl, hb, hc⟩
    · exfalso
      have := h3
      first | omega | (simp at *; omega)
    · exact ⟨b, off, rfl, hc j hj⟩
  have Hs := hide' (fun k i (h : k < ns.length) => inM_step ns k i h)
  have Hlen := hide' h3
  clear h4 h3
  go_enter Try.func48, Try.ntmps48
  go_wp2
  go_loopw [3, 4] (fun m i wx => wx = w ∧ ∃ k : Nat, k ≤ 16 ∧ i = .int .i64 (k : Int) ∧ m = .int .u16 (mb (upTo (inM ns) k) : Nat)) (fun _ i _ => 16 - (intOf i).toNat)
  case atStart => exact ⟨rfl, 0, by omega, rfl, by rw [H0.out]; rfl⟩
  case round =>
    obtain ⟨rfl, k, hk, rfl, rfl⟩ := hrel
    by_cases hlt : k < 16
    · have hlt' : (k : Int) < 16 := by omega
      go_wp2
      go_loopw [5, 6] (fun b i wx => wx = wr ∧ ∃ j : Nat, j ≤ len ∧ i = .int .i64 (j : Int) ∧ b = .bool (inM (ns.take j) k)) (fun _ i _ => len - (intOf i).toNat)
      case atStart => exact ⟨rfl, 0, by omega, rfl, by rw [List.take_zero]; simp [inM]⟩
      case round =>
        obtain ⟨rfl, j, hj, rfl, rfl⟩ := hrel
        by_cases hjl : j < len
        · have hjl' : (j : Int) < (len : Int) := by omega
          obtain ⟨b, off, rfl, cw⟩ := Hc.out j hjl
          have hst := Hs.out j k (by rw [Hlen.out]; exact hjl)
          generalize ns.getD j 0 = z at *
          have HS := hide' hst
          clear hst
          cases hb : inM (ns.take j) k
          · go_wp2
            exact ⟨⟨trivial, j + 1, by omega, by go_num, by rw [HS.out, hb]; simp⟩, by simp [intOf]; omega⟩
          · go_wp2
            exact ⟨⟨trivial, j + 1, by omega, by go_num, by rw [HS.out, hb]; simp⟩, by simp [intOf]; omega⟩
        · have hjl2 : j = len := by omega
          subst hjl2
          have hjl' : ¬ (j : Int) < (j : Int) := by omega
          rw [Hall.out]
          cases hb : inM ns k
          · have HM := hide' (Hn.out k hb)
            clear hb
            go_wp2
            exact ⟨⟨trivial, k + 1, by omega, by go_num, by rw [HM.out]⟩, by simp [intOf]; omega⟩
          · have hy := Hy.out k hlt hb
            have hl := Hlt.out (k + 1)
            rw [← hy] at hl
            have hu := u16_sum _ _ hl
            have HY := hide' hy
            have HP := hide' (fun w => Hp.out k hlt w)
            clear hb hy hl
            generalize mb (upTo (inM ns) k) = M at *
            generalize pw k = P at *
            go_wp2_with fail
            refine (HP.out _).mono ?_
            rintro e w1 ⟨rfl, rfl⟩
            go_wp2_with fail
            exact ⟨⟨trivial, k + 1, by omega, by go_num, by rw [← HY.out]; first | rfl | simp⟩, by simp [intOf]; omega⟩
    · have hk16 : k = 16 := by omega
      subst hk16
      rw [H16.out]
      go_wp2
      go_ret
      exact ⟨rfl, rfl⟩
end Go.Proofs.Ytkipcdjadmocaaa
