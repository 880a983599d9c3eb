import Derived.Test.YtmcdifmbblbhgaaJrw
set_option linter.unusedVariables false
set_option linter.unusedSimpArgs false
namespace Go.Proofs.Ytmcdifmbblbhgaa
open Go.RowKit Go.Maps
namespace V
open U D
abbrev LU (ao : Option Addr) (l : List Nat) (w : World) : Prop := Lies 1 ao (l.map fun z : Nat => [Value.int .u16 (z : Int)]) w
set_option maxHeartbeats 4000000 in
set_option maxRecDepth 100000 in
theorem equal_any (ao bo : Option Addr) (ac bc : Nat) (xs ys : List Nat) (w : World) (h : LU ao xs w) (k : LU bo ys w) (hc : xs.length ≤ ac) (kc : ys.length ≤ bc) (hl : (xs.length : Int) ≤ 65536) (hl2 : (ys.length : Int) ≤ 9223372036854775807) :
    Calls Try.prog 56 #[.slice ao xs.length ac, .slice bo ys.length bc] w fun e w' => e = .returned (.bool (decide (xs = ys))) ∧ Below w.heap.size w w' := by
  have H := hide' h
  have K := hide' k
  clear h k
  go_enter Try.func56, Try.ntmps56
  by_cases q : xs.length = ys.length
  rotate_left
  · have q' : ¬ (xs.length : Int) = (ys.length : Int) := by omega
    have hF : Hid (decide (xs = ys) = false) := decide_eq_false (fun e => q (by rw [e]))
    clear q
    go_wp2
    go_ret
    exact ⟨ret_b hF.out.symm, Below.refl _ _⟩
  have q' : (xs.length : Int) = (ys.length : Int) := by omega
  have Q := hide' q
  clear q
  go_wp2
  clear q'
  go_loopw [5] (fun iv wx => ∃ i : Nat, iv = .int .i64 (i : Int) ∧ i ≤ xs.length ∧ Hid (∀ j, j < i → xs[j]? = ys[j]?) ∧ Hid (Below w.heap.size w wx)) (fun iv _ => xs.length - (intOf iv).toNat)
  case atStart => exact ⟨0, rfl, Nat.zero_le _, (fun j hj => by omega), Below.refl _ _⟩
  case round =>
    obtain ⟨i, rfl, hi, HN, HB⟩ := hrel
    by_cases hlt : i < xs.length
    · have hlt' : (i : Int) < (xs.length : Int) := by omega
      have hlt2 : (i : Int) < (ys.length : Int) := by have := Q.out; omega
      obtain ⟨x, hx⟩ : ∃ z, xs[i]? = some z := ⟨_, List.getElem?_eq_getElem hlt⟩
      obtain ⟨y, hy⟩ : ∃ z, ys[i]? = some z := ⟨_, List.getElem?_eq_getElem (by have := Q.out; omega)⟩
      obtain ⟨b1, o1, rfl, _, c1⟩ := (H.out.below HB.out).one hx
      obtain ⟨b2, o2, rfl, _, c2⟩ := (K.out.below HB.out).one hy
      have HX := hide' (And.intro hx hy)
      clear hx hy
      by_cases he : x = y
      · subst he
        have hs : Hid (∀ j, j < i + 1 → xs[j]? = ys[j]?) := fun j hj => by
          by_cases r : j < i
          · exact HN.out j r
          · rw [show j = i by omega, HX.out.1, HX.out.2]
        go_wp2
        go_quiet (fail)
        go_wp2
        exact ⟨⟨i + 1, by go_num, by omega, hs, HB.out.trans (bdrew _ _)⟩, by simp [intOf]; omega⟩
      · have he' : ¬ (x : Int) = (y : Int) := by omega
        have hF : Hid (decide (xs = ys) = false) := decide_eq_false (fun e => he (by have a := HX.out.1; rw [e, HX.out.2] at a; exact (Option.some.inj a).symm))
        clear he
        go_wp2
        go_quiet (fail)
        go_wp2
        go_ret
        exact ⟨ret_b hF.out.symm, HB.out.trans (bdrew _ _)⟩
    · have hi' : i = xs.length := by omega
      have hlt' : ¬ (i : Int) < (xs.length : Int) := by omega
      have hT : Hid (decide (xs = ys) = true) := decide_eq_true (List.ext_getElem? (fun j => by
        by_cases r : j < i
        · exact HN.out j r
        · rw [List.getElem?_eq_none (by omega), List.getElem?_eq_none (by have := Q.out; omega)]))
      clear hlt hi hi'
      go_wp2
      go_ret
      exact ⟨ret_b hT.out.symm, HB.out⟩
theorem out_ge (m k : Nat) (hm : m < 65536) (hk : k ≤ 16) : out m (2 ^ k - 1) = decide (2 ^ k ≤ m) := by
  have hp : 2 ^ k ≤ 65536 := by have := Nat.pow_le_pow_right (n := 2) (by decide) hk; simpa using this
  have h0 : 0 < 2 ^ k := Nat.pow_pos (by decide)
  unfold out
  rw [u16_andNot_nat m (2 ^ k - 1) hm (by omega)]
  have e : 65535 - (2 ^ k - 1) = 2 ^ 16 - (2 ^ k - 1 + 1) := by omega
  rw [e]
  have tb : ∀ i, (m &&& (2 ^ 16 - (2 ^ k - 1 + 1))).testBit i = (m.testBit i && (decide (i < 16) && !decide (i < k))) := fun i => by
    rw [Nat.testBit_and, Nat.testBit_two_pow_sub_succ (by omega), Nat.testBit_two_pow_sub_one]
  by_cases q : 2 ^ k ≤ m
  · rw [decide_eq_true q]
    have : (m &&& (2 ^ 16 - (2 ^ k - 1 + 1))) ≠ 0 := fun z => by
      obtain ⟨i, hi, hb⟩ := Nat.exists_ge_and_testBit_of_ge_two_pow q
      have hi16 : i < 16 := by
        by_cases r : i < 16
        · exact r
        · have := Nat.testBit_lt_two_pow (x := m) (i := i) (Nat.lt_of_lt_of_le hm (by have := Nat.pow_le_pow_right (n := 2) (by decide) (show 16 ≤ i by omega); simpa using this))
          rw [this] at hb; cases hb
      have t := tb i
      rw [z, hb, decide_eq_true hi16, decide_eq_false (show ¬ i < k by omega)] at t
      simp at t
    have h2 : ¬ ((m &&& (2 ^ 16 - (2 ^ k - 1 + 1)) : Nat) : Int) = 0 := by omega
    simp only [bne, beq_eq_false_iff_ne.2 h2, Bool.not_false]
  · rw [decide_eq_false q]
    have : (m &&& (2 ^ 16 - (2 ^ k - 1 + 1))) = 0 := by
      apply Nat.eq_of_testBit_eq
      intro i
      rw [tb, Nat.zero_testBit]
      by_cases r : i < k
      · simp [r]
      · have := Nat.testBit_lt_two_pow (x := m) (i := i) (Nat.lt_of_lt_of_le (Nat.lt_of_not_le q) (Nat.pow_le_pow_right (by decide) (by omega)))
        rw [this]; rfl
    rw [this]; rfl
end V
end Go.Proofs.Ytmcdifmbblbhgaa
