import Derived.Test.YtfkoacjfihaajaaAlP
import Derived.Test.YtfkoacjfihaajaaMeB
import Derived.Laws.ComplexArith
set_option linter.unusedVariables false
set_option linter.unusedSimpArgs false
namespace Go.Proofs.Ytfkoacjfihaajaa
open Go.RowKit
namespace N
open Fl M
theorem xor_top {r : Nat} (h : r < 2 ^ 63) : r ^^^ 2 ^ 63 = 2 ^ 63 + r := by
  apply Nat.eq_of_testBit_eq
  intro i
  rw [Nat.testBit_xor, Nat.testBit_two_pow]
  rcases Nat.lt_trichotomy i 63 with k | k | k
  · rw [Nat.testBit_two_pow_add_gt k, show decide (63 = i) = false by simp; omega]; simp
  · subst k
    rw [Nat.testBit_two_pow_add_eq]; simp
  · have h1 : r.testBit i = false := Nat.testBit_lt_two_pow (Nat.lt_of_lt_of_le h (Nat.pow_le_pow_right (by omega) (by omega)))
    have h2 : (2 ^ 63 + r).testBit i = false := Nat.testBit_lt_two_pow (Nat.lt_of_lt_of_le (show 2 ^ 63 + r < 2 ^ 64 by omega) (Nat.pow_le_pow_right (by omega) (by omega)))
    rw [h1, h2, show decide (63 = i) = false by simp; omega]; rfl
theorem d_sign : Ieee.double.signWeight = 2 ^ 63 := by decide
theorem neg_word {s : Bool} {r : Nat} (h : r < 2 ^ 63) : Op.negFloat .f64 (Ieee.double.word s r) = Ieee.double.word (!s) r := by
  show (Ieee.double.word s r) ^^^ 2 ^ 63 = _
  cases s
  · show r ^^^ 2 ^ 63 = Ieee.double.signWeight + r
    rw [d_sign, xor_top h]
  · show (Ieee.double.signWeight + r) ^^^ 2 ^ 63 = r
    rw [d_sign, ← xor_top h, Nat.xor_assoc, Nat.xor_self, Nat.xor_zero]
theorem neg_fin {x : Nat} {v : Int} (h : Fin x v) : Fin (Op.negFloat .f64 x) (-v) := by
  obtain ⟨s, r, rfl, hr, rfl⟩ := h.ex
  rw [neg_word (by omega)]
  refine ⟨!s, r, rfl, hr, ?_⟩
  cases s <;> simp [sg]
/-- the parts of a power of i -/
def cr (m : Int) : Int := if m % 4 = 0 then 1 else if m % 4 = 2 then -1 else 0
def ci (m : Int) : Int := if m % 4 = 1 then 1 else if m % 4 = 3 then -1 else 0
def re (l : List Int) : Int := (l.map cr).sum
def im (l : List Int) : Int := (l.map ci).sum
theorem re_add (l r : List Int) : re (l ++ r) = re l + re r := by unfold re; rw [List.map_append, List.sum_append]
theorem im_add (l r : List Int) : im (l ++ r) = im l + im r := by unfold im; rw [List.map_append, List.sum_append]
theorem re_one (m : Int) : re [m] = cr m := by simp [re]
theorem im_one (m : Int) : im [m] = ci m := by simp [im]
theorem four_ways (m : Int) : m % 4 = 0 ∧ cr m = 1 ∧ ci m = 0 ∨ m % 4 = 1 ∧ cr m = 0 ∧ ci m = 1 ∨ m % 4 = 2 ∧ cr m = -1 ∧ ci m = 0 ∨ m % 4 = 3 ∧ cr m = 0 ∧ ci m = -1 := by
  have h1 := Int.emod_nonneg m (b := 4) (by omega)
  have h2 := Int.emod_lt_of_pos m (b := 4) (by omega)
  unfold cr ci
  have : m % 4 = 0 ∨ m % 4 = 1 ∨ m % 4 = 2 ∨ m % 4 = 3 := by omega
  rcases this with q | q | q | q <;> simp [q]
/-- as many as there are, at most -/
theorem size_le : ∀ l : List Int, (re l).natAbs + (im l).natAbs ≤ l.length
  | [] => by simp [re, im]
  | m :: l => by
    have ih := size_le l
    have e1 : re (m :: l) = cr m + re l := by simp [re]
    have e2 : im (m :: l) = ci m + im l := by simp [im]
    rw [e1, e2, List.length_cons]
    rcases four_ways m with ⟨_, h1, h2⟩ | ⟨_, h1, h2⟩ | ⟨_, h1, h2⟩ | ⟨_, h1, h2⟩ <;> rw [h1, h2] <;> omega
theorem and3 (m : Int) : bits .and .i64 m 3 = m % 4 := by
  unfold bits
  show IntKind.i64.wrap ((BitVec.ofInt 64 m &&& BitVec.ofInt 64 3).toNat : Int) = _
  have h : (BitVec.ofInt 64 m &&& BitVec.ofInt 64 3).toNat = (m % 4).toNat := by
    rw [BitVec.toNat_and, show (BitVec.ofInt 64 3).toNat = 2 ^ 2 - 1 by decide, Nat.and_two_pow_sub_one_eq_mod, BitVec.toNat_ofInt]
    omega
  rw [h]
  have h1 := Int.emod_nonneg m (b := 4) (by omega)
  have h2 := Int.emod_lt_of_pos m (b := 4) (by omega)
  simp only [IntKind.wrap_i64]
  omega
theorem one_fin : Fin 4607182418800017408 (1 * (Q : Int)) := by
  have := int_fin (n := 1) (by decide)
  rw [show FloatKind.f64.nearest (1 : Int) = 4607182418800017408 by decide +kernel] at this
  exact this
theorem mone_fin : Fin 13830554455654793216 (-1 * (Q : Int)) := by
  have := int_fin (n := -1) (by decide)
  rw [show FloatKind.f64.nearest (-1 : Int) = 13830554455654793216 by decide +kernel] at this
  exact this
theorem zero_fin : Fin 0 (0 * (Q : Int)) := by rw [Int.zero_mul]; exact fin_zero
set_option maxRecDepth 100000 in
set_option maxHeartbeats 1000000 in
theorem turn_any (m : Int) (w : World) : Calls Try.prog 40 #[.int .i64 m] w fun e w' => ∃ A B : Nat, e = .returned (.complex .f64 A B) ∧ Hid (Fin A (cr m * (Q : Int)) ∧ Fin B (ci m * (Q : Int))) ∧ w' = w := by
  have ha := and3 m
  rcases four_ways m with ⟨h, h1, h2⟩ | ⟨h, h1, h2⟩ | ⟨h, h1, h2⟩ | ⟨h, h1, h2⟩ <;> rw [h1, h2] <;> rw [h] at ha <;> clear h h1 h2
  · go_enter Try.func40, Try.ntmps40
    go_wp2
    go_ret
    exact ⟨_, _, rfl, hide' ⟨one_fin, zero_fin⟩, rfl⟩
  · go_enter Try.func40, Try.ntmps40
    go_wp2
    go_ret
    exact ⟨_, _, rfl, hide' ⟨zero_fin, one_fin⟩, rfl⟩
  · go_enter Try.func40, Try.ntmps40
    go_wp2
    go_ret
    exact ⟨_, _, rfl, hide' ⟨mone_fin, zero_fin⟩, rfl⟩
  · go_enter Try.func40, Try.ntmps40
    go_wp2
    go_ret
    exact ⟨_, _, rfl, hide' ⟨zero_fin, mone_fin⟩, rfl⟩
theorem run_cadd {a b c d x y : Nat} (h1 : Ieee.double.add a c = some x) (h2 : Ieee.double.add b d = some y) (w : World) : (binOp .add 51 (.complex .f64 a b) (.complex .f64 c d)).run Try.prog w = .ok (.complex .f64 x y) w := by
  refine run_complex_sum w .add (.inl rfl) 51 .f64 a b c d x y ?_
  show (Ieee.double.add a c).bind (fun re => (Ieee.double.add b d).bind fun im => some (re, im)) = some (x, y)
  rw [h1, h2]; rfl
theorem add_int {x y : Nat} {a b : Int} (hx : Fin x (a * (Q : Int))) (hy : Fin y (b * (Q : Int))) (h : (a + b).natAbs ≤ 9007199254740991) : ∃ r, Ieee.double.add x y = some r ∧ Fin r ((a + b) * (Q : Int)) := by
  have := add_ex hx hy (by rw [← Int.add_mul]; exact rep_int h)
  rw [← Int.add_mul] at this
  exact this
theorem take_le (l : List Int) (k : Nat) : (re (l.take k)).natAbs + (im (l.take k)).natAbs ≤ k := by
  have := size_le (l.take k)
  rw [List.length_take] at this
  omega
set_option maxRecDepth 100000 in
set_option maxHeartbeats 2000000 in
theorem compass_any (a : Option Addr) (cap : Nat) (l : List Int) (w : World) (hI : Rw 1 iarr w a l) (hl : l.length ≤ 17592186044000) :
    Calls Try.prog 27 #[.slice a l.length cap] w fun e w' => ∃ X Y : Nat, e = .returned (.complex .f64 X Y) ∧ Hid (Fin X (re l * (Q : Int)) ∧ Fin Y (im l * (Q : Int))) ∧ w' = w := by
  have HI := hide' hI
  have HL := hide' hl
  clear hI hl
  go_enter Try.func27, Try.ntmps27
  go_wp2_with fail
  go_loopw [3, 8] (fun s i wx => ∃ k X Y : Nat, s = .complex .f64 X Y ∧ i = .int .i64 (k : Int) ∧ k ≤ l.length ∧ Fin X (re (l.take k) * (Q : Int)) ∧ Fin Y (im (l.take k) * (Q : Int)) ∧ wx = w) (fun _ i _ => l.length - (intOf i).toNat)
  case atStart => exact ⟨0, 0, 0, rfl, rfl, Nat.zero_le _, zero_fin, zero_fin, rfl⟩
  case round =>
    obtain ⟨k, X, Y, rfl, rfl, hk, hX, hY, rfl⟩ := hrel
    by_cases hlt : k < l.length
    · have hlt' : (k : Int) < (l.length : Int) := by omega
      obtain ⟨z, hz⟩ : ∃ z, l[k]? = some z := ⟨_, List.getElem?_eq_getElem hlt⟩
      obtain ⟨b, off, rfl, hb, c0⟩ := icell HI.out hz
      have C := hide' (turn_any z wr)
      have HXY := hide' (And.intro hX hY)
      have Hz := hide' hz
      have Hlt := hide' hlt
      have hkb := HL.out
      have e1 := hide' (wsucN k (by omega))
      clear hX hY hz hb hlt hk hkb
      go_wp2_with fail
      refine C.out.mono ?_
      rintro e w2 ⟨A, B, rfl, HAB, rfl⟩
      have s1 := take_le l (k + 1)
      rw [take_one Hz.out, re_add, im_add, re_one, im_one] at s1
      have hkb := HL.out
      have hkl := Hlt.out
      obtain ⟨x', a1, f1⟩ := add_int HXY.out.1 HAB.out.1 (by omega)
      obtain ⟨y', a2, f2⟩ := add_int HXY.out.2 HAB.out.2 (by omega)
      have hr := fun w => run_cadd a1 a2 w
      have HF : Hid (Fin x' (re (l.take (k + 1)) * (Q : Int)) ∧ Fin y' (im (l.take (k + 1)) * (Q : Int))) := hide' (by rw [take_one Hz.out, re_add, im_add, re_one, im_one]; exact ⟨f1, f2⟩)
      clear a1 a2 f1 f2 s1 hkb hkl HAB HXY C Hz
      go_wp2
      exact ⟨⟨k + 1, x', y', rfl, by first | rfl | (rw [e1.out]), Hlt.out, HF.out.1, HF.out.2, trivial⟩, by first | exact msr' Hlt.out _ rfl | (exact msr' Hlt.out _ (e1.out.trans (by omega)))⟩
    · obtain rfl : k = l.length := by omega
      rw [List.take_length] at hX hY
      have HXY := hide' (And.intro hX hY)
      clear hX hY hlt hk
      go_wp2
      go_ret
      exact ⟨X, Y, rfl, hide' HXY.out, rfl⟩
end N
end Go.Proofs.Ytfkoacjfihaajaa
