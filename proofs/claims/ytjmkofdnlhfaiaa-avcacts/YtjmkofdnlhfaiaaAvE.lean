import Derived.Test.YtjmkofdnlhfaiaaAvH
import Derived.ChangeKeysEq
set_option linter.unusedVariables false
set_option linter.unusedSimpArgs false
namespace Go.Proofs.Ytjmkofdnlhfaiaa
open Go.RowKit
namespace C
theorem fof76 : Try.prog.underlying 76 = some (.struct (Try.prog.fieldsOf 76)) := by kernel_rfl
theorem hld76 : Try.prog.stoodInHeld 76 = false := by kernel_rfl
theorem grd76 : Try.prog.eqGuardType Try.prog.depth 76 = false := by kernel_rfl
theorem info3 : (Try.prog.info? 3).map (fun i => (i.zero, i.size, i.bytes)) = some (some (.int .i64 0), 1, 8) := by kernel_rfl
theorem cells3' : Try.prog.cellsOf 3 = 1 := by kernel_rfl
theorem part3 (xs : Array Value) (j : Nat) (v : Value) (w : World) (h : xs[j]? = some v) : (part 3 xs j).run Try.prog w = .ok v w := run_part_plain (P := Try.prog) (e := 3) w (show Try.prog.plainKey 3 = true by kernel_rfl) h
theorem eq_i64 (d : Nat) (a b : Int) (w : World) : (Op.equalIn (d + 1) 3 (.int .i64 a) (.int .i64 b)).run Try.prog w = .ok (decide (a = b)) w := by
  simp only [Op.equalIn, Sem.run_bind, run_underlying Try.underlying3, Result.andThen_ok]
  by_cases h : a = b <;> simp [h]
set_option maxRecDepth 100000 in
/-- two arrays of three -/
theorem eq70 (d : Nat) (a b c a' b' c' : Int) (w : World) : (Op.equalIn (d + 2) 70 (.agg #[.int .i64 a, .int .i64 b, .int .i64 c]) (.agg #[.int .i64 a', .int .i64 b', .int .i64 c'])).run Try.prog w = .ok (decide (a = a' ∧ b = b' ∧ c = c')) w := by
  obtain ⟨i0, hi, hz0, hz1, hz2⟩ := info_parts info3
  rw [run_equalIn_array (P := Try.prog) w (d + 1) (t := 70) (e := 3) (n := 3) (i := i0) _ _ Try.underlying70 hi, cells3', show List.range 3 = [0, 1, 2] from rfl]
  have h0 := fun w => part3 #[.int .i64 a, .int .i64 b, .int .i64 c] 0 (.int .i64 a) w rfl
  have h1 := fun w => part3 #[.int .i64 a, .int .i64 b, .int .i64 c] 1 (.int .i64 b) w rfl
  have h2 := fun w => part3 #[.int .i64 a, .int .i64 b, .int .i64 c] 2 (.int .i64 c) w rfl
  have g0 := fun w => part3 #[.int .i64 a', .int .i64 b', .int .i64 c'] 0 (.int .i64 a') w rfl
  have g1 := fun w => part3 #[.int .i64 a', .int .i64 b', .int .i64 c'] 1 (.int .i64 b') w rfl
  have g2 := fun w => part3 #[.int .i64 a', .int .i64 b', .int .i64 c'] 2 (.int .i64 c') w rfl
  simp only [Op.eqItems, Sem.run_bind, Nat.mul_one, h0, h1, h2, g0, g1, g2, Result.andThen_ok, eq_i64]
  by_cases e1 : a = a'
  · subst e1
    by_cases e2 : b = b'
    · subst e2
      by_cases e3 : c = c'
      · simp [e3, h1, h2, g1, g2, eq_i64]
      · simp [e3, h1, h2, g1, g2, eq_i64]
    · simp [e2, h1, h2, g1, g2, eq_i64]
  · simp [e1, h1, h2, g1, g2, eq_i64]
set_option maxRecDepth 100000 in
theorem flds76 (d : Nat) (a b c e : Int) (h g k : Bool) (w : World) : (Op.eqFields (d + 2) #[.bool h, .int .i64 a, .int .i64 b, .int .i64 c, .int .i64 e, .bool g, .bool k] #[.bool false, .int .i64 0, .int .i64 0, .int .i64 0, .int .i64 0, .bool false, .bool false] (Try.prog.fieldsOf 76).toList).run Try.prog w = .ok (decide (h = false ∧ (a = 0 ∧ b = 0 ∧ c = 0) ∧ e = 0 ∧ g = false ∧ k = false)) w := by
  have h1 : (Try.prog.fieldsOf 76) = (match Try.prog.underlying 76 with | some (.struct fs) => fs | _ => #[]) := rfl
  rw [h1, Try.underlying76]
  simp [Op.eqFields, go_sem, Try.underlying3, Try.underlying4, eq70]
  cases h <;> simp
  by_cases e1 : a = 0 ∧ b = 0 ∧ c = 0
  · obtain ⟨rfl, rfl, rfl⟩ := e1
    by_cases e2 : e = 0
    · cases g <;> cases k <;> simp [e2]
    · simp [e2]
  · by_cases q1 : a = 0
    · by_cases q2 : b = 0
      · by_cases q3 : c = 0
        · exact absurd ⟨q1, q2, q3⟩ e1
        · simp [q1, q2, q3]
      · simp [q1, q2]
    · simp [q1]
/-- is a place the empty one? -/
theorem struct76 (d : Option De) (w : World) : (binOp .eql 76 (.agg (pcs d).toArray) (.agg #[.bool false, .int .i64 0, .int .i64 0, .int .i64 0, .int .i64 0, .bool false, .bool false])).run Try.prog w = .ok (.bool d.isNone) w := by
  rw [run_eql_struct]
  have : ∀ x y, _ := fun x y => run_equalIn_agg (P := Try.prog) w 9999 76 x y fof76 hld76
  cases d with
  | none =>
    rw [show (10000 : Nat) = 9999 + 1 from rfl]
    show ((Op.equalIn (9999 + 1) 76 (.agg #[.bool false, .int .i64 0, .int .i64 0, .int .i64 0, .int .i64 0, .bool false, .bool false]) _).run _ w).andThen _ = _
    rw [this, show (9999 : Nat) = 9997 + 2 from rfl, flds76]
    rfl
  | some d =>
    rw [show (10000 : Nat) = 9999 + 1 from rfl]
    show ((Op.equalIn (9999 + 1) 76 (.agg #[.bool true, .int .i64 d.t.s, .int .i64 d.t.o, .int .i64 d.t.a, .int .i64 d.tag, .bool d.al, .bool d.mr]) _).run _ w).andThen _ = _
    rw [this, show (9999 : Nat) = 9997 + 2 from rfl, flds76]
    simp
end C
end Go.Proofs.Ytjmkofdnlhfaiaa
