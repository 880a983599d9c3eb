import Derived.Test.YtjmkofdnlhfaiaaAvR
set_option linter.unusedVariables false
set_option linter.unusedSimpArgs false
namespace Go.Proofs.Ytjmkofdnlhfaiaa
open Go.RowKit
namespace C
variable {B c g n v : Nat} {b : Nat → Nat} {s : St} {w w' : World}
theorem fof31 : Try.prog.underlying 31 = some (.struct (Try.prog.fieldsOf 31)) := by kernel_rfl
theorem hld31 : Try.prog.stoodInHeld 31 = false := by kernel_rfl
theorem grd31 : Try.prog.eqGuardType Try.prog.depth 31 = false := by kernel_rfl
set_option maxRecDepth 100000 in
theorem flds31 (d : Nat) (a b c e a' b' c' e' : Int) (w : World) : (Op.eqFields (d + 1) #[.int .i64 a, .int .i64 b, .int .i64 c, .int .i64 e] #[.int .i64 a', .int .i64 b', .int .i64 c', .int .i64 e'] (Try.prog.fieldsOf 31).toList).run Try.prog w = .ok (decide (a = a' ∧ b = b' ∧ c = c' ∧ e = e')) w := by
  have h1 : (Try.prog.fieldsOf 31) = (match Try.prog.underlying 31 with | some (.struct fs) => fs | _ => #[]) := rfl
  rw [h1, Try.underlying31]
  simp [Op.eqFields, go_sem, Try.underlying3]
  by_cases h1 : a = a' <;> by_cases h2 : b = b' <;> by_cases h3 : c = c' <;> by_cases h4 : e = e' <;> simp [h1, h2, h3, h4]
theorem struct31 (a b c d a' b' c' d' : Int) (w : World) : (binOp .eql 31 (.agg #[.int .i64 a, .int .i64 b, .int .i64 c, .int .i64 d]) (.agg #[.int .i64 a', .int .i64 b', .int .i64 c', .int .i64 d'])).run Try.prog w = .ok (.bool (decide (a = a' ∧ b = b' ∧ c = c' ∧ d = d'))) w := by
  rw [run_eql_struct]
  have := run_equalIn_agg (P := Try.prog) w 9999 31 #[.int .i64 a, .int .i64 b, .int .i64 c, .int .i64 d] #[.int .i64 a', .int .i64 b', .int .i64 c', .int .i64 d'] fof31 hld31
  rw [show (10000 : Nat) = 9999 + 1 from rfl, this, show (9999 : Nat) = 9998 + 1 from rfl, flds31]
  rfl
def t5 : Tr := ⟨5, 6, 7⟩
def sA : St := pta 2 1 st0 1 t5 true
def sB : St := (gta 2 1 sA 1 t5).2.2
def sC : St := (gta 2 1 sB 2 t5).2.2
theorem al1 : (gta 2 1 sA 1 t5).1 = true ∧ (gta 2 1 sA 1 t5).2.1 = true ∧ (gta 2 1 sB 2 t5).1 = false ∧ (gta 2 1 sB 2 t5).2.1 = false := by decide +kernel
theorem al2 : sA.ev = 0 ∧ sA.hi = 0 ∧ sA.mi = 0 ∧ sB.hi = 1 ∧ sB.mi = 0 ∧ sC.hi = 1 ∧ sC.mi = 1 ∧ sC.ev = 0 ∧ hsm sC.f 1 2 = 0 := by decide +kernel
theorem al3 : rat 1 (1 + 1) = 4602678819172646912 := by kernel_rfl
theorem Own.below {w0 w : World} (h : Ca w0.heap.size c g n v b s w) (hb : Below w0.heap.size w0 w) (t : Turn (Own c g n b) w w') : Below w0.heap.size w0 w' := hb.trans (t.below (fun j hj => (h.lo hj).1) hb.size)
set_option maxRecDepth 100000 in
set_option maxHeartbeats 2000000 in
theorem alive_any (w : World) : Calls Try.prog 10 #[] w fun e w' => e = .returned (.bool true) ∧ Below w.heap.size w w' := by
  have H1 := hide' (new_no 0 1 w (by omega))
  have H2 := hide' (new_any 2 1 2 1 w rfl rfl (by omega) (by omega))
  go_enter Try.func10, Try.ntmps10
  go_wp2_with fail
  refine H1.out.mono ?_
  rintro e wa ⟨rfl, hwa⟩
  replace hwa := hwa.symm
  subst hwa
  clear H1
  go_wp2_with fail
  refine H2.out.mono ?_
  rintro e w1 ⟨c, rfl, g, b, h1, b1⟩
  have H3 : Hid (Calls Try.prog 18 #[.pointer (some ⟨c, 0, none⟩), .int .i64 1, .int .i64 5, .int .i64 6, .int .i64 7, .bool true] w1 fun e w' => e = .returned (.tuple #[]) ∧ Ca w.heap.size c g 2 1 b sA w' ∧ Below w.heap.size w w') := hide' ((put_any 1 t5 true h1 (by show 0 < _; omega)).mono fun e w' ⟨he, hc, ht⟩ => ⟨he, hc, Own.below h1 b1 ht⟩)
  clear H2 h1 b1
  go_wp2_with fail
  refine H3.out.mono ?_
  rintro e w2 ⟨rfl, h2, b2⟩
  have H4 : Hid (Calls Try.prog 19 #[.pointer (some ⟨c, 0, none⟩), .int .i64 1, .int .i64 5, .int .i64 6, .int .i64 7] w2 fun e w' => e = .returned (.tuple #[.bool true, .bool true]) ∧ Ca w.heap.size c g 2 1 b sB w' ∧ Below w.heap.size w w') := hide' ((get_any 1 t5 h2 (by rw [al2.2.1]; omega) (by rw [al2.2.2.1]; omega)).mono fun e w' ⟨he, hc, ht⟩ => ⟨by rw [he, al1.1, al1.2.1], hc, Own.below h2 b2 ht⟩)
  clear H3 h2 b2
  go_wp2_with fail
  refine H4.out.mono ?_
  rintro e w3 ⟨rfl, h3, b3⟩
  have H5 : Hid (Calls Try.prog 19 #[.pointer (some ⟨c, 0, none⟩), .int .i64 2, .int .i64 5, .int .i64 6, .int .i64 7] w3 fun e w' => e = .returned (.tuple #[.bool false, .bool false]) ∧ Ca w.heap.size c g 2 1 b sC w' ∧ Below w.heap.size w w') := hide' ((get_any 2 t5 h3 (by rw [al2.2.2.2.1]; omega) (by rw [al2.2.2.2.2.1]; omega)).mono fun e w' ⟨he, hc, ht⟩ => ⟨by rw [he, al1.2.2.1, al1.2.2.2], hc, Own.below h3 b3 ht⟩)
  clear H4 h3 b3
  go_wp2_with fail
  refine H5.out.mono ?_
  rintro e w4 ⟨rfl, h4, b4⟩
  have hh := al2.2.2.2.2.2
  have H6 : Hid (Calls Try.prog 14 #[.pointer (some ⟨c, 0, none⟩)] w4 fun e w' => e = .returned (.float .f64 4602678819172646912) ∧ Hid (Ca w.heap.size c g 2 1 b sC w' ∧ Below w.heap.size w w')) := hide' ((ratio_any h4 (by rw [hh.1, hh.2.1]; omega)).mono fun e w' ⟨he, k, hk⟩ => ⟨by rw [he, hh.1, hh.2.1, al3], hide' (by rw [hk]; exact ⟨h4.drewN k, b4.trans ((below_drewN w4 k).mono b4.size)⟩)⟩)
  clear H5 h4 b4
  have fo : (FloatKind.f64.format.order 4602678819172646912 4602678819172646912 == some .eq) = true := by kernel_rfl
  have s31 := fun w => struct31 1 1 0 0 1 1 0 0 w
  go_wp2_with fail
  refine H6.out.mono ?_
  rintro e w5 ⟨rfl, h5⟩
  have H7 : Hid (Calls Try.prog 13 #[.pointer (some ⟨c, 0, none⟩)] w5 fun e w' => e = .returned (.agg #[.int .i64 1, .int .i64 1, .int .i64 0, .int .i64 0]) ∧ Below w.heap.size w w') := hide' ((stats_any h5.out.1).mono fun e w' ⟨he, hb⟩ => ⟨by rw [he, hh.1, hh.2.1, hh.2.2.1, hh.2.2.2]; rfl, h5.out.2.trans (hb.mono h5.out.2.size)⟩)
  clear H6 h5
  go_wp2_with fail
  refine H7.out.mono ?_
  rintro e w6 ⟨rfl, b6⟩
  clear H7
  go_wp2
  go_ret
  exact ⟨rfl, b6⟩
set_option maxRecDepth 100000 in
theorem names_walk (w : World) : Calls Try.prog 3 #[] w fun e w' => e = .returned (.bool true) ∧ Below w.heap.size w w' := by
  have H1 := hide' (alive_any w)
  go_enter Try.func3, Try.ntmps3
  go_wp2_with fail
  refine H1.out.mono ?_
  rintro e w1 ⟨rfl, b1⟩
  clear H1
  go_wp2
  go_ret
  exact ⟨rfl, b1⟩
end C
end Go.Proofs.Ytjmkofdnlhfaiaa
