import Derived.Test.YtjmkofdnlhfaiaaAvE
set_option linter.unusedVariables false
set_option linter.unusedSimpArgs false
namespace Go.Proofs.Ytjmkofdnlhfaiaa
open Go.RowKit
namespace C
def Stay (p : Prop) : Prop := p
theorem stay_load {P : Program} {ops : Array Oper} {rest : List Oper} {o : Oper} {a : Act} {Q : Exit → Act → World → Prop} {w : World} (t : TypeId) (x : Operand) (ho : o.op = .load t x) (h : Stay (wpList P ops Q (o :: rest) a w)) : wpList P ops Q (o :: rest) a w := h
theorem stay_store {P : Program} {ops : Array Oper} {rest : List Oper} {o : Oper} {a : Act} {Q : Exit → Act → World → Prop} {w : World} (t : TypeId) (x y : Operand) (ho : o.op = .store t x y) (h : Stay (wpList P ops Q (o :: rest) a w)) : wpList P ops Q (o :: rest) a w := h
theorem isz76 (d : Option De) : (Try.prog.info? 76).map (·.size) = some (pcs d).length := by rw [pcs_len]; kernel_rfl
set_option maxRecDepth 100000 in
set_option maxHeartbeats 1000000 in
theorem free_any (d : Option De) (bb o : Nat) (w : World) (h : w.rangeAt bb o (pcs d)) : Calls Try.prog 33 #[.pointer (some ⟨bb, o, none⟩)] w fun e w' => e = .returned (.bool d.isNone) ∧ w' = w := by
  have hs := fun w => struct76 d w
  go_enter Try.func33, Try.ntmps33
  go_wp2_with (with_reducible refine stay_load 76 _ rfl ?_)
  unfold Stay
  refine wpList_load_mid rfl 76 _ rfl bb o rfl (pcs d) _ h Try.underlying76 rfl (isz76 d) ?_
  go_wp2
  go_ret
  exact ⟨rfl, rfl⟩
variable {B c g n v : Nat} {b : Nat → Nat} {s : St} {w w' : World}
theorem tmod_neg {k n : Int} (h : k < 0) (hn : 0 < n) : k.tmod n ≤ 0 ∧ -n < k.tmod n ∧ (k.tmod n < 0 → k % n = k.tmod n + n) ∧ (k.tmod n = 0 → k % n = 0) := by
  have e : k.tmod n = -((-k) % n) := by
    have := Int.neg_tmod (a := -k) (b := n)
    rw [Int.neg_neg] at this
    rw [this, Int.tmod_eq_emod_of_nonneg (by omega)]
  have h1 := Int.emod_nonneg (-k) (b := n) (by omega)
  have h2 := Int.emod_lt_of_pos (-k) hn
  have h3 := Int.emod_nonneg k (b := n) (by omega)
  have h4 := Int.emod_lt_of_pos k hn
  have d1 := Int.mul_ediv_add_emod k n
  have d2 := Int.mul_ediv_add_emod (-k) n
  have key : n ∣ (k % n + (-k) % n) := by
    refine ⟨-(k / n) - ((-k) / n), ?_⟩
    rw [Int.mul_sub, Int.mul_neg]
    omega
  obtain ⟨q, hq⟩ := key
  rw [e]
  generalize (-k) % n = r at *
  generalize k % n = s at *
  have hq0 : 0 ≤ q := by
    rcases Int.lt_or_le q 0 with c | c
    · have := Int.mul_le_mul_of_nonneg_left (show q ≤ -1 by omega) (Int.le_of_lt hn)
      omega
    · exact c
  have hq1 : q < 2 := by
    rcases Int.lt_or_le q 2 with c | c
    · exact c
    · have := Int.mul_le_mul_of_nonneg_left c (Int.le_of_lt hn)
      omega
  have : q = 0 ∨ q = 1 := by omega
  rcases this with rfl | rfl
  · simp at hq; refine ⟨by omega, by omega, fun _ => by omega, fun _ => by omega⟩
  · simp at hq; refine ⟨by omega, by omega, fun _ => by omega, fun _ => by omega⟩
theorem ret_int {k : IntKind} {a b : Int} (h : a = b) : Ending.returned (.int k a) = .returned (.int k b) := by rw [h]
theorem spt_neg {k n : Int} (hn : 0 < n) (h2 : n ≤ 256) (hz : k.tmod n < 0) : wrap64 (k.tmod n + n) = k % n := by
  by_cases hk : k < 0
  · obtain ⟨t1, t2, t3, t4⟩ := tmod_neg hk hn
    rw [t3 hz]
    unfold wrap64
    omega
  · rw [Int.tmod_eq_emod_of_nonneg (by omega)] at hz
    have h3 := Int.emod_nonneg k (b := n) (by omega)
    omega
theorem spt_pos {k n : Int} (hn : 0 < n) (hz : ¬ k.tmod n < 0) : k.tmod n = k % n := by
  by_cases hk : k < 0
  · obtain ⟨t1, t2, t3, t4⟩ := tmod_neg hk hn
    rw [t4 (by omega)]
    omega
  · exact Int.tmod_eq_emod_of_nonneg (by omega)
set_option maxRecDepth 100000 in
set_option maxHeartbeats 1000000 in
theorem spot_any (t : Tr) (h : Ca B c g n v b s w) : Calls Try.prog 25 #[.pointer (some ⟨c, 0, none⟩), .int .i64 t.s, .int .i64 t.o, .int .i64 t.a] w fun e w' => e = .returned (.int .i64 (spt n t : Nat)) ∧ w' = w := by
  have c0 := h.c0
  have n1 := h.n1
  have n2 := h.n2
  have hn : (0 : Int) < (n : Int) := by omega
  have Hn2 := hide' (show (n : Int) ≤ 256 by omega)
  rw [spt_eq (by omega)]
  unfold hsh
  clear h n1 n2
  go_enter Try.func25, Try.ntmps25
  go_wp2
  · rename_i hz
    go_ret
    exact ⟨ret_int (spt_neg hn Hn2.out hz), rfl⟩
  · rename_i hz
    go_ret
    exact ⟨ret_int (spt_pos hn (Int.not_lt.2 hz)), rfl⟩
set_option maxRecDepth 100000 in
set_option maxHeartbeats 1000000 in
theorem setOf_any (t : Tr) (h : Ca B c g n v b s w) : Calls Try.prog 29 #[.pointer (some ⟨c, 0, none⟩), .int .i64 t.s, .int .i64 t.o, .int .i64 t.a] w fun e w' => e = .returned (.pointer (some ⟨g, spt n t * 2, none⟩)) ∧ ∃ k, w' = w.drewN k := by
  have HC := hide' (fun m => spot_any t (h.drewN m))
  have c0 := h.c0
  have hlt : spt n t < n := spt_lt h.n1 t
  have hlt' : ((spt n t : Nat) : Int) < (n : Int) := by omega
  clear h
  generalize spt n t = i at *
  go_enter Try.func29, Try.ntmps29
  go_wp2_with fail
  go_quiet (exact Calls.quiet_of_same (HC.out _))
  go_wp2
  go_ret
  exact ⟨rfl, _, rfl⟩
end C
end Go.Proofs.Ytjmkofdnlhfaiaa
