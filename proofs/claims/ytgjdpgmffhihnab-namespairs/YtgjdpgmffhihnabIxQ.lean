import Derived.Test.YtgjdpgmffhihnabIxP
set_option linter.unusedVariables false
set_option linter.unusedSimpArgs false
namespace Go.Proofs.Ytgjdpgmffhihnab
open Go.RowKit Go.Maps
namespace Q
theorem flat_at0 (zs : List (Int × Int)) (j : Nat) : (zs.flatMap cells)[j * 2]? = (zs[j]?).map (fun k => Value.int .i64 k.1) := by
  induction zs generalizing j with
  | nil => simp
  | cons a r ih => cases j with
    | zero => simp [cells]
    | succ j =>
      rw [show (j + 1) * 2 = j * 2 + 1 + 1 from by omega]
      simpa [cells] using ih j
theorem flat_at1 (zs : List (Int × Int)) (j : Nat) : (zs.flatMap cells)[j * 2 + 1]? = (zs[j]?).map (fun k => Value.int .i64 k.2) := by
  induction zs generalizing j with
  | nil => simp
  | cons a r ih => cases j with
    | zero => simp [cells]
    | succ j =>
      rw [show (j + 1) * 2 + 1 = j * 2 + 1 + 1 + 1 from by omega]
      simpa [cells] using ih j
theorem row_at {B : Nat} {a : Addr} {cap N : Nat} {zs : List (Int × Int)} {w : World} (h : w.ownsRow B 25 2 (.slice (some a) N cap) N (zs.flatMap cells)) (j : Nat) (k : Int × Int) (hj : zs[j]? = some k) :
    a = ⟨a.block, 0, none⟩ ∧ w.cell? ⟨a.block, j * 2, none⟩ = some (.int .i64 k.1) ∧ w.cell? ⟨a.block, j * 2 + 1, none⟩ = some (.int .i64 k.2) := by
  rcases h.2 with ⟨hv, _⟩ | ⟨g, cap', cur, hv, hb, hg, h1, h2, h3, h4⟩
  · cases hv
  · simp only [Value.slice.injEq, Option.some.injEq] at hv
    obtain ⟨rfl, _, rfl⟩ := hv
    have e1 := flat_at0 zs j
    have e2 := flat_at1 zs j
    have lt : ∀ i, (zs.flatMap cells)[i]? ≠ none → i < N * 2 := by
      intro i hi
      have hl := h.1
      rcases Nat.lt_or_ge i (N * 2) with q | q
      · exact q
      · exact absurd (List.getElem?_eq_none (by omega)) hi
    rw [hj] at e1 e2
    have l1 := lt _ (by rw [e1]; simp)
    have l2 := lt _ (by rw [e2]; simp)
    refine ⟨rfl, ?_, ?_⟩
    · rw [Lib.cell_of_heap hg]
      rw [← h4, List.getElem?_take_of_lt l1, Array.getElem?_toList] at e1
      exact e1
    · rw [Lib.cell_of_heap hg]
      rw [← h4, List.getElem?_take_of_lt l2, Array.getElem?_toList] at e2
      exact e2

set_option maxRecDepth 100000 in
set_option maxHeartbeats 1000000 in
theorem at_yes (B x bm : Nat) (ao : Option Addr) (cap : Nat) (zs : List (Int × Int)) (n : Int) (k : Int × Int) (w : World) (h : IxQ B x bm ao cap zs w) (h1 : 1 ≤ n) (h2 : n ≤ (zs.length : Int)) (hm : (zs.length : Int) ≤ 1048576) (hk : zs[(n - 1).toNat]? = some k) :
    Calls Try.prog 10 #[.pointer (some ⟨x, 0, none⟩), .int .i64 n] w fun e w' => e = .returned (.tuple #[.agg #[.int .i64 k.1, .int .i64 k.2], .bool true]) ∧ Turn (fun _ => False) w w' := by
  have c0 := h.c0
  have hrow := h.row
  have hlx := h.lt
  cases ao with
  | none =>
    rcases hrow.2 with ⟨_, h0⟩ | ⟨g, cap', cur, hv, _⟩
    · omega
    · cases hv
  | some a =>
    obtain ⟨ha, hc, hd⟩ := row_at hrow _ k hk
    have hab := (h.apart (by decide) a rfl).2.2.2
    rw [ha] at c0
    obtain ⟨m, rfl⟩ : ∃ m : Nat, n = (m : Int) + 1 := ⟨(n - 1).toNat, by omega⟩
    have e1 : ((m : Int) + 1 - 1).toNat = m := by omega
    rw [e1] at hc hd
    have hcap : zs.length ≤ cap := by
      rcases hrow.2 with ⟨_, h0⟩ | ⟨g, cap', cur, hv, _, _, h1, _⟩
      · omega
      · simp only [Value.slice.injEq] at hv; omega
    have g1 : decide ((m : Int) + 1 < 1) = false := by simp; omega
    have g2 : decide ((zs.length : Int) < (m : Int) + 1) = false := by simp; omega
    generalize a.block = g at *
    clear e1 hk ha hrow h h1
    go_enter Try.func10, Try.ntmps10
    go_wp2
    exact bodyPost_ret (v := .tuple #[.agg #[.int .i64 k.1, .int .i64 k.2], .bool true]) (by simp [results, Try.results10, go_sem]) rfl ⟨rfl, (Turn.refl _ w).alloc _⟩

set_option maxRecDepth 100000 in
set_option maxHeartbeats 1000000 in
theorem at_no (B x bm : Nat) (ao : Option Addr) (cap : Nat) (zs : List (Int × Int)) (n : Int) (w : World) (h : IxQ B x bm ao cap zs w) (h1 : n < 1 ∨ (zs.length : Int) < n) :
    Calls Try.prog 10 #[.pointer (some ⟨x, 0, none⟩), .int .i64 n] w fun e w' => e = .returned (.tuple #[.agg #[.int .i64 0, .int .i64 0], .bool false]) ∧ Turn (fun _ => False) w w' := by
  have c0 := h.c0
  have hlx := h.lt
  clear h
  by_cases q : n < 1
  · go_enter Try.func10, Try.ntmps10
    go_wp2
    exact bodyPost_ret (v := .tuple #[.agg #[.int .i64 0, .int .i64 0], .bool false]) (by simp [results, Try.results10, go_sem]) rfl ⟨rfl, (Turn.refl _ w).alloc _⟩
  · have q2 : (zs.length : Int) < n := by omega
    have g1 : decide (n < 1) = false := by simpa using q
    have g2 : decide ((zs.length : Int) < n) = true := by simpa using q2
    clear h1 q q2
    go_enter Try.func10, Try.ntmps10
    go_wp2
    exact bodyPost_ret (v := .tuple #[.agg #[.int .i64 0, .int .i64 0], .bool false]) (by simp [results, Try.results10, go_sem]) rfl ⟨rfl, (Turn.refl _ w).alloc _⟩

set_option maxRecDepth 100000 in
set_option maxHeartbeats 1000000 in
theorem len_any (B x bm : Nat) (ao : Option Addr) (cap : Nat) (zs : List (Int × Int)) (w : World) (h : IxQ B x bm ao cap zs w) :
    Calls Try.prog 11 #[.pointer (some ⟨x, 0, none⟩)] w fun e w' => e = .returned (.int .i64 zs.length) ∧ w' = w := by
  have c0 := h.c0
  clear h
  go_enter Try.func11, Try.ntmps11
  go_wp2
  go_ret
  exact ⟨rfl, rfl⟩

set_option maxRecDepth 100000 in
set_option maxHeartbeats 1000000 in
theorem new_any (w : World) :
    Calls Try.prog 6 #[] w fun e w' => e = .returned (.pointer (some ⟨w.heap.size + 1, 0, none⟩)) ∧ IxQ w.heap.size (w.heap.size + 1) w.heap.size none 0 [] w' ∧ Below w.heap.size w w' ∧ w'.heap.size = w.heap.size + 2 := by
  have hmm := @run_makeMap Try.prog
  go_enter Try.func6, Try.ntmps6
  go_wp2
  go_ret
  refine ⟨rfl, ⟨by omega, by omega, by omega, ?_, World.ownsRow_nil _ _ _ _, by simp, 0, .map [], by simp, ?_, Holds.empty _ _⟩, ((Below.refl _ _).alloc (Nat.le_refl _) _).alloc (by simp) _, by simp⟩
  · have := heap_alloc_new (w.alloc (.map #[] 0)) (.cells #[.slice none 0 0, .map (some w.heap.size)] 57)
    simpa using this
  · exact (World.ownsMap_made w Try.prog 25 _).alloc _

set_option maxRecDepth 100000 in
set_option maxHeartbeats 1000000 in
theorem all_any (B x bm : Nat) (ao : Option Addr) (cap : Nat) (zs : List (Int × Int)) (w : World) (h : IxQ B x bm ao cap zs w) :
    Calls Try.prog 12 #[.pointer (some ⟨x, 0, none⟩)] w fun e w' => e = .returned (.func (.func 23) #[] #[.pointer (some ⟨w.heap.size, 0, none⟩)]) ∧ w' = w.alloc (.cells #[.slice ao zs.length cap] 27) := by
  have c0 := h.c0
  have hlx := h.lt
  have hmf : ∀ (fn : Fn) (first cap : Array Value) (w : World), (Instr.makeFunc fn first cap).run Try.prog w = .ok (.func fn first cap) w := fun _ _ _ _ => rfl
  clear h
  go_enter Try.func12, Try.ntmps12
  go_wp2
  go_ret
  exact ⟨rfl, rfl⟩
end Q
end Go.Proofs.Ytgjdpgmffhihnab
