import Derived.Test.YtihdagehenmolaaAli
set_option linter.unusedVariables false
set_option linter.unusedSimpArgs false
namespace Go.Proofs.Ytihdagehenmolaa
open Go.RowKit
namespace J
open M K
def okb (e : En) : Bool := frc e == 0
theorem okb_iff (e : En) : okb e = true ↔ e.ok := by
  unfold okb
  rw [beq_iff_eq]
  exact ⟨ok_frc, frc_ok⟩
set_option maxRecDepth 100000 in
set_option maxHeartbeats 1000000 in
theorem right_any (e : En) (w : World) : Calls Try.prog 25 #[.agg #[.int .i64 e.v, .string (sb e.t)]] w fun r w' => r = .returned (.bool (okb e)) ∧ Below w.heap.size w w' := by
  obtain ⟨v, t⟩ := e
  have z := sb_size t
  obtain ⟨n, hn⟩ : ∃ n, n = t.length := ⟨_, rfl⟩
  have key : okb ⟨v, t⟩ = (decide (1 ≤ v) && decide (v ≤ 2147483647) && decide ((n : Int) ≤ 65536)) := by
    rw [Bool.eq_iff_iff, okb_iff]
    simp only [Bool.and_eq_true, decide_eq_true_eq, hn]
    constructor
    · rintro ⟨a, b, c⟩; exact ⟨⟨a, b⟩, by simp only at c; omega⟩
    · rintro ⟨⟨a, b⟩, c⟩; exact ⟨a, b, by simp only; omega⟩
  rw [key]
  simp only
  generalize sb t = T at *
  rw [← hn] at z
  clear key hn
  by_cases h1 : 1 ≤ v
  · by_cases h2 : v ≤ 2147483647
    · by_cases h3 : (n : Int) ≤ 65536
      · rw [decide_eq_true h1, decide_eq_true h2, decide_eq_true h3]
        go_enter Try.func25, Try.ntmps25
        go_wp2
        go_ret
        exact ⟨rfl, below_al _ _⟩
      · rw [decide_eq_true h1, decide_eq_true h2, decide_eq_false h3]
        go_enter Try.func25, Try.ntmps25
        go_wp2
        go_ret
        exact ⟨rfl, below_al _ _⟩
    · rw [decide_eq_true h1, decide_eq_false h2]
      go_enter Try.func25, Try.ntmps25
      go_wp2
      go_ret
      exact ⟨rfl, below_al _ _⟩
  · rw [decide_eq_false h1]
    go_enter Try.func25, Try.ntmps25
    go_wp2
    go_ret
    exact ⟨rfl, below_al _ _⟩
/-- what fit makes of an entry -/
def ft (e : En) : En := ⟨(e.v.tmod 2147483647).natAbs + 1, e.t.take 65536⟩
theorem ft_ok (e : En) : (ft e).ok := by
  unfold ft En.ok
  simp only
  have h : (e.v.tmod 2147483647).natAbs < 2147483647 := by
    rw [Int.natAbs_tmod]
    exact Nat.mod_lt _ (by decide)
  refine ⟨by omega, by omega, by rw [List.length_take]; omega⟩
theorem heap_new2 (w : World) (a : Obj) (cs : Array Value) : ((w.alloc a).alloc (.cells cs 24)).heap[w.heap.size + 1]? = some (.cells cs 24 (0, 0)) := by
  have := heap_alloc_new (w.alloc a) (.cells cs 24)
  rw [World.size_alloc] at this
  exact this
theorem below_al2 (w : World) (a b : Obj) : Below w.heap.size w ((w.alloc a).alloc b) := (below_al w a).trans ((below_al (w.alloc a) b).mono (by simp))
set_option maxRecDepth 100000 in
set_option maxHeartbeats 1000000 in
theorem fit_any (e : En) (w : World) : Calls Try.prog 22 #[.agg #[.int .i64 e.v, .string (sb e.t)]] w fun r w' => r = .returned (.agg #[.int .i64 (ft e).v, .string (sb (ft e).t)]) ∧ Below w.heap.size w w' := by
  obtain ⟨v, t⟩ := e
  have z := sb_size t
  have hx : (sb t).extract 0 65536 = sb (t.take 65536) := by rw [sb_cut]; simp
  obtain ⟨n, hn⟩ : ∃ n, n = t.length := ⟨_, rfl⟩
  have HT : Hid (¬ (65536 < (n : Int)) → sb (t.take 65536) = sb t) := hide' (fun h => by rw [List.take_of_length_le (by omega)])
  obtain ⟨FV, hF⟩ : ∃ F, F = (ft ⟨v, t⟩).v := ⟨_, rfl⟩
  obtain ⟨T2, hT2⟩ : ∃ T, T = sb (t.take 65536) := ⟨_, rfl⟩
  have HF : Hid (FV = (v.tmod 2147483647).natAbs + 1) := hide' hF
  have HM : Hid ((v.tmod 2147483647).natAbs < 2147483647) := hide' (by
    rw [Int.natAbs_tmod]
    exact Nat.mod_lt _ (by decide))
  rw [← hF]
  rw [show (ft ⟨v, t⟩).t = t.take 65536 from rfl]
  simp only
  rw [← hn] at z
  rw [← hT2] at hx HT ⊢
  generalize sb t = T at *
  clear hn hT2 hF
  by_cases h1 : 65536 < (n : Int)
  · go_enter Try.func22, Try.ntmps22
    go_wp2
    all_goals (
      rename_i hc
      refine bodyPost_ret (results_cell_row rfl _ _ (w.heap.size + 1) 24 _ (0, 0) _ rfl (heap_new2 _ _ _) Try.underlying24 rfl (by kernel_rfl)) rfl ⟨?_, below_al2 _ _ _⟩
      rw [HF.out]
      generalize v.tmod 2147483647 = R at *
      have hmm := HM.out
      first
        | (rw [show wrap64 (wrap64 (-R) + 1) = ((R.natAbs : Nat) : Int) + 1 by unfold wrap64; omega])
        | (rw [show wrap64 (R + 1) = ((R.natAbs : Nat) : Int) + 1 by unfold wrap64; omega])
        | (rw [show R + 1 = ((R.natAbs : Nat) : Int) + 1 by omega]))
  · have hT := HT.out h1
    subst hT
    go_enter Try.func22, Try.ntmps22
    go_wp2
    all_goals (
      rename_i hc
      refine bodyPost_ret (results_cell_row rfl _ _ (w.heap.size + 1) 24 _ (0, 0) _ rfl (heap_new2 _ _ _) Try.underlying24 rfl (by kernel_rfl)) rfl ⟨?_, below_al2 _ _ _⟩
      rw [HF.out]
      generalize v.tmod 2147483647 = R at *
      have hmm := HM.out
      first
        | (rw [show wrap64 (wrap64 (-R) + 1) = ((R.natAbs : Nat) : Int) + 1 by unfold wrap64; omega])
        | (rw [show wrap64 (R + 1) = ((R.natAbs : Nat) : Int) + 1 by unfold wrap64; omega])
        | (rw [show R + 1 = ((R.natAbs : Nat) : Int) + 1 by omega]))
/-- what pick answers -/
def pk (k : Int) (n : Nat) : Nat := (k % (n : Int)).toNat
theorem pk_lt (k : Int) {n : Nat} (h : 0 < n) : pk k n < n := by
  unfold pk
  have h1 := Int.emod_nonneg k (b := (n : Int)) (by omega)
  have h2 := Int.emod_lt_of_pos k (b := (n : Int)) (by omega)
  omega
theorem tmod_neg {k n : Int} (h : k < 0) (hn : 0 < n) : k.tmod n ≤ 0 ∧ -n < k.tmod n ∧ (k.tmod n < 0 → k % n = k.tmod n + n) ∧ (k.tmod n = 0 → k % n = 0) := by
  have e : k.tmod n = -((-k) % n) := by
    have := Int.neg_tmod (a := -k) (b := n)
    rw [Int.neg_neg] at this
    rw [this, Int.tmod_eq_emod_of_nonneg (by omega)]
  have h1 := Int.emod_nonneg (-k) (b := n) (by omega)
  have h2 := Int.emod_lt_of_pos (-k) hn
  have h3 := Int.emod_nonneg k (b := n) (by omega)
  have h4 := Int.emod_lt_of_pos k hn
  have d1 := Int.mul_ediv_add_emod k n
  have d2 := Int.mul_ediv_add_emod (-k) n
  have key : n ∣ (k % n + (-k) % n) := by
    refine ⟨-(k / n) - ((-k) / n), ?_⟩
    rw [Int.mul_sub, Int.mul_neg]
    omega
  obtain ⟨q, hq⟩ := key
  rw [e]
  generalize (-k) % n = r at *
  generalize k % n = s at *
  have hq0 : 0 ≤ q := by
    rcases Int.lt_or_le q 0 with c | c
    · have := Int.mul_le_mul_of_nonneg_left (show q ≤ -1 by omega) (Int.le_of_lt hn)
      omega
    · exact c
  have hq1 : q < 2 := by
    rcases Int.lt_or_le q 2 with c | c
    · exact c
    · have := Int.mul_le_mul_of_nonneg_left c (Int.le_of_lt hn)
      omega
  have : q = 0 ∨ q = 1 := by omega
  rcases this with rfl | rfl
  · simp at hq; refine ⟨by omega, by omega, fun _ => by omega, fun _ => by omega⟩
  · simp at hq; refine ⟨by omega, by omega, fun _ => by omega, fun _ => by omega⟩
set_option maxRecDepth 100000 in
set_option maxHeartbeats 1000000 in
theorem pick_any (k : Int) (n : Nat) (hn : 0 < n) (hnl : n ≤ 4611686018427387904) (w : World) : Calls Try.prog 23 #[.int .i64 k, .int .i64 (n : Int)] w fun r w' => r = .returned (.int .i64 (pk k n : Nat)) ∧ w' = w := by
  have hp : ((pk k n : Nat) : Int) = k % (n : Int) := by
    unfold pk
    exact Int.toNat_of_nonneg (Int.emod_nonneg k (by omega))
  obtain ⟨N, hN⟩ : ∃ N : Int, N = (n : Int) := ⟨_, rfl⟩
  rw [hp, ← hN]
  have h0 : 0 < N := by omega
  have hl : N ≤ 4611686018427387904 := by omega
  have hne : ¬ (N = 0) := by omega
  clear hp hN hn hnl
  by_cases h : k < 0
  · obtain ⟨t1, t2, t3, t4⟩ := tmod_neg h h0
    by_cases hz : k.tmod N < 0
    · rw [t3 hz]
      have hw : wrap64 (k.tmod N + N) = k.tmod N + N := by unfold wrap64; omega
      clear t3 t4 h
      go_enter Try.func23, Try.ntmps23
      go_wp2
      go_ret
      exact ⟨rfl, rfl⟩
    · have e := t4 (by omega)
      have e2 : k.tmod N = 0 := by omega
      rw [e]
      clear t3 t4 h e
      go_enter Try.func23, Try.ntmps23
      go_wp2
      go_ret
      exact ⟨rfl, rfl⟩
  · have h3 := Int.emod_nonneg k (b := N) (by omega)
    have e : k.tmod N = k % N := Int.tmod_eq_emod_of_nonneg (by omega)
    have e2 : ¬ (k.tmod N < 0) := by omega
    rw [← e]
    clear e h3 h
    go_enter Try.func23, Try.ntmps23
    go_wp2
    go_ret
    exact ⟨rfl, rfl⟩
end J
end Go.Proofs.Ytihdagehenmolaa
