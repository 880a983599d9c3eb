import Derived.Test.YtfeehnfpfheojaaNew
set_option linter.unusedVariables false
set_option linter.unusedSimpArgs false
namespace Go.Proofs.Ytfeehnfpfheojaa
open Go.RowKit
namespace M
variable {D : Nat → Prop} {B x : Nat} {ws : List Int} {tr : List Ac} {bad : Nat} {w w' : World}
theorem len_any (h : Mem D B x ws tr bad w) : Calls Try.prog 71 #[.pointer (some ⟨x, 0, none⟩)] w fun e w' => e = .returned (.int .i64 (ws.length : Nat)) ∧ w' = w := by
  obtain ⟨hb, g, ao, cap, hm, hd⟩ := h
  have c0 := hm.c0
  clear hm hd hb
  go_enter Try.func71, Try.ntmps71
  go_wp2
  go_ret
  exact ⟨rfl, rfl⟩
theorem bad_any (h : Mem D B x ws tr bad w) : Calls Try.prog 42 #[.pointer (some ⟨x, 0, none⟩)] w fun e w' => e = .returned (.int .i64 (bad : Nat)) ∧ w' = w := by
  obtain ⟨hb, g, ao, cap, hm, hd⟩ := h
  have c2 := hm.c2
  clear hm hd hb
  go_enter Try.func42, Try.ntmps42
  go_wp2
  go_ret
  exact ⟨rfl, rfl⟩
theorem tmod_neg {k n : Int} (h : k < 0) (hn : 0 < n) : k.tmod n ≤ 0 ∧ -n < k.tmod n ∧ (k.tmod n < 0 → k % n = k.tmod n + n) ∧ (k.tmod n = 0 → k % n = 0) := by
  have e : k.tmod n = -((-k) % n) := by
    have := Int.neg_tmod (a := -k) (b := n)
    rw [Int.neg_neg] at this
    rw [this, Int.tmod_eq_emod_of_nonneg (by omega)]
  have h1 := Int.emod_nonneg (-k) (b := n) (by omega)
  have h2 := Int.emod_lt_of_pos (-k) hn
  have h3 := Int.emod_nonneg k (b := n) (by omega)
  have h4 := Int.emod_lt_of_pos k hn
  have d1 := Int.mul_ediv_add_emod k n
  have d2 := Int.mul_ediv_add_emod (-k) n
  have key : n ∣ (k % n + (-k) % n) := by
    refine ⟨-(k / n) - ((-k) / n), ?_⟩
    rw [Int.mul_sub, Int.mul_neg]
    omega
  obtain ⟨q, hq⟩ := key
  rw [e]
  generalize (-k) % n = r at *
  generalize k % n = s at *
  have hq0 : 0 ≤ q := by
    rcases Int.lt_or_le q 0 with c | c
    · have := Int.mul_le_mul_of_nonneg_left (show q ≤ -1 by omega) (Int.le_of_lt hn)
      omega
    · exact c
  have hq1 : q < 2 := by
    rcases Int.lt_or_le q 2 with c | c
    · exact c
    · have := Int.mul_le_mul_of_nonneg_left c (Int.le_of_lt hn)
      omega
  have : q = 0 ∨ q = 1 := by omega
  rcases this with rfl | rfl
  · simp at hq; refine ⟨by omega, by omega, fun _ => by omega, fun _ => by omega⟩
  · simp at hq; refine ⟨by omega, by omega, fun _ => by omega, fun _ => by omega⟩
set_option maxRecDepth 100000 in
set_option maxHeartbeats 1000000 in
theorem pick_any (k n : Int) (w : World) (hn : 0 < n) (hn2 : n ≤ 100000) : Calls Try.prog 15 #[.int .i64 k, .int .i64 n] w fun e w' => e = .returned (.int .i64 (k % n)) ∧ w' = w := by
  by_cases h : k < 0
  · obtain ⟨t1, t2, t3, t4⟩ := tmod_neg h hn
    by_cases hz : k.tmod n < 0
    · rw [t3 hz]
      clear t3 t4 h
      go_enter Try.func15, Try.ntmps15
      go_wp2
      go_ret
      exact ⟨rfl, rfl⟩
    · have e := t4 (by omega)
      have e2 : k.tmod n = 0 := by omega
      rw [e]
      clear t3 t4 h e
      go_enter Try.func15, Try.ntmps15
      go_wp2
      go_ret
      exact ⟨rfl, rfl⟩
  · have h3 := Int.emod_nonneg k (b := n) (by omega)
    go_enter Try.func15, Try.ntmps15
    go_wp2
    go_ret
    exact ⟨rfl, rfl⟩
theorem To.below {w0 : World} {ws' : List Int} {tr' : List Ac} {bad' : Nat} (h : Mem D B x ws tr bad w) (b : Below B w0 w) (t : To D B x ws' tr' bad' w w') : ∃ D', Mem D' B x ws' tr' bad' w' ∧ Below B w0 w' := by
  obtain ⟨D', h', tt, _⟩ := t
  exact ⟨D', h', b.trans (tt.below (fun j hj => (h.lo hj).1) h.base)⟩
theorem To.trans {ws1 ws2 : List Int} {tr1 tr2 : List Ac} {bad1 bad2 : Nat} {w1 w2 : World} (h : To D B x ws1 tr1 bad1 w w1) (k : ∀ D1, Mem D1 B x ws1 tr1 bad1 w1 → To D1 B x ws2 tr2 bad2 w1 w2) : To D B x ws2 tr2 bad2 w w2 := by
  obtain ⟨D1, h1, t1, s1⟩ := h
  obtain ⟨D2, h2, t2, s2⟩ := k D1 h1
  refine ⟨D2, h2, t1.then t2 (fun i hi q => by rcases s1 i q with q | q; exact q; omega), fun j hj => ?_⟩
  rcases s2 j hj with q | q
  · exact s1 j q
  · exact .inr (Nat.le_trans t1.size q)
/-- the memory's size, of any number -/
def nof (words : Int) : Nat := 1 + (words % 64).toNat
theorem nof_le (words : Int) : 1 ≤ nof words ∧ nof words ≤ 64 ∧ ((nof words : Nat) : Int) = 1 + words % 64 := by
  have h3 := Int.emod_nonneg words (b := 64) (by omega)
  have h4 := Int.emod_lt_of_pos words (b := 64) (by omega)
  unfold nof
  omega
def tr0 (n : Nat) : List Ac := [⟨2, (n : Int) - 1, 5, 0, true⟩, ⟨1, (n : Int) - 1, 5, 0, true⟩, ⟨2, (n : Int) - 1, 0, 5, true⟩]
theorem rep_at (n k : Nat) (h : k < n) : (List.replicate n (0 : Int)).getD k 0 = 0 := by simp [List.getD, List.getElem?_replicate, h]
theorem made_pure (n : Nat) (h : 1 ≤ n) : let r := List.replicate n (0 : Int); let a : Int := (n : Int) - 1; er r a = 0 ∧ std r a = 0 ∧ er (put r a 5) a = 0 ∧ std (put r a 5) a = 5 ∧ put (put r a 5) a 0 = r := by
  intro r a
  obtain ⟨k, rfl⟩ : ∃ k, n = k + 1 := ⟨n - 1, by omega⟩
  have ha : a = (k : Int) := by show ((k + 1 : Nat) : Int) - 1 = k; omega
  rw [ha]
  have l1 : k < r.length := by simp [r]
  have g1 : r.getD k 0 = 0 := rep_at _ _ (by omega)
  obtain ⟨e1, e2⟩ := er_ok l1 (by rw [g1]; decide)
  have p1 := put_ok (v := 5) e1
  rw [p1]
  have g2 : (r.set k 5).getD k 0 = 5 := by simp [List.getD, l1]
  obtain ⟨e3, e4⟩ := er_ok (ws := r.set k 5) (k := k) (by simpa using l1) (by rw [g2]; decide)
  rw [put_ok e3]
  refine ⟨e1, by rw [e2, g1], e3, by rw [e4, g2], ?_⟩
  rw [List.set_set]
  apply List.ext_getElem?
  intro i
  rw [List.getElem?_set]
  by_cases hi : k = i
  · subst hi; simp [l1, r]
  · simp [hi, r]
end M
end Go.Proofs.Ytfeehnfpfheojaa
