import Derived.Test.YtoejcpfodbegeaaNew
set_option linter.unusedVariables false
set_option linter.unusedSimpArgs false
namespace Go.Proofs.Ytoejcpfodbegeaa
open Go.RowKit
namespace M
variable {D : Nat → Prop} {B x : Nat} {ws : List Int} {tr : List Ac} {bad : Nat} {w w' : World}
theorem len_any (h : Mem D B x ws tr bad w) : Calls Try.prog 26 #[.pointer (some ⟨x, 0, none⟩)] w fun e w' => e = .returned (.int .i64 (ws.length : Nat)) ∧ w' = w := by
  obtain ⟨hb, g, ao, cap, hm, hd⟩ := h
  have c0 := hm.c0
  clear hm hd hb
  go_enter Try.func26, Try.ntmps26
  go_wp2
  go_ret
  exact ⟨rfl, rfl⟩
theorem bad_any (h : Mem D B x ws tr bad w) : Calls Try.prog 24 #[.pointer (some ⟨x, 0, none⟩)] w fun e w' => e = .returned (.int .i64 (bad : Nat)) ∧ w' = w := by
  obtain ⟨hb, g, ao, cap, hm, hd⟩ := h
  have c2 := hm.c2
  clear hm hd hb
  go_enter Try.func24, Try.ntmps24
  go_wp2
  go_ret
  exact ⟨rfl, rfl⟩
theorem tmod_neg {k n : Int} (h : k < 0) (hn : 0 < n) : k.tmod n ≤ 0 ∧ -n < k.tmod n ∧ (k.tmod n < 0 → k % n = k.tmod n + n) ∧ (k.tmod n = 0 → k % n = 0) := by
  have e : k.tmod n = -((-k) % n) := by
    have := Int.neg_tmod (a := -k) (b := n)
    rw [Int.neg_neg] at this
    rw [this, Int.tmod_eq_emod_of_nonneg (by omega)]
  have h1 := Int.emod_nonneg (-k) (b := n) (by omega)
  have h2 := Int.emod_lt_of_pos (-k) hn
  have h3 := Int.emod_nonneg k (b := n) (by omega)
  have h4 := Int.emod_lt_of_pos k hn
  have d1 := Int.mul_ediv_add_emod k n
  have d2 := Int.mul_ediv_add_emod (-k) n
  have key : n ∣ (k % n + (-k) % n) := by
    refine ⟨-(k / n) - ((-k) / n), ?_⟩
    rw [Int.mul_sub, Int.mul_neg]
    omega
  obtain ⟨q, hq⟩ := key
  rw [e]
  generalize (-k) % n = r at *
  generalize k % n = s at *
  have hq0 : 0 ≤ q := by
    rcases Int.lt_or_le q 0 with c | c
    · have := Int.mul_le_mul_of_nonneg_left (show q ≤ -1 by omega) (Int.le_of_lt hn)
      omega
    · exact c
  have hq1 : q < 2 := by
    rcases Int.lt_or_le q 2 with c | c
    · exact c
    · have := Int.mul_le_mul_of_nonneg_left c (Int.le_of_lt hn)
      omega
  have : q = 0 ∨ q = 1 := by omega
  rcases this with rfl | rfl
  · simp at hq; refine ⟨by omega, by omega, fun _ => by omega, fun _ => by omega⟩
  · simp at hq; refine ⟨by omega, by omega, fun _ => by omega, fun _ => by omega⟩
set_option maxRecDepth 100000 in
set_option maxHeartbeats 1000000 in
theorem pick_any (k n : Int) (w : World) (hn : 0 < n) (hn2 : n ≤ 100000) : Calls Try.prog 31 #[.int .i64 k, .int .i64 n] w fun e w' => e = .returned (.int .i64 (k % n)) ∧ w' = w := by
  by_cases h : k < 0
  · obtain ⟨t1, t2, t3, t4⟩ := tmod_neg h hn
    by_cases hz : k.tmod n < 0
    · rw [t3 hz]
      clear t3 t4 h
      go_enter Try.func31, Try.ntmps31
      go_wp2
      go_ret
      exact ⟨rfl, rfl⟩
    · have e := t4 (by omega)
      have e2 : k.tmod n = 0 := by omega
      rw [e]
      clear t3 t4 h e
      go_enter Try.func31, Try.ntmps31
      go_wp2
      go_ret
      exact ⟨rfl, rfl⟩
  · have h3 := Int.emod_nonneg k (b := n) (by omega)
    go_enter Try.func31, Try.ntmps31
    go_wp2
    go_ret
    exact ⟨rfl, rfl⟩
theorem To.below {w0 : World} {ws' : List Int} {tr' : List Ac} {bad' : Nat} (h : Mem D B x ws tr bad w) (b : Below B w0 w) (t : To D B x ws' tr' bad' w w') : ∃ D', Mem D' B x ws' tr' bad' w' ∧ Below B w0 w' := by
  obtain ⟨D', h', tt, _⟩ := t
  exact ⟨D', h', b.trans (tt.below (fun j hj => (h.lo hj).1) h.base)⟩
theorem To.trans {ws1 ws2 : List Int} {tr1 tr2 : List Ac} {bad1 bad2 : Nat} {w1 w2 : World} (h : To D B x ws1 tr1 bad1 w w1) (k : ∀ D1, Mem D1 B x ws1 tr1 bad1 w1 → To D1 B x ws2 tr2 bad2 w1 w2) : To D B x ws2 tr2 bad2 w w2 := by
  obtain ⟨D1, h1, t1, s1⟩ := h
  obtain ⟨D2, h2, t2, s2⟩ := k D1 h1
  refine ⟨D2, h2, t1.then t2 (fun i hi q => by rcases s1 i q with q | q; exact q; omega), fun j hj => ?_⟩
  rcases s2 j hj with q | q
  · exact s1 j q
  · exact .inr (Nat.le_trans t1.size q)
/-- the memory's size, of any number -/
def nof (words : Int) : Nat := 1 + (words % 64).toNat
theorem nof_le (words : Int) : 1 ≤ nof words ∧ nof words ≤ 64 ∧ ((nof words : Nat) : Int) = 1 + words % 64 := by
  have h3 := Int.emod_nonneg words (b := 64) (by omega)
  have h4 := Int.emod_lt_of_pos words (b := 64) (by omega)
  unfold nof
  omega
def tr0 (n : Nat) : List Ac := [⟨2, (n : Int) - 1, 5, 0, true⟩, ⟨1, (n : Int) - 1, 5, 0, true⟩, ⟨2, (n : Int) - 1, 0, 5, true⟩]
theorem rep_at (n k : Nat) (h : k < n) : (List.replicate n (0 : Int)).getD k 0 = 0 := by simp [List.getD, List.getElem?_replicate, h]
theorem made_pure (n : Nat) (h : 1 ≤ n) : let r := List.replicate n (0 : Int); let a : Int := (n : Int) - 1; er r a = 0 ∧ std r a = 0 ∧ er (put r a 5) a = 0 ∧ std (put r a 5) a = 5 ∧ put (put r a 5) a 0 = r := by
  intro r a
  obtain ⟨k, rfl⟩ : ∃ k, n = k + 1 := ⟨n - 1, by omega⟩
  have ha : a = (k : Int) := by show ((k + 1 : Nat) : Int) - 1 = k; omega
  rw [ha]
  have l1 : k < r.length := by simp [r]
  have g1 : r.getD k 0 = 0 := rep_at _ _ (by omega)
  obtain ⟨e1, e2⟩ := er_ok l1 (by rw [g1]; decide)
  have p1 := put_ok (v := 5) e1
  rw [p1]
  have g2 : (r.set k 5).getD k 0 = 5 := by simp [List.getD, l1]
  obtain ⟨e3, e4⟩ := er_ok (ws := r.set k 5) (k := k) (by simpa using l1) (by rw [g2]; decide)
  rw [put_ok e3]
  refine ⟨e1, by rw [e2, g1], e3, by rw [e4, g2], ?_⟩
  rw [List.set_set]
  apply List.ext_getElem?
  intro i
  rw [List.getElem?_set]
  by_cases hi : k = i
  · subst hi; simp [l1, r]
  · simp [hi, r]
set_option maxRecDepth 100000 in
set_option maxHeartbeats 1000000 in
theorem made_any (words : Int) (w : World) : Calls Try.prog 27 #[.int .i64 words] w fun e w' => ∃ x, e = .returned (.tuple #[.pointer (some ⟨x, 0, none⟩), .int .i64 (nof words : Nat)]) ∧ ∃ D, Mem D w.heap.size x (List.replicate (nof words) 0) (tr0 (nof words)) 0 w' ∧ Below w.heap.size w w' := by
  obtain ⟨n1, n2, n3⟩ := nof_le words
  have Hp := hide' (pick_any words 64 w (by omega) (by omega))
  have hb1 := Int.emod_nonneg words (b := 64) (by omega)
  have hb2 := Int.emod_lt_of_pos words (b := 64) (by omega)
  have Hnew := hide' (new_any (nof words) w (by omega) (by omega) _ rfl)
  obtain ⟨p1, p2, p3, p4, p5⟩ := made_pure (nof words) n1
  have P1 := hide' p1
  have P2 := hide' p2
  have P3 := hide' p3
  have P4 := hide' p4
  have P5 := hide' p5
  have N3 := hide' n3
  clear p1 p2 p3 p4 p5 n3
  generalize nof words = n at *
  generalize hm : words % 64 = m at *
  have hb1' : 0 ≤ m := hb1
  clear hm
  go_enter Try.func27, Try.ntmps27
  go_wp2_with fail
  refine Hp.out.mono ?_
  rintro e w1 ⟨rfl, hw1⟩
  replace hw1 := hw1.symm
  subst hw1
  clear Hp
  go_wp2_with fail
  rw [← N3.out]
  clear N3 hb1 hb2 hb1'
  refine Hnew.out.mono ?_
  rintro e w1 ⟨x, rfl, D, h1, b1⟩
  clear Hnew
  have Hl := hide' (len_any h1)
  rw [List.length_replicate] at Hl
  have Hs := hide' (store_any ((n : Int) - 1) 5 h1 (by simp))
  rw [P1.out] at Hs
  go_wp2_with (go_at_call 26; refine Hl.out.mono ?_; rintro e w2 ⟨rfl, hw2⟩; replace hw2 := hw2.symm; subst hw2)
  refine Hs.out.mono ?_
  rintro e w2 ⟨rfl, t2⟩
  obtain ⟨D2, h2, b2⟩ := To.below h1 b1 t2
  clear Hl Hs t2 h1 b1
  have Hs := hide' (load_any ((n : Int) - 1) h2 (by simp))
  rw [P3.out, P4.out] at Hs
  go_wp2_with fail
  refine Hs.out.mono ?_
  rintro e w3 ⟨rfl, t3⟩
  obtain ⟨D3, h3, b3⟩ := To.below h2 b2 t3
  clear Hs t3 h2 b2
  have Hs := hide' (store_any ((n : Int) - 1) 0 h3 (by simp))
  rw [P3.out, P5.out] at Hs
  go_wp2_with fail
  refine Hs.out.mono ?_
  rintro e w4 ⟨rfl, t4⟩
  obtain ⟨D4, h4, b4⟩ := To.below h3 b3 t4
  clear Hs t4 h3 b3
  have K : Hid (Mem D4 w.heap.size x (List.replicate n 0) (tr0 n) 0 w4) := by
    have e1 : good (List.replicate n 0) ((n : Int) - 1) = true := decide_eq_true P1.out
    have e2 : good (put (List.replicate n 0) ((n : Int) - 1) 5) ((n : Int) - 1) = true := decide_eq_true P3.out
    have e3 := bd_ok P1.out
    have e4 := bd_ok P3.out
    rw [e1, e2, e3, e4, P2.out, P4.out] at h4
    exact h4
  clear h4 P1 P2 P3 P4 P5
  go_wp2
  go_ret2
  exact ⟨x, rfl, D4, K.out, b4⟩
end M
end Go.Proofs.Ytoejcpfodbegeaa
