import Derived.Test.YtoejcpfodbegeaaMade
set_option linter.unusedVariables false
set_option linter.unusedSimpArgs false
namespace Go.Proofs.Ytoejcpfodbegeaa
open Go.RowKit
namespace M
theorem last_pure (n : Nat) (h : 1 ≤ n) (a v : Int) (ha : a = (n : Int) - 1) (hv : v ≠ P) : let r := List.replicate n (0 : Int); er r a = 0 ∧ er (put r a v) a = 0 ∧ std (put r a v) a = v := by
  intro r
  obtain ⟨k, rfl⟩ : ∃ k, n = k + 1 := ⟨n - 1, by omega⟩
  obtain rfl : a = (k : Int) := by omega
  have l1 : k < r.length := by simp [r]
  have g1 : r.getD k 0 = 0 := rep_at _ _ (by omega)
  obtain ⟨e1, e2⟩ := er_ok l1 (by rw [g1]; decide)
  rw [put_ok e1]
  have g2 : (r.set k v).getD k 0 = v := by simp [List.getD, l1]
  obtain ⟨e3, e4⟩ := er_ok (ws := r.set k v) (k := k) (by simpa using l1) (by rw [g2]; exact hv)
  exact ⟨e1, e3, by rw [e4, g2]⟩
set_option maxRecDepth 100000 in
set_option maxHeartbeats 1000000 in
theorem names_walk (w : World) : Calls Try.prog 3 #[] w fun e w' => e = .returned (.bool true) ∧ Below w.heap.size w w' := by
  obtain ⟨n, hn⟩ : ∃ n : Nat, n = 65536 := ⟨_, rfl⟩
  have Hnew := hide' (new_any n w (by omega) (by omega) 65536 (by rw [hn]; rfl))
  obtain ⟨p1, p2, p3⟩ := last_pure n (by omega) 65535 9 (by omega) (by decide)
  have P1 := hide' p1
  have P2 := hide' p2
  have P3 := hide' p3
  clear hn p1 p2 p3
  go_enter Try.func3, Try.ntmps3
  go_wp2_with fail
  refine Hnew.out.mono ?_
  rintro e w1 ⟨x, rfl, D, h1, b1⟩
  clear Hnew
  have Hs := hide' (store_any 65535 9 h1 (by simp))
  rw [P1.out] at Hs
  go_wp2_with fail
  refine Hs.out.mono ?_
  rintro e w2 ⟨rfl, t2⟩
  obtain ⟨D2, h2, b2⟩ := To.below h1 b1 t2
  clear Hs t2 h1 b1
  have Hs := hide' (load_any 65535 h2 (by simp))
  rw [P2.out, P3.out] at Hs
  go_wp2_with fail
  refine Hs.out.mono ?_
  rintro e w3 ⟨rfl, t3⟩
  obtain ⟨D3, h3, b3⟩ := To.below h2 b2 t3
  clear Hs t3 h2 b2
  have Hs := hide' (new_no 65537 w3 (by omega))
  go_wp2_with fail
  refine Hs.out.mono ?_
  rintro e w4 ⟨rfl, hw4⟩
  replace hw4 := hw4.symm
  subst hw4
  clear Hs h3 P1 P2 P3
  go_wp2
  go_ret
  exact ⟨rfl, b3⟩
end M
end Go.Proofs.Ytoejcpfodbegeaa
