import Derived.Test.YtihdagehenmolaaRfF
set_option linter.unusedVariables false
set_option linter.unusedSimpArgs false
namespace Go.Proofs.Ytihdagehenmolaa
open Go.RowKit
namespace J
open M K
/-- the document's number, byte by byte -/
def nb (l : List UInt8) (k : Nat) : Nat → Nat
  | 0 => 0
  | j + 1 => 256 * nb l k j + (l.getD (k + (3 - j)) 0).toNat
theorem nb_four (l : List UInt8) (k : Nat) : nb l k 4 = nm l k := by
  unfold nb nb nb nb nb nm num4
  simp only [Nat.sub_zero, Nat.reduceSub, Nat.add_zero]
  omega
theorem nb_lt (l : List UInt8) (k j : Nat) : nb l k j < 256 ^ j := by
  induction j with
  | zero => exact Nat.one_pos
  | succ j ih =>
    show 256 * nb l k j + _ < _
    have := u8_lt (l.getD (k + (3 - j)) 0)
    rw [Nat.pow_succ]
    omega
set_option maxRecDepth 100000 in
set_option maxHeartbeats 1000000 in
theorem rnumber_no (l : List UInt8) (k : Nat) (hk : l.length < k + 4) (hkl : k ≤ 4611686018427388000) (w : World) : Calls Try.prog 35 #[.string (sb l), .int .i64 (k : Int)] w fun e w' => e = .returned (.int .i64 (-1)) ∧ w' = w := by
  have z := sb_size l
  generalize sb l = T at *
  obtain ⟨m, hm⟩ : ∃ m, m = l.length := ⟨_, rfl⟩
  rw [← hm] at z hk
  obtain ⟨A, hA⟩ : ∃ A : Int, A = ((k + 4 : Nat) : Int) := ⟨_, rfl⟩
  have w1 : wrap64 ((k : Int) + 4) = A := by rw [hA]; unfold wrap64; omega
  have g : (m : Int) < A := by omega
  clear hm hk hA hkl
  go_enter Try.func35, Try.ntmps35
  go_wp2
  go_ret
  exact ⟨rfl, rfl⟩
set_option maxRecDepth 100000 in
set_option maxHeartbeats 1000000 in
theorem rnumber_ok (l : List UInt8) (k : Nat) (hk : k + 4 ≤ l.length) (hkl : k ≤ 4611686018427388000) (w : World) : Calls Try.prog 35 #[.string (sb l), .int .i64 (k : Int)] w fun e w' => e = .returned (.int .i64 (nm l k : Nat)) ∧ w' = w := by
  have z := sb_size l
  obtain ⟨T, hT⟩ : ∃ T, T = sb l := ⟨_, rfl⟩
  obtain ⟨m, hm⟩ : ∃ m, m = l.length := ⟨_, rfl⟩
  rw [← hT] at z ⊢
  rw [← hm] at z
  obtain ⟨A, hA⟩ : ∃ A : Int, A = ((k + 4 : Nat) : Int) := ⟨_, rfl⟩
  have w1 : wrap64 ((k : Int) + 4) = A := by rw [hA]; unfold wrap64; omega
  have g : ¬ ((m : Int) < A) := by omega
  have HT := hide' (And.intro hT (And.intro hm (And.intro hk hkl)))
  clear hm hk hA hkl hT
  go_enter Try.func35, Try.ntmps35
  go_wp2
  go_loopw [5, 6] (fun n i wx => ∃ (j N : Nat), n = .int .i64 (N : Int) ∧ i = .int .i64 (3 - (j : Int)) ∧ j ≤ 4 ∧ N = nb l k j ∧ wx = w) (fun _ i _ => (intOf i + 1).toNat)
  case atStart => exact ⟨0, 0, rfl, rfl, Nat.zero_le _, rfl, rfl⟩
  case round =>
    obtain ⟨j, N, rfl, rfl, hj, hN, rfl⟩ := hrel
    have HN := hide' hN
    have hNl : N < 4294967296 := by
      rw [hN]
      have h1 := nb_lt l k j
      have h2 : 256 ^ j ≤ 256 ^ 4 := Nat.pow_le_pow_right (by decide) hj
      omega
    clear hN
    by_cases hlt : j < 4
    · obtain ⟨I, hI⟩ : ∃ I : Int, I = 3 - (j : Int) := ⟨_, rfl⟩
      have gI : 0 ≤ I := by omega
      obtain ⟨y, hy⟩ : ∃ y, l[k + (3 - j)]? = some y := ⟨_, List.getElem?_eq_getElem (by have := HT.out.2.1; have := HT.out.2.2.1; omega)⟩
      obtain ⟨Q, hQ⟩ : ∃ Q : Int, Q = ((k + (3 - j) : Nat) : Int) := ⟨_, rfl⟩
      have w2 : wrap64 ((k : Int) + I) = Q := by rw [hQ, hI]; have := HT.out.2.2.2; unfold wrap64; omega
      have hix : ∀ w', (Instr.index 9 (.string T) (.int .i64 Q)).run Try.prog w' = .ok (.int .u8 (y.toNat : Int)) w' := fun w' => by rw [HT.out.1, hQ]; exact index_sb hy w'
      obtain ⟨D, hD⟩ : ∃ D : Int, D = ((256 * N : Nat) : Int) := ⟨_, rfl⟩
      obtain ⟨G, hG⟩ : ∃ G : Int, G = ((256 * N + y.toNat : Nat) : Int) := ⟨_, rfl⟩
      have hy8 := u8_lt y
      have w3 : wrap64 (256 * (N : Int)) = D := by rw [hD]; unfold wrap64; omega
      have w4 : wrap64 (D + (y.toNat : Int)) = G := by rw [hD, hG]; unfold wrap64; omega
      have w5 : wrap64 (y.toNat : Int) = (y.toNat : Int) := by unfold wrap64; omega
      obtain ⟨J, hJ⟩ : ∃ J : Int, J = 3 - ((j + 1 : Nat) : Int) := ⟨_, rfl⟩
      have w6 : wrap64 (I - 1) = J := by rw [hI, hJ]; unfold wrap64; omega
      have HS : Hid (256 * N + y.toNat = nb l k (j + 1)) := hide' (by
        show _ = 256 * nb l k j + (l.getD (k + (3 - j)) 0).toNat
        rw [← HN.out, List.getD_eq_getElem?_getD, hy]; rfl)
      have HJ : Hid (G = ((256 * N + y.toNat : Nat) : Int) ∧ J = 3 - ((j + 1 : Nat) : Int) ∧ (J + 1).toNat < (I + 1).toNat ∧ j + 1 ≤ 4) := hide' ⟨hG, hJ, by omega, by omega⟩
      rw [← hI]
      clear hj hlt hy hQ hD hG hy8 hJ hI hNl
      go_wp2
      refine ⟨⟨j + 1, 256 * N + y.toNat, by rw [w4, HJ.out.1], by rw [w6, HJ.out.2.1], HJ.out.2.2.2, HS.out, trivial⟩, ?_⟩
      rw [w6]
      exact HJ.out.2.2.1
    · obtain rfl : j = 4 := by omega
      have HE : Hid (N = nm l k) := hide' (by rw [HN.out, nb_four])
      clear hj hlt hNl
      go_wp2
      go_ret
      exact ⟨by rw [← HE.out]; rfl, rfl⟩
set_option maxRecDepth 100000 in
set_option maxHeartbeats 1000000 in
theorem rsame_any {w : World} {a b : Option Addr} (ca cb : Nat) {es : List En} (ha : Rw 2 En.arr w a es) (hb : Rw 2 En.arr w b es) (hl : es.length ≤ 1099511627776000) : Calls Try.prog 17 #[.slice a es.length ca, .slice b es.length cb] w fun r w' => r = .returned (.bool true) ∧ Below w.heap.size w w' := by
  have HA := hide' ha
  have HB := hide' hb
  have HL := hide' hl
  clear ha hb hl
  obtain ⟨n, hn⟩ : ∃ n, n = es.length := ⟨_, rfl⟩
  have HN := hide' hn
  rw [← hn] at HL ⊢
  clear hn
  go_enter Try.func17, Try.ntmps17
  go_wp2
  go_loopw [5] (fun i wx => ∃ k : Nat, i = .int .i64 (k : Int) ∧ k ≤ n ∧ Below w.heap.size w wx) (fun i _ => n - (intOf i).toNat)
  case atStart => exact ⟨0, rfl, Nat.zero_le _, Below.refl _ _⟩
  case round =>
    obtain ⟨k, rfl, hk, bw⟩ := hrel
    have Bw := hide' bw
    by_cases hlt : k < n
    · have hlt' : (k : Int) < (n : Int) := by omega
      obtain ⟨x, hx⟩ : ∃ x, es[k]? = some x := ⟨_, List.getElem?_eq_getElem (by rw [← HN.out]; exact hlt)⟩
      rcases HA.out.below bw with q | ⟨pb, po, rfl, hpb, hpc⟩
      · rw [q] at hx; simp at hx
      rcases HB.out.below bw with q | ⟨qb, qo, rfl, hqb, hqc⟩
      · rw [q] at hx; simp at hx
      obtain ⟨y0, y1⟩ := e_cells hpc hx
      obtain ⟨y2, y3⟩ := e_cells hqc hx
      have ek := hide' (wsucN k (by have := HL.out; omega))
      have Hms := hide' (msr' hlt _ rfl)
      have Hlt := hide' hlt
      generalize sb x.t = T at *
      generalize x.v = v at *
      clear hk hlt hx hpb hpc hqb hqc bw
      go_wp2_with fail
      go_quiet (fail)
      go_wp2
      refine ⟨⟨k + 1, by rw [ek.out], Hlt.out, ?_⟩, by rw [ek.out]; exact Hms.out⟩
      exact bdn Bw.out nq
    · have hlt' : ¬ ((k : Int) < (n : Int)) := by omega
      clear hk hlt bw
      go_wp2
      go_ret
      exact ⟨rfl, Bw.out⟩
set_option maxRecDepth 100000 in
set_option maxHeartbeats 1000000 in
theorem begins_yes (l c x : List UInt8) (k : Nat) (hkl : l.length ≤ 4611686018427387904) (h : l.drop k = c ++ x) (hk : k ≤ l.length) (w : World) : Calls Try.prog 36 #[.string (sb l), .int .i64 (k : Int), .string (sb c)] w fun e w' => e = .returned (.bool true) ∧ w' = w := by
  have z1 := sb_size l
  have z2 := sb_size c
  have hlen : k + c.length ≤ l.length := by
    have := congrArg List.length h
    rw [List.length_drop, List.length_append] at this
    omega
  have he : (sb l).extract k (k + c.length) = sb c := by
    rw [sb_cut, h, Nat.add_sub_cancel_left, take_app _ _ rfl]
  generalize sb l = A at *
  generalize sb c = C at *
  generalize c.length = n at *
  generalize l.length = m at *
  obtain ⟨G, hG⟩ : ∃ G : Int, G = ((k + n : Nat) : Int) := ⟨_, rfl⟩
  have w1 : wrap64 ((k : Int) + (n : Int)) = G := by rw [hG]; unfold wrap64; omega
  have g1 : G ≤ (m : Int) := by omega
  have g2 : (k : Int) ≤ G := by omega
  have g3 : (0 : Int) ≤ (k : Int) := by omega
  have hGn : G.toNat = k + n := by omega
  have he' : A.extract k G.toNat = C := by rw [hGn]; exact he
  clear h hk hlen hkl hG hGn he
  go_enter Try.func36, Try.ntmps36
  go_wp2
  go_ret
  exact ⟨rfl, rfl⟩
set_option maxRecDepth 100000 in
set_option maxHeartbeats 1000000 in
theorem begins_no (l c : List UInt8) (k : Nat) (hkl : l.length ≤ 4611686018427387904) (hcl : c.length ≤ 4611686018427387) (h : ∀ x, l.drop k ≠ c ++ x) (hk : k ≤ l.length) (w : World) : Calls Try.prog 36 #[.string (sb l), .int .i64 (k : Int), .string (sb c)] w fun e w' => e = .returned (.bool false) ∧ w' = w := by
  have z1 := sb_size l
  have z2 := sb_size c
  by_cases hlen : k + c.length ≤ l.length
  · have he : (((sb l).extract k (k + c.length)).toList == (sb c).toList) = false := by
      rw [sb_cut, Nat.add_sub_cancel_left]
      apply str_ne
      intro q
      exact h ((l.drop k).drop c.length) (by conv => lhs; rw [← List.take_append_drop c.length (l.drop k), q])
    generalize sb l = A at *
    generalize sb c = C at *
    generalize c.length = n at *
    generalize l.length = m at *
    obtain ⟨G, hG⟩ : ∃ G : Int, G = ((k + n : Nat) : Int) := ⟨_, rfl⟩
    have w1 : wrap64 ((k : Int) + (n : Int)) = G := by rw [hG]; unfold wrap64; omega
    have g1 : G ≤ (m : Int) := by omega
    have g2 : (k : Int) ≤ G := by omega
    have g3 : (0 : Int) ≤ (k : Int) := by omega
    have hGn : G.toNat = k + n := by omega
    have he' : ((A.extract k G.toNat).toList == C.toList) = false := by rw [hGn]; exact he
    clear h hk hlen hkl hG hGn he hcl
    go_enter Try.func36, Try.ntmps36
    go_wp2
    go_ret
    exact ⟨rfl, rfl⟩
  · generalize sb l = A at *
    generalize sb c = C at *
    generalize c.length = n at *
    generalize l.length = m at *
    obtain ⟨G, hG⟩ : ∃ G : Int, G = ((k + n : Nat) : Int) := ⟨_, rfl⟩
    have w1 : wrap64 ((k : Int) + (n : Int)) = G := by rw [hG]; unfold wrap64; omega
    have g1 : ¬ (G ≤ (m : Int)) := by omega
    clear h hk hlen hkl hG hcl
    go_enter Try.func36, Try.ntmps36
    go_wp2
    go_ret
    exact ⟨rfl, rfl⟩
end J
end Go.Proofs.Ytihdagehenmolaa
