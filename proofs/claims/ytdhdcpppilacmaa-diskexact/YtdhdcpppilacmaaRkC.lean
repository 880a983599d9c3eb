import Derived.Test.YtdhdcpppilacmaaRkB
set_option linter.unusedVariables false
set_option linter.unusedSimpArgs false
namespace Go.Proofs.Ytdhdcpppilacmaa
open Go.RowKit
namespace K
open M
variable {B c cap : Nat} {room : Int} {ss : List By} {l : List UInt8} {s : Nat} {ao : Option Addr} {w w' : World}
/-- how many are out behind k -/
theorem kp_step {s k : Nat} {K : Int} : (k < s ∨ (s ≤ k ∧ 0 < K - ((min (k - s) K.toNat : Nat) : Int))) → kp s (k + 1) K = k + 1 ∧ kp s k K = k := by unfold kp; omega
theorem kp_stay {s k : Nat} {K : Int} : s ≤ k → ¬ (0 < K - ((min (k - s) K.toNat : Nat) : Int)) → kp s (k + 1) K = kp s k K ∧ ((min (k + 1 - s) K.toNat : Nat) : Int) = ((min (k - s) K.toNat : Nat) : Int) := by unfold kp; omega
set_option maxRecDepth 100000 in
set_option maxHeartbeats 4000000 in
theorem rcut_any (q : Rr B c room (mk l s) ao cap w) (hs : s ≤ l.length) (K : Int) (hK : -9223372036854775808 ≤ K ∧ K ≤ 9223372036854775807) : Calls Try.prog 15 #[.pointer (some ⟨c, 0, none⟩), .int .i64 K] w fun e w' => e = .returned (.string (sb (l.take (kp s l.length K)))) ∧ Below w.heap.size w w' := by
  have HQ := hide' q
  have hm := q.hm
  have hr := q.hr
  rw [mk_len] at hr
  obtain ⟨n, hn⟩ : ∃ n, n = l.length := ⟨_, rfl⟩
  have Hn := hide' hn
  have hn6 := hide' (show n ≤ 1048576 by omega)
  have HS := hide' (show s ≤ n by omega)
  have HK := hide' hK
  rw [← hn]
  clear q hm hr hn hs hK
  go_enter Try.func15, Try.ntmps15
  go_wp2_with fail
  go_loopw [1, 5, 6] (fun kv b i wx => ∃ (k : Nat) (bo : Option Addr) (bc : Nat), kv = .int .i64 (K - ((min (k - s) K.toNat : Nat) : Int)) ∧ b = .slice bo (l.take (kp s k K)).length bc ∧ i = .int .i64 (k : Int) ∧ k ≤ n ∧ Own 1 5 ba w.heap.size (.slice bo (l.take (kp s k K)).length bc) (l.take (kp s k K)) wx ∧ Below w.heap.size w wx) (fun _ _ i _ => n - (intOf i).toNat)
  case atStart => exact ⟨0, none, 0, by simp, by rw [show kp s 0 K = 0 by unfold kp; omega]; rfl, rfl, Nat.zero_le _, by rw [show kp s 0 K = 0 by unfold kp; omega]; exact own_nil 1 5 ba _ _, Below.refl _ _⟩
  case round =>
    obtain ⟨k, bo, bc, rfl, rfl, rfl, hk, hown, hb⟩ := hrel
    have c1 := (HQ.out.below hb).c1
    rw [mk_len, ← Hn.out] at c1
    by_cases hlt : k < n
    · have hlt' : (k : Int) < (n : Int) := by omega
      obtain ⟨z, hz⟩ : ∃ z, l[k]? = some z := ⟨_, List.getElem?_eq_getElem (by rw [← Hn.out]; exact hlt)⟩
      obtain ⟨g, rfl, y0, y1, yf⟩ := (HQ.out.below hb).cells (mk_get hz)
      rw [Nat.zero_add] at y0 y1
      have ek := hide' (wsucN k (by have := hn6.out; omega))
      have Hms := hide' (msr' hlt _ rfl)
      have Hlt := hide' hlt
      by_cases hgo : k < s ∨ (s ≤ k ∧ 0 < K - ((min (k - s) K.toNat : Nat) : Int))
      · obtain ⟨e1, e2⟩ := kp_step hgo
        rw [e2] at hown ⊢
        have hll : (l.take k).length = k := by rw [List.length_take]; have := Hn.out; omega
        have hl1 : l.take (k + 1) = l.take k ++ [z] := by rw [List.take_add_one, hz]; rfl
        have E1 := hide' e1
        have HO := hide' (And.intro hown hb)
        have HL1 := hide' (And.intro hll hl1)
        have gcell : ∀ w', Below wr.heap.size wr w' → True := fun _ _ => trivial
        rw [hll]
        by_cases hks : k < s
        · have y1' : wr.cell? ⟨g, k * 2 + 1, none⟩ = some (.bool true) := by rw [y1]; simp [hks]
          have em : min (k - s) K.toNat = 0 := by omega
          have em' : min (k + 1 - s) K.toNat = 0 := by omega
          have EM := hide' em'
          rw [em]
          clear y1 hz hk hlt e1 e2 hks hgo hown hll hl1 em em'
          go_wp2_with (at_builtin; go_loud (refine wpList_more (arr := ba) ha_b Try.underlying52 info5 rfl (by omega) wr rfl _ _ rfl (ro := bo) (rc := bc) (ss := l.take k) HO.out.1 (by rw [HL1.out.1]; unfold maxLen; have := Hlt.out; have := hn6.out; omega) (by rw [HL1.out.1]; have := Hlt.out; have := hn6.out; omega) HO.out.2.size z (one_b _) _ (by rw [HL1.out.1]; rfl) rfl ?_); intro gg cc w3 o3 t3 p3; have O3 := hide' (And.intro o3 (And.intro t3 p3)); clear o3 t3 p3)
          obtain ⟨o3, t3, p3⟩ := O3.out
          have hw3 : Below w.heap.size w w3 := HO.out.2.trans (t3.below (fun j hj => (own_kind HO.out.1 hj).1) HO.out.2.size)
          have hl2 : (l.take (k + 1)).length = min k l.length + 1 := by rw [HL1.out.2, List.length_append, List.length_take]; rfl
          refine ⟨⟨k + 1, some ⟨gg, 0, none⟩, cc, by rw [EM.out]; simp, by rw [E1.out, hl2], by first | rfl | (rw [ek.out]), Hlt.out, by rw [E1.out, HL1.out.2]; exact o3, hw3⟩, by first | exact Hms.out | (rw [ek.out]; exact Hms.out)⟩
        · have hk2 : s ≤ k ∧ 0 < K - ((min (k - s) K.toNat : Nat) : Int) := by
            rcases hgo with h | h
            · exact absurd h hks
            · exact h
          have y1' : wr.cell? ⟨g, k * 2 + 1, none⟩ = some (.bool false) := by rw [y1]; simp [hks]
          obtain ⟨KV, hKV⟩ : ∃ KV, KV = K - ((min (k - s) K.toNat : Nat) : Int) := ⟨_, rfl⟩
          have hpos : 0 < KV := by rw [hKV]; exact hk2.2
          have EM : Hid (K - ((min (k + 1 - s) K.toNat : Nat) : Int) = KV - 1) := hide' (by have := hk2.1; have := hk2.2; omega)
          have hw1 : wrap64 (KV - 1) = KV - 1 := by have := HK.out; unfold wrap64; omega
          rw [← hKV]
          clear y1 hz hk hlt e1 e2 hks hgo hown hll hl1 hk2 hKV
          go_wp2_with (at_builtin; go_loud (refine wpList_more (arr := ba) ha_b Try.underlying52 info5 rfl (by omega) wr rfl _ _ rfl (ro := bo) (rc := bc) (ss := l.take k) HO.out.1 (by rw [HL1.out.1]; unfold maxLen; have := Hlt.out; have := hn6.out; omega) (by rw [HL1.out.1]; have := Hlt.out; have := hn6.out; omega) HO.out.2.size z (one_b _) _ (by rw [HL1.out.1]; rfl) rfl ?_); intro gg cc w3 o3 t3 p3; have O3 := hide' (And.intro o3 (And.intro t3 p3)); clear o3 t3 p3)
          obtain ⟨o3, t3, p3⟩ := O3.out
          have hw3 : Below w.heap.size w w3 := HO.out.2.trans (t3.below (fun j hj => (own_kind HO.out.1 hj).1) HO.out.2.size)
          have hl2 : (l.take (k + 1)).length = min k l.length + 1 := by rw [HL1.out.2, List.length_append, List.length_take]; rfl
          refine ⟨⟨k + 1, some ⟨gg, 0, none⟩, cc, by rw [EM.out, hw1], by rw [E1.out, hl2], by first | rfl | (rw [ek.out]), Hlt.out, by rw [E1.out, HL1.out.2]; exact o3, hw3⟩, by first | exact Hms.out | (rw [ek.out]; exact Hms.out)⟩
      · have hks : ¬ k < s := fun h => hgo (.inl h)
        have hng : ¬ (0 < K - ((min (k - s) K.toNat : Nat) : Int)) := fun h => hgo (.inr ⟨by omega, h⟩)
        obtain ⟨e1, e2⟩ := kp_stay (by omega) hng
        have y1' : wr.cell? ⟨g, k * 2 + 1, none⟩ = some (.bool false) := by rw [y1]; simp [hks]
        have E12 := hide' (And.intro e1 e2)
        have HO := hide' (And.intro hown hb)
        obtain ⟨KV, hKV⟩ : ∃ KV, KV = K - ((min (k - s) K.toNat : Nat) : Int) := ⟨_, rfl⟩
        have HKV := hide' hKV
        rw [← hKV] at hng ⊢
        obtain ⟨m, hm⟩ : ∃ m, m = (l.take (kp s k K)).length := ⟨_, rfl⟩
        have Hm := hide' hm
        rw [← hm]
        clear y1 hz hk hlt e1 e2 hks hgo hown hKV hm
        go_wp2
        exact ⟨⟨k + 1, bo, bc, by rw [E12.out.2, HKV.out], by rw [E12.out.1, Hm.out], by first | rfl | (rw [ek.out]), Hlt.out, by rw [E12.out.1]; exact HO.out.1, HO.out.2⟩, by first | exact Hms.out | (rw [ek.out]; exact Hms.out)⟩
    · obtain rfl : k = n := by omega
      have hc := conv hown (l.take (kp s k K)).length bc (Nat.le_refl _)
      rw [List.take_length] at hc
      have HB := hide' hb
      obtain ⟨A, hA⟩ : ∃ A, A = sb (l.take (kp s k K)) := ⟨_, rfl⟩
      rw [← hA] at hc
      have HA := hide' hA
      obtain ⟨m, hm⟩ : ∃ m, m = (l.take (kp s k K)).length := ⟨_, rfl⟩
      rw [← hm] at hc ⊢
      obtain ⟨KV, hKV⟩ : ∃ KV, KV = K - ((min (k - s) K.toNat : Nat) : Int) := ⟨_, rfl⟩
      rw [← hKV]
      clear hown hb hk hlt hA hm hKV
      go_wp2
      go_ret
      exact ⟨by rw [← HA.out]; rfl, HB.out⟩
set_option maxRecDepth 100000 in
set_option maxHeartbeats 1000000 in
theorem rbytes_any (q : Rr B c room (mk l s) ao cap w) (hs : s ≤ l.length) : Calls Try.prog 11 #[.pointer (some ⟨c, 0, none⟩)] w fun e w' => e = .returned (.string (sb l)) ∧ Below w.heap.size w w' := by
  have c1 := q.c1
  rw [mk_len] at c1
  have hr := q.hr
  have hm := q.hm
  rw [mk_len] at hr
  have HC := hide' (rcut_any q hs (l.length : Int) (by omega))
  rw [show kp s l.length (l.length : Int) = l.length by unfold kp; omega, List.take_length] at HC
  generalize l.length = n at *
  generalize sb l = A at *
  clear q hr hm hs
  go_enter Try.func11, Try.ntmps11
  go_wp2_with fail
  refine HC.out.mono ?_
  rintro e w1 ⟨rfl, b1⟩
  have HB := hide' b1
  clear b1 HC
  go_wp2
  go_ret
  exact ⟨rfl, HB.out⟩
end K
end Go.Proofs.Ytdhdcpppilacmaa
