import Derived.Test.YtbgjggblaeadlaaNxP
set_option linter.unusedVariables false
set_option linter.unusedSimpArgs false
namespace Go.Proofs.Ytbgjggblaeadlaa
open Go.RowKit
namespace X
open C F
theorem wsucN (k : Nat) (h : k < 4611686018427387904) : wrap64 ((k : Int) + 1) = ((k + 1 : Nat) : Int) := by unfold wrap64; omega
theorem mxb_no {zs : List Int} (h : 1048576 < sm zs) : mxb zs = false := by unfold mxb; simp; intro _; omega
theorem mxb_end (zs : List Int) : (decide ((sm zs : Int) ≤ 1048576) && decide ((zs.length : Int) ≤ 64)) = mxb zs := by
  unfold mxb
  by_cases h1 : sm zs ≤ 1048576 <;> by_cases h2 : zs.length ≤ 64 <;> simp [h1, h2] <;> omega
set_option maxRecDepth 100000 in
set_option maxHeartbeats 2000000 in
theorem sum_any (a : Option Addr) (c : Nat) (zs : List Int) (w : World) (hI : Ints w a zs) (hl : zs.length ≤ 17592186044000) : Calls Try.prog 48 #[.slice a zs.length c] w fun e w' => ∃ v : Int, e = .returned (.tuple #[.int .i64 v, .bool (mxb zs)]) ∧ w' = w := by
  have HI := hide' hI
  have HL := hide' hl
  clear hI hl
  go_enter Try.func48, Try.ntmps48
  go_wp2_with fail
  go_loopw [4, 5] (fun s i wx => ∃ k : Nat, s = .int .i64 (sm (zs.take k) : Int) ∧ i = .int .i64 (k : Int) ∧ k ≤ zs.length ∧ sm (zs.take k) ≤ 2097152 ∧ wx = w) (fun _ i _ => zs.length - (intOf i).toNat)
  case atStart => exact ⟨0, by simp [sm], rfl, Nat.zero_le _, by simp [sm], rfl⟩
  case round =>
    obtain ⟨k, rfl, rfl, hk, hs, hwr⟩ := hrel
    obtain rfl := hwr.symm
    clear hwr
    by_cases hlt : k < zs.length
    · have hlt' : (k : Int) < (zs.length : Int) := by omega
      have e1 := hide' (wsucN k (by have := HL.out; omega))
      have Hend := hide' (msr' hlt _ rfl)
      have Hk := hide' hlt
      rcases HI.out with q | ⟨b, off, ha, hb, hc⟩
      · rw [q] at hlt; simp at hlt
      have ic := hc k hlt
      have HT := sm_take hlt
      have HLe := hide' (sm_le zs (k + 1))
      have HLk := hide' (sm_le zs k)
      obtain ⟨u, hu⟩ : ∃ u, zs.getD k 0 = u := ⟨_, rfl⟩
      rw [hu] at ic HT
      obtain ⟨S, hS⟩ : ∃ S, S = sm (zs.take k) := ⟨_, rfl⟩
      rw [← hS] at HT hs ⊢
      obtain rfl := ha
      have HTT := hide' (And.intro HT (And.intro hs hS))
      clear hc hb hu hk HT hs hS
      by_cases h1 : 1048576 < u
      · have HM := hide' (mxb_no (zs := zs) (by have := HLe.out; have := HTT.out.1; omega))
        clear HLe HLk HTT e1 Hend Hk
        go_wp2
        go_ret2
        first | exact ⟨0, by rw [HM.out]; rfl, rfl⟩ | exact ⟨⟨0, by rw [HM.out]; rfl⟩, rfl⟩
      · by_cases h2 : (1048576 : Int) < (S : Int)
        · have HM := hide' (mxb_no (zs := zs) (by have := HLk.out; have := HTT.out.2.2; omega))
          clear HLe HLk HTT e1 Hend Hk
          go_wp2
          go_ret2
          first | exact ⟨0, by rw [HM.out]; rfl, rfl⟩ | exact ⟨⟨0, by rw [HM.out]; rfl⟩, rfl⟩
        · by_cases h3 : 0 < u
          · have hw : wrap64 ((S : Int) + u) = (S : Int) + u := by unfold wrap64; clear HTT HLe HLk ic; omega
            have HN : Hid ((S : Int) + u = (sm (zs.take (k + 1)) : Int) ∧ sm (zs.take (k + 1)) ≤ 2097152) := hide' (by have := HTT.out.1; omega)
            clear HLe HLk HTT
            go_wp2
            exact ⟨⟨k + 1, by rw [HN.out.1], by first | rfl | (rw [e1.out]), Hk.out, HN.out.2, trivial⟩, by first | exact Hend.out | (rw [e1.out]; exact Hend.out)⟩
          · have HN : Hid ((S : Int) = (sm (zs.take (k + 1)) : Int) ∧ sm (zs.take (k + 1)) ≤ 2097152) := hide' (by have := HTT.out.1; have := HTT.out.2.1; omega)
            clear HLe HLk HTT
            go_wp2
            exact ⟨⟨k + 1, by rw [HN.out.1], by first | rfl | (rw [e1.out]), Hk.out, HN.out.2, trivial⟩, by first | exact Hend.out | (rw [e1.out]; exact Hend.out)⟩
    · obtain rfl : k = zs.length := by omega
      rw [List.take_length]
      have HM := hide' (mxb_end zs)
      clear hk hs hlt
      by_cases h1 : (sm zs : Int) ≤ 1048576
      · by_cases h2 : (zs.length : Int) ≤ 64
        · have HM2 : Hid (mxb zs = true) := hide' (by rw [← HM.out]; simp [h1, h2])
          clear HM
          go_wp2
          go_ret2
          first | exact ⟨_, by rw [HM2.out]; rfl, rfl⟩ | exact ⟨⟨_, by rw [HM2.out]; rfl⟩, rfl⟩
        · have HM2 : Hid (mxb zs = false) := hide' (by rw [← HM.out]; simp [h2])
          clear HM
          go_wp2
          go_ret2
          first | exact ⟨_, by rw [HM2.out]; rfl, rfl⟩ | exact ⟨⟨_, by rw [HM2.out]; rfl⟩, rfl⟩
      · have HM2 : Hid (mxb zs = false) := hide' (by rw [← HM.out]; simp [h1])
        clear HM
        go_wp2
        go_ret2
        first | exact ⟨_, by rw [HM2.out]; rfl, rfl⟩ | exact ⟨⟨_, by rw [HM2.out]; rfl⟩, rfl⟩
end X
end Go.Proofs.Ytbgjggblaeadlaa
