import Derived.Test.YtbgjggblaeadlaaRp0
set_option linter.unusedVariables false
set_option linter.unusedSimpArgs false
namespace Go.Proofs.Ytbgjggblaeadlaa
open Go.RowKit
namespace X
open C
/-- how many steps there are -/
def sm : List Int → Nat
  | [] => 0
  | n :: r => (max n 0).toNat + sm r
theorem sm_append (a b : List Int) : sm (a ++ b) = sm a + sm b := by
  induction a with
  | nil => simp [sm]
  | cons x r ih => simp [sm, ih]; omega
theorem sm_take {zs : List Int} {k : Nat} (h : k < zs.length) : sm (zs.take (k + 1)) = sm (zs.take k) + (max (zs.getD k 0) 0).toNat := by
  rw [List.take_succ_eq_append_getElem h, sm_append]
  simp [sm, List.getD, h]
theorem sm_le (zs : List Int) (k : Nat) : sm (zs.take k) ≤ sm zs := by
  have := sm_append (zs.take k) (zs.drop k)
  rw [List.take_append_drop] at this
  omega
def mxb (zs : List Int) : Bool := decide (zs.length ≤ 64 ∧ sm zs ≤ 1048576)
set_option maxRecDepth 100000 in
set_option maxHeartbeats 2000000 in
theorem mixable_any (a : Option Addr) (c : Nat) (zs : List Int) (w : World) (hI : Ints w a zs) : Calls Try.prog 51 #[.slice a zs.length c] w fun e w' => e = .returned (.bool (mxb zs)) ∧ w' = w := by
  unfold mxb
  by_cases h0 : zs.length ≤ 64
  · have h0' : ¬ ((zs.length : Int) > 64) := by omega
    have E3 : Hid (∀ k : Nat, k < 64 → wrap64 ((k : Int) + 1) = (k : Int) + 1) := hide' (fun k hk => wrap_in (by omega) (by omega))
    have HI := hide' hI
    have H0 := hide' h0
    clear hI h0
    go_enter Try.func51, Try.ntmps51
    go_wp2_with fail
    go_loopw [11, 3] (fun i l wx => ∃ k : Nat, i = .int .i64 (k : Int) ∧ k ≤ zs.length ∧ wx = w ∧ sm (zs.take k) ≤ 1048576 ∧ l = .int .i64 (1048576 - (sm (zs.take k) : Int))) (fun i _ _ => zs.length - (intOf i).toNat)
    case atStart => exact ⟨0, rfl, Nat.zero_le _, rfl, by simp [sm], by simp [sm]⟩
    case round =>
      obtain ⟨k, rfl, hk, hwr, hs, rfl⟩ := hrel
      obtain rfl := hwr.symm
      clear hwr
      by_cases hlt : k < zs.length
      · have hlt' : (k : Int) < (zs.length : Int) := by omega
        have e1 := E3.out k (by have := H0.out; omega)
        have Hend := hide' (msr' hlt _ e1)
        have Hk := hide' hlt
        rcases HI.out with q | ⟨b, off, ha, hb, hc⟩
        · rw [q] at hlt; simp at hlt
        have ic := hc k hlt
        have HT := hide' (sm_take hlt)
        have HL := hide' (sm_le zs (k + 1))
        obtain ⟨u, hu⟩ : ∃ u, zs.getD k 0 = u := ⟨_, rfl⟩
        rw [hu] at ic HT
        obtain rfl := ha
        have HS := hide' hs
        obtain ⟨s, hsv⟩ : ∃ s : Int, s = (sm (zs.take k) : Int) := ⟨_, rfl⟩
        rw [← hsv]
        have HV := hide' hsv
        clear hc hb hu hk hs hsv
        rcases Int.lt_or_le (1048576 - s) u with h1 | h1
        · have K : Hid (¬ (zs.length ≤ 64 ∧ sm zs ≤ 1048576)) := hide' (fun q => by have q1 := HT.out; have q2 := HL.out; have q3 := HV.out; omega)
          have h1' : u > 1048576 - s := h1
          go_wp2_with fail
          go_ret
          exact ⟨by rw [decide_eq_false K.out]; rfl, rfl⟩
        · have h1' : ¬ u > 1048576 - s := by omega
          have hs0 : 0 ≤ s := by have := HV.out; omega
          have e2 : wrap64 (1048576 - s - max u 0) = 1048576 - (sm (zs.take (k + 1)) : Int) := by
            have q1 := HT.out; have q3 := HV.out; have q4 := HS.out
            rw [wrap_in (by omega) (by omega)]
            omega
          have K : Hid (sm (zs.take (k + 1)) ≤ 1048576) := hide' (by have q1 := HT.out; have q3 := HV.out; have q4 := HS.out; omega)
          have E2 := hide' e2
          clear e2 h1 hs0
          go_wp2_with fail
          all_goals exact ⟨⟨k + 1, by first | rfl | (rw [e1]; rfl), Hk.out, by trivial, K.out, by rw [E2.out]⟩, by first | exact Hend.out | (rw [← e1]; exact Hend.out)⟩
      · obtain rfl : k = zs.length := by omega
        rw [List.take_length] at hs ⊢
        have K := hide' (decide_eq_true (And.intro H0.out hs))
        clear hs hlt hk
        go_wp2_with fail
        go_ret
        exact ⟨by rw [K.out]; rfl, rfl⟩
  · have h0' : (zs.length : Int) > 64 := by omega
    rw [decide_eq_false (fun q => h0 q.1)]
    clear hI h0
    go_enter Try.func51, Try.ntmps51
    go_wp2
    go_ret
    exact ⟨rfl, rfl⟩
end X
end Go.Proofs.Ytbgjggblaeadlaa
