import Derived.Test.YtgjdpgmffhihnaaKey
set_option linter.unusedVariables false
set_option linter.unusedSimpArgs false
namespace Go.Proofs.Ytgjdpgmffhihnaa
open Go.RowKit

theorem N.kw_yes (l : List UInt8) (k : Nat) (hk : k < 16) (h : (N.kws.getD k [] == l) = true) : N.kw l = true := by
  rw [N.kw_any, List.any_eq_true]
  have e : N.kws.getD k [] = N.kws[k]'(by simpa [N.kws] using hk) := by simp [List.getD, List.getElem?_eq_getElem (show k < N.kws.length by simpa [N.kws] using hk)]
  refine ⟨N.kws.getD k [], ?_, by rw [BEq.comm]; exact h⟩
  rw [e]
  exact List.getElem_mem _
theorem N.kw_no (l : List UInt8) (h : ∀ j, j < 16 → (l == N.kws.getD j []) = false) : N.kw l = false := by
  rw [N.kw_any, List.any_eq_false]
  intro x hx
  obtain ⟨k, hk, rfl⟩ := List.getElem_of_mem hx
  have hk' : k < 16 := by simpa [N.kws] using hk
  have := h k hk'
  simp only [List.getD, List.getElem?_eq_getElem hk, Option.getD_some] at this
  simp [this]

set_option maxRecDepth 100000 in
set_option maxHeartbeats 1000000 in
theorem keywords_any (w : World) :
    Calls Try.prog 34 #[] w fun e w' => e = .returned (.slice (some ⟨w.heap.size, 0, none⟩) 16 16) ∧ Below w.heap.size w w' ∧ ∀ k, k < 16 → w'.cell? ⟨w.heap.size, k, none⟩ = some (.string ⟨(N.kws.getD k []).toArray⟩) := by
  go_enter Try.func34, Try.ntmps34
  go_wp2
  go_ret
  refine ⟨rfl, (Below.refl _ _).alloc (Nat.le_refl _) _, ?_⟩
  intro k hk
  match k, hk with
  | 0, _ => simp [N.kws]
  | 1, _ => simp [N.kws]
  | 2, _ => simp [N.kws]
  | 3, _ => simp [N.kws]
  | 4, _ => simp [N.kws]
  | 5, _ => simp [N.kws]
  | 6, _ => simp [N.kws]
  | 7, _ => simp [N.kws]
  | 8, _ => simp [N.kws]
  | 9, _ => simp [N.kws]
  | 10, _ => simp [N.kws]
  | 11, _ => simp [N.kws]
  | 12, _ => simp [N.kws]
  | 13, _ => simp [N.kws]
  | 14, _ => simp [N.kws]
  | 15, _ => simp [N.kws]
  | n + 16, hk => omega

set_option maxRecDepth 100000 in
set_option maxHeartbeats 1000000 in
theorem refKeyword_any (s : ByteArray) (w : World) :
    Calls Try.prog 13 #[.string s] w fun e w' => e = .returned (.bool (N.kw s.toList)) ∧ Below w.heap.size w w' := by
  go_enter Try.func13, Try.ntmps13
  go_wp2_with (go_at_call 34; refine (keywords_any _).mono ?_; rintro e w1 ⟨rfl, hb, hc⟩)
  generalize hB : w.heap.size = B at *
  have HB : Hid (w.heap.size = B) := hB
  clear hB
  go_loop [4] (fun i => ∃ k : Nat, k ≤ 16 ∧ i = .int .i64 k ∧ ∀ j, j < k → (s.toList == N.kws.getD j []) = false) (fun i => 16 - (intOf i).toNat)
  case atStart => exact ⟨0, by omega, rfl, fun j hj => by omega⟩
  case round =>
    obtain ⟨k, hk, rfl, hno⟩ := hrel
    have Hno : Hid (∀ j, j < k → (s.toList == N.kws.getD j []) = false) := hno
    clear hno
    by_cases hlt : k < 16
    · have hck := hc k hlt
      have Hc : Hid (∀ k, k < 16 → w1.cell? ⟨B, k, none⟩ = some (.string ⟨(N.kws.getD k []).toArray⟩)) := hc
      clear hc
      generalize hK : N.kws.getD k [] = K at *
      have HK : Hid (N.kws.getD k [] = K) := hK
      clear hK
      go_wp2
      · go_ret
        exact ⟨ret_bool (by rw [N.kw_yes s.toList k hlt (by rw [HK.out]; assumption)]), by rw [HB.out]; exact hb⟩
      · go_round
        case rel =>
          refine ⟨k + 1, by omega, by go_num, fun j hj => ?_⟩
          by_cases hjk : j = k
          · subst hjk
            rw [HK.out]
            have hx : (K == s.toList) = false := by assumption
            rw [BEq.comm]; exact hx
          · exact Hno.out j (by omega)
        case measure => simp [intOf]; omega
    · go_wp2
      go_ret
      exact ⟨ret_bool (by rw [N.kw_no s.toList (fun j hj => Hno.out j (by omega))]), by rw [HB.out]; exact hb⟩
end Go.Proofs.Ytgjdpgmffhihnaa
