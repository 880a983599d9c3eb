import Derived.Test.YtpnkfbmdpgdbcaaGreatDoorGoB
import Derived.Test.YtpnkfbmdpgdbcaaGreatDoorGoC
set_option linter.unusedVariables false
set_option linter.unusedSimpArgs false
namespace Go.Proofs.YtpnkfbmdpgdbcaaGreatDoor
open Go.RowKit
theorem run_few (T : Tx) : ∀ f i, (T.run f i).1.length ≤ f := by
  intro f
  induction f with
  | zero => intro i; simp [Tx.run]
  | succ f ih =>
    intro i
    unfold Tx.run
    split
    · split
      · simp
      · have := ih (by assumption)
        simp only [List.length_cons]
        exact Nat.succ_le_succ (ih _)
    · simp
theorem run_code {T : Tx} {s : ByteArray} (hs : T.s = s) (G : L.Good s T.C T.N 0 (1, 1)) (hz : s.size ≤ 65536) (ok : T.Ok) : ∀ f i, i ≤ T.N → ∀ x, (T.run f i).2 = some x → x.1 ≠ 0 := by
  intro f
  induction f with
  | zero => intro i _ x h; simp [Tx.run] at h
  | succ f ih =>
    intro i hi x h
    cases hR : T.tokR i with
    | tok k t l c j =>
      have hj := tok_le ok hi hR
      by_cases h5 : k = 5
      · subst h5
        rw [run_end hR] at h; simp at h
      · rw [run_tok hR h5] at h
        exact ih j hj x h
    | flt code l c word =>
      rw [run_flt hR] at h
      simp only [Option.some.injEq] at h
      rw [← h]
      exact tokR_code hs G hz ok hi hR
theorem scn_facts (s : ByteArray) (hz : s.size ≤ 65536) : (L.scn s).1.length ≤ 69000 ∧ ∀ x, (L.scn s).2 = some x → x.1 ≠ 0 := by
  obtain ⟨N, G⟩ := L.good_cx s
  have ok : (⟨s, L.cx s, N, none, N, 0, 0⟩ : Tx).Ok := ⟨G, hz, Nat.le_refl _⟩
  have e := run_scn (T := ⟨s, L.cx s, N, none, N, 0, 0⟩) rfl rfl ok
  have hN : N ≤ 65536 := by have := G.few; omega
  rw [← e]
  refine ⟨Nat.le_trans (run_few _ _ _) (show N + 2 ≤ 69000 by omega), ?_⟩
  exact run_code (T := ⟨s, L.cx s, N, none, N, 0, 0⟩) rfl G hz ok _ 0 (Nat.zero_le _)
theorem each_law (s : ByteArray) (most : Int) (w : World) (hs : s.size ≤ maxLen) (hm : -9223372036854775808 ≤ most ∧ most ≤ 9223372036854775807) (hg0 : w.cell? ⟨0, 0, none⟩ = some (ty 29)) :
    Calls Tryz.prog 4 #[.string s, .int .i64 most] w fun e w' => e = .returned (.bool true) ∧ Below w.heap.size w w' := by
  by_cases hz : s.size ≤ 65536
  · exact law_any s most w (L.scn s) hm hg0 (scn_facts s hz).1 (scn_facts s hz).2 (fun W => rcut_any s W hz) (fun W h => goes_any s most W hz hm h)
  · refine law_any s most w scnL hm hg0 (by decide) (fun x h => ?_) (fun W => ?_) (fun W h => goes_long s most W (by omega) hs hm h)
    · have h' : some (5, 0, 0, (⟨#[]⟩ : ByteArray)) = some x := h
      simp only [Option.some.injEq] at h'
      rw [← h']; decide
    · refine (rcut_long s W (by omega) hs).mono ?_
      rintro e w' ⟨rfl, b⟩
      exact ⟨_, rfl, World.ownsRow_nil _ _ _ _, b⟩
end Go.Proofs.YtpnkfbmdpgdbcaaGreatDoor
