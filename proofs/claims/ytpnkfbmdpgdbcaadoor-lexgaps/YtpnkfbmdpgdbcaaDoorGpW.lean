import Derived.Test.YtpnkfbmdpgdbcaaDoorGpP
set_option linter.unusedVariables false
set_option linter.unusedSimpArgs false
namespace Go.Proofs.YtpnkfbmdpgdbcaaDoor
open Go.RowKit
theorem winc {i : Nat} (h : i ≤ 140737488355328) : wrap64 ((i : Int) + 1) = ((i + 1 : Nat) : Int) := by unfold wrap64; omega
set_option maxHeartbeats 4000000 in
set_option maxRecDepth 100000 in
/-- what stands between two tokens -/
theorem gap_any (n : Int) (hn : -9223372036854775808 ≤ n ∧ n ≤ 9223372036854775807) (s : ByteArray) (hs : s.size ≤ 140737488355328) (w : World) :
    Calls Tryd.prog 8 #[.int .i64 n, .string s] w fun e w' => e = .returned (.string ⟨(L.gpL (pik n 5) s).toArray⟩) ∧ w' = w := by
  have HP := hide' (fun W => pick_any n 5 W hn (by omega))
  have hp := pik_bd n 5 (by omega)
  obtain ⟨p, ep⟩ : ∃ p, pik n 5 = p := ⟨_, rfl⟩
  rw [ep] at HP hp ⊢
  have HS := hide' hs
  clear ep hn hs
  rcases (show p = 0 ∨ p = 1 ∨ p = 2 ∨ p = 3 ∨ p = 4 by omega) with rfl | rfl | rfl | rfl | rfl
  · clear hp
    go_enter Tryd.func8, Tryd.ntmps8
    go_wp2_with (go_at_call 10; refine (HP.out _).mono ?_; rintro e w5 ⟨rfl, rfl⟩)
    go_ret
    exact ⟨rfl, rfl⟩
  · clear hp
    go_enter Tryd.func8, Tryd.ntmps8
    go_wp2_with (go_at_call 10; refine (HP.out _).mono ?_; rintro e w5 ⟨rfl, rfl⟩)
    go_ret
    exact ⟨rfl, rfl⟩
  · clear hp
    go_enter Tryd.func8, Tryd.ntmps8
    go_wp2_with (go_at_call 10; refine (HP.out _).mono ?_; rintro e w5 ⟨rfl, rfl⟩)
    go_loopw [5, 6] (fun sv iv wx => ∃ (i : Nat) (X : ByteArray) (V : World), V = wx ∧ sv = .string X ∧ iv = .int .i64 (i : Int) ∧ i ≤ s.size ∧ X = ⟨(35 :: L.ntL (s.data.toList.take i)).toArray⟩ ∧ X.size ≤ 1 + i ∧ V = w5) (fun _ iv _ => s.size - (intOf iv).toNat)
    case atStart => exact ⟨0, _, _, rfl, rfl, rfl, by omega, rfl, by decide, rfl⟩
    case round =>
      obtain ⟨i, X, V, rfl, rfl, rfl, hi, hX, hz, rfl⟩ := hrel
      have HX := hide' hX
      clear hX
      by_cases hlt : i < s.size
      · have hlt' : (i : Int) < ((s.size : Nat) : Int) := by omega
        have ei := winc (i := i) (by have := HS.out; omega)
        have hext : (s.extract i (i + 1)).size = 1 := by rw [L.ext_one s i hlt]; rfl
        have ho : ¬ 9223372036854775807 < X.size + 1 := by have := HS.out; omega
        have hb := L.byte_at s i hlt
        have Hz := hide' (show (X ++ s.extract i (i + 1)).size ≤ 1 + (i + 1) by rw [ByteArray.size_append, hext]; omega)
        by_cases h10 : L.bt s i = 10
        · go_wp2_with fail
          rw [ei]
          exact ⟨⟨i + 1, X, _, rfl, rfl, rfl, hlt, L.nt_skip hlt h10 HX.out, by omega, rfl⟩, show s.size - (((i + 1 : Nat) : Int)).toNat < s.size - ((i : Int)).toNat by omega⟩
        · go_wp2_with fail
          rw [ei]
          exact ⟨⟨i + 1, _, _, rfl, rfl, rfl, hlt, L.nt_step hlt h10 HX.out, Hz.out, rfl⟩, show s.size - (((i + 1 : Nat) : Int)).toNat < s.size - ((i : Int)).toNat by omega⟩
      · have hlt' : ¬ (i : Int) < ((s.size : Nat) : Int) := by omega
        have ho : ¬ 9223372036854775807 < X.size + 1 := by have := HS.out; omega
        go_wp2_with fail
        go_ret
        exact ⟨by rw [L.nt_end hlt HX.out]; rfl, rfl⟩
  · clear hp
    go_enter Tryd.func8, Tryd.ntmps8
    go_wp2_with (go_at_call 10; refine (HP.out _).mono ?_; rintro e w5 ⟨rfl, rfl⟩)
    go_ret
    exact ⟨rfl, rfl⟩
  · clear hp
    go_enter Tryd.func8, Tryd.ntmps8
    go_wp2_with (go_at_call 10; refine (HP.out _).mono ?_; rintro e w5 ⟨rfl, rfl⟩)
    go_ret
    exact ⟨rfl, rfl⟩
set_option maxHeartbeats 4000000 in
set_option maxRecDepth 100000 in
/-- a text in quotes -/
theorem quotes_any (s : ByteArray) (hs : s.size ≤ 140737488355328) (w : World) :
    Calls Tryd.prog 14 #[.string s] w fun e w' => e = .returned (.string ⟨(L.qtL s).toArray⟩) ∧ w' = w := by
  have HS := hide' hs
  clear hs
  go_enter Tryd.func14, Tryd.ntmps14
  go_wp2_with fail
  go_loopw [3, 4] (fun sv iv wx => ∃ (i : Nat) (X : ByteArray) (V : World), V = wx ∧ sv = .string X ∧ iv = .int .i64 (i : Int) ∧ i ≤ s.size ∧ X = ⟨(34 :: L.qcL (s.data.toList.take i)).toArray⟩ ∧ X.size ≤ 1 + 2 * i ∧ V = w) (fun _ iv _ => s.size - (intOf iv).toNat)
  case atStart => exact ⟨0, _, _, rfl, rfl, rfl, by omega, rfl, by decide, rfl⟩
  case round =>
    obtain ⟨i, X, V, rfl, rfl, rfl, hi, hX, hz, rfl⟩ := hrel
    have HX := hide' hX
    clear hX
    by_cases hlt : i < s.size
    · have hlt' : (i : Int) < ((s.size : Nat) : Int) := by omega
      have ei := winc (i := i) (by have := HS.out; omega)
      have hext : (s.extract i (i + 1)).size = 1 := by rw [L.ext_one s i hlt]; rfl
      have ho : ¬ 9223372036854775807 < X.size + 1 := by have := HS.out; omega
      have ho2 : ¬ 9223372036854775807 < X.size + 1 + 1 := by have := HS.out; omega
      have hb := L.byte_at s i hlt
      have hso : (⟨#[92]⟩ : ByteArray).size = 1 := rfl
      have Hz := hide' (show (X ++ s.extract i (i + 1)).size ≤ 1 + 2 * (i + 1) by rw [ByteArray.size_append, hext]; omega)
      have Hz2 := hide' (show (X ++ ⟨#[92]⟩ ++ s.extract i (i + 1)).size ≤ 1 + 2 * (i + 1) by rw [ByteArray.size_append, ByteArray.size_append, hext, hso]; omega)
      have HQ := hide' (L.qc_step hlt HX.out)
      clear hso
      by_cases h34 : L.bt s i = 34
      · go_wp2_with fail
        rw [ei]
        exact ⟨⟨i + 1, _, _, rfl, rfl, rfl, hlt, HQ.out.1 (.inl h34), Hz2.out, rfl⟩, show s.size - (((i + 1 : Nat) : Int)).toNat < s.size - ((i : Int)).toNat by omega⟩
      · obtain ⟨z34, z34'⟩ := (⟨by rw [beq_eq_false_iff_ne]; omega, by omega⟩ : ((L.bt s i : Int) == 34) = false ∧ ¬ (L.bt s i : Int) = 34)
        by_cases h92 : L.bt s i = 92
        · go_wp2_with fail
          rw [ei]
          exact ⟨⟨i + 1, _, _, rfl, rfl, rfl, hlt, HQ.out.1 (.inr h92), Hz2.out, rfl⟩, show s.size - (((i + 1 : Nat) : Int)).toNat < s.size - ((i : Int)).toNat by omega⟩
        · obtain ⟨z92, z92'⟩ := (⟨by rw [beq_eq_false_iff_ne]; omega, by omega⟩ : ((L.bt s i : Int) == 92) = false ∧ ¬ (L.bt s i : Int) = 92)
          go_wp2_with fail
          rw [ei]
          exact ⟨⟨i + 1, _, _, rfl, rfl, rfl, hlt, HQ.out.2 h34 h92, Hz.out, rfl⟩, show s.size - (((i + 1 : Nat) : Int)).toNat < s.size - ((i : Int)).toNat by omega⟩
    · have hlt' : ¬ (i : Int) < ((s.size : Nat) : Int) := by omega
      have ho : ¬ 9223372036854775807 < X.size + 1 := by have := HS.out; omega
      go_wp2_with fail
      go_ret
      exact ⟨by rw [L.qc_end hlt HX.out]; rfl, rfl⟩
end Go.Proofs.YtpnkfbmdpgdbcaaDoor
