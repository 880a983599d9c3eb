import Derived.Test.YtfeehnfpfheojaaTlG
import Derived.Test.YtfeehnfpfheojaaWds
import Derived.BigQuiet
set_option linter.unusedVariables false
set_option linter.unusedSimpArgs false
namespace Go.Proofs.Ytfeehnfpfheojaa
open Go.RowKit Go.Sort
namespace Ar
open Fr
variable {B : Nat} {so : Option Addr} {sc : Nat} {L : List Bk} {w w' : World}
theorem vk (k : Nat) (h : k < 1000000) : wrap64 ((k : Int) + 1) = (k : Int) + 1 := by unfold wrap64; omega
theorem drop_cons {k : Nat} {b : Bk} (h : L[k]? = some b) : L.drop k = b :: L.drop (k + 1) := by
  have hk : k < L.length := (List.getElem?_eq_some_iff.1 h).1
  have e : L[k] = b := (List.getElem?_eq_some_iff.1 h).2
  rw [List.drop_eq_getElem_cons hk, e]
/-- no two free ones side by side -/
def Alt (L : List Bk) : Prop := ∀ A C b c, L = A ++ b :: c :: C → ¬ (b.free = true ∧ c.free = true)
theorem Alt.at (h : Alt L) {k : Nat} {a b : Bk} (ha : L[k]? = some a) (hb : L[k + 1]? = some b) : ¬ (a.free = true ∧ b.free = true) := by
  refine h (L.take k) (L.drop (k + 2)) a b ?_
  rw [← drop_cons hb, ← drop_cons ha, List.take_append_drop]
set_option maxRecDepth 100000 in
set_option maxHeartbeats 4000000 in
theorem covers_any (s e : Int) (hr : RowB B so sc L w) (hc : Cov s L e) (ha : Alt L) (h0 : 0 ≤ s) (h1 : e ≤ 65536) (hl : L.length < 1000000) : Calls Try.prog 56 #[.slice so L.length sc, .int .i64 s, .int .i64 e] w fun r w' => r = .returned (.bool true) ∧ w' = w := by
  have HR := hide' hr
  have HA := hide' ha
  have Hl := hide' hl
  have Hc := hide' hc
  have H1 := hide' h1
  have H0 := hide' h0
  clear hr ha hl hc h1 h0
  go_enter Try.func56, Try.ntmps56
  go_wp2_with fail
  go_loopw [7, 8] (fun t7 t8 wx => ∃ (k : Nat) (nx : Int), t7 = .int .i64 nx ∧ t8 = .int .i64 (k : Int) ∧ k ≤ L.length ∧ Cov nx (L.drop k) e ∧ s ≤ nx ∧ wx = w) (fun _ t8 _ => L.length - (intOf t8).toNat)
  case atStart => exact ⟨0, s, rfl, rfl, Nat.zero_le _, Hc.out, Int.le_refl _, rfl⟩
  case round =>
    obtain ⟨k, nx, rfl, rfl, hk, hcv, hs, hw⟩ := hrel
    replace hw := hw.symm
    subst hw
    by_cases hlt : k < L.length
    · obtain ⟨b, hb⟩ : ∃ b, L[k]? = some b := ⟨_, List.getElem?_eq_getElem hlt⟩
      rw [drop_cons hb] at hcv
      obtain ⟨c1, c2, c3⟩ := hcv
      have c4 := cov_le c3
      obtain ⟨g, hso, hcap, i0, i1, i2⟩ := HR.out.item hb
      have e1 := vk k (by have := Hl.out; omega)
      have hh0 := H0.out
      have hh1 := H1.out
      have e2 : wrap64 (e - nx) = e - nx := by unfold wrap64; omega
      have e3 : wrap64 (nx + b.size) = nx + b.size := by unfold wrap64; omega
      have hlt' : (k : Int) < (L.length : Int) := by omega
      have KK : Hid (Cov (nx + b.size) (L.drop (k + 1)) e ∧ s ≤ nx + b.size) := hide' ⟨c3, by omega⟩
      have q2 : decide (b.size < 1) = false := by simp; omega
      have q3 : decide (e - nx < b.size) = false := by simp; omega
      rw [c1] at i0
      subst hso
      have hend : Hid (L.length - ((k : Int) + 1).toNat < L.length - (k : Int).toNat) := (show L.length - ((k : Int) + 1).toNat < L.length - (k : Int).toNat by omega)
      by_cases hk0 : 0 < k
      · obtain ⟨j, hj⟩ : ∃ j, k = j + 1 := ⟨k - 1, by omega⟩
        obtain ⟨a, haj⟩ : ∃ a, L[j]? = some a := ⟨_, List.getElem?_eq_getElem (by omega)⟩
        obtain ⟨g', hso', _, _, _, j2⟩ := HR.out.item haj
        simp only [Option.some.injEq, Addr.mk.injEq, and_true] at hso'
        obtain rfl := hso'
        have hfr : ¬ (a.free = true ∧ b.free = true) := HA.out.at haj (by rw [← hj]; exact hb)
        have e4 : wrap64 ((k : Int) - 1) = (j : Int) := by have := Hl.out; unfold wrap64; omega
        have hjl : (j : Int) < (L.length : Int) := by omega
        clear c1 c3 c4 hs hk hh0 hh1 hj haj c2 hb
        cases hbf : b.free with
        | false =>
          rw [hbf] at i2
          clear hfr hbf
          go_wp2
          go_roundw
          case rel => exact ⟨k + 1, nx + b.size, by first | rfl | rw [e3], by go_num, hlt, KK.out.1, KK.out.2, by first | rfl | trivial⟩
          case measure => first | exact hend.out | (rw [e1]; exact hend.out)
        | true =>
          cases haf : a.free with
          | true => exact absurd ⟨haf, hbf⟩ hfr
          | false =>
            rw [hbf] at i2
            rw [haf] at j2
            clear hfr hbf haf
            go_wp2
            go_roundw
            case rel => exact ⟨k + 1, nx + b.size, by first | rfl | rw [e3], by go_num, hlt, KK.out.1, KK.out.2, by first | rfl | trivial⟩
            case measure => first | exact hend.out | (rw [e1]; exact hend.out)
      · clear c1 c3 c4 hs hk hh0 hh1 c2 hb
        go_wp2
        go_roundw
        case rel => exact ⟨k + 1, nx + b.size, by first | rfl | rw [e3], by go_num, hlt, KK.out.1, KK.out.2, by first | rfl | trivial⟩
        case measure => first | exact hend.out | (rw [e1]; exact hend.out)
    · obtain rfl : k = L.length := by omega
      rw [List.drop_length] at hcv
      have hcv' : nx = e := hcv
      clear hcv
      subst hcv'
      go_wp2
      go_ret
      exact ⟨by simp, rfl⟩
end Ar
end Go.Proofs.Ytfeehnfpfheojaa
