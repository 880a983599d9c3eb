import Derived.Test.YtggcaekdgjhgaaaLng
set_option linter.unusedVariables false
set_option linter.unusedSimpArgs false
namespace Go.Proofs.Ytggcaekdgjhgaaa
open Go.RowKit Go.Maps
namespace Q
/-- the mark behind pairs -/
def sharp : K2 := ({ data := #[35] }, ByteArray.empty)
set_option maxHeartbeats 1000000 in
set_option maxRecDepth 100000 in
/-- pairs with the mark behind them, against the pairs -/
theorem asPairs_any (lo mo : Option Addr) (lc mc : Nat) (ms : List K2) (w : World) (h1 : Ints lo (ms ++ [sharp]) w) (h2 : Ints mo ms w) (hlc : ms.length + 1 ≤ lc) (hmc : ms.length ≤ mc) (hl : Hid (ms.length < 1099511627776)) : Calls Try.prog 54 #[.slice lo (ms.length + 1) lc, .slice mo ms.length mc] w fun e w' => e = .returned (.bool true) ∧ ∃ m, w' = w.drewN m := by
  have Ha := hide' h1
  have Hb := hide' h2
  clear h1 h2
  have hs : (ms ++ [sharp])[ms.length]? = some sharp := by simp
  obtain ⟨x0, off0, rfl, _, c0, c1⟩ := Ha.out.at hs
  have c0' : w.cell? ⟨x0, off0 + ms.length * 2, none⟩ = some (.string { data := #[35] }) := c0
  have c1' : w.cell? ⟨x0, off0 + ms.length * 2 + 1, none⟩ = some (.string ByteArray.empty) := c1
  clear c0 c1 hs
  have hm64 : (ms.length : Int) < 1099511627776 := by have := hl.out; omega
  have htt := text_eq ({ data := #[35] } : ByteArray)
  have hte := text_eq ByteArray.empty
  go_enter Try.func54, Try.ntmps54
  go_wp2_with fail
  go_loopw [5] (fun i wx => ∃ k n : Nat, k ≤ ms.length ∧ i = .int .i64 (k : Int) ∧ wx = w.drewN n) (fun i _ => ms.length - (intOf i).toNat)
  case atStart => exact ⟨0, 0, by omega, rfl, rfl⟩
  case round =>
    obtain ⟨k, n, hk, rfl, rfl⟩ := hrel
    by_cases hlt : k < ms.length
    · have hlt' : (k : Int) < (ms.length : Int) := by omega
      have hk64 : (k : Int) < 1099511627776 := by omega
      obtain ⟨z, hz⟩ : ∃ z, ms[k]? = some z := ⟨_, List.getElem?_eq_getElem hlt⟩
      have hz' : (ms ++ [sharp])[k]? = some z := by rw [List.getElem?_append_left hlt]; exact hz
      obtain ⟨x, off, hx, _, c1, c2⟩ := Ha.out.at hz'
      cases hx
      obtain ⟨y, offb, rfl, _, d1, d2⟩ := Hb.out.at hz
      have hzz := text_eq z.1
      have hzw := text_eq z.2
      clear hz hz' htt hte c0' c1'
      go_wp2
      go_quiet (fail)
      go_wp2
      exact ⟨⟨k + 1, n + nq, by omega, by go_num, rfl⟩, by simp [intOf]; omega⟩
    · have hkl : k = ms.length := by omega
      subst hkl
      have hlt' : ¬ (ms.length : Int) < (ms.length : Int) := by omega
      go_wp2
      go_ret
      exact ⟨rfl, n, rfl⟩
end Q
end Go.Proofs.Ytggcaekdgjhgaaa
