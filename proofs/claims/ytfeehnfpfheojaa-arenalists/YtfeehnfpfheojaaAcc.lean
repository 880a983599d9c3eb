import Derived.Test.YtfeehnfpfheojaaMem
set_option linter.unusedVariables false
set_option linter.unusedSimpArgs false
namespace Go.Proofs.Ytfeehnfpfheojaa
open Go.RowKit
namespace M
variable {B x g : Nat} {ws : List Int} {ao : Option Addr} {cap : Nat} {tr : List Ac} {bad : Nat} {w w' : World}
theorem bad_wrap {bad : Nat} (h : bad < 2000000000000) : wrap64 ((bad : Int) + 1) = ((bad + 1 : Nat) : Int) := by unfold wrap64; omega
set_option maxRecDepth 100000 in
set_option maxHeartbeats 1000000 in
/-- an access begins -/
theorem enter_any (a : Int) (h : Me B x g ws ao cap tr bad w) (hl : bad < 2000000000000) :
    Calls Try.prog 95 #[.pointer (some ⟨x, 0, none⟩), .int .i64 a] w fun e w' => e = .returned (.tuple #[.int .i64 (std ws a), .int .i64 (er ws a)]) ∧ Me B x g ws ao cap tr (bad + bd ws a) w' ∧ Turn (Own x g ao) w w' := by
  have c0 := h.c0
  have c2 := h.c2
  have f2 := h.fx 2
  have few := h.few
  have Hb := hide' (h.badly (bad + 1))
  have Hw : Hid (wrap64 ((bad : Int) + 1) = ((bad + 1 : Nat) : Int)) := bad_wrap hl
  clear hl
  by_cases hin : 0 ≤ a ∧ a < (ws.length : Int)
  · obtain ⟨h0, h1⟩ := hin
    obtain ⟨k, rfl⟩ : ∃ k : Nat, a = (k : Int) := ⟨a.toNat, by omega⟩
    have hk : k < ws.length := by omega
    have cw := h.cw k hk
    by_cases hp : ws.getD k 0 = P
    · obtain ⟨e1, e2⟩ := er_poi hk hp
      rw [bd_no (by rw [e1]; decide), e1, e2]
      rw [hp] at cw
      unfold P at cw ⊢
      clear h e1 e2 hp few
      go_enter Try.func95, Try.ntmps95
      go_wp2
      go_ret2
      rw [Hw.out]
      exact ⟨rfl, Hb.out.1, Hb.out.2⟩
    · obtain ⟨e1, e2⟩ := er_ok hk hp
      rw [bd_ok e1, e1, e2]
      have H := hide' h
      unfold P at hp
      have hpd : (ws.getD k 0 == -4611686018427387904) = false := by simpa using hp
      clear h e1 e2 hp Hb few Hw
      generalize ws.getD k 0 = u at *
      go_enter Try.func95, Try.ntmps95
      go_wp2
      go_ret2
      exact ⟨rfl, H.out, Turn.refl _ _⟩
  · obtain ⟨e1, e2⟩ := er_out (ws := ws) (a := a) hin
    rw [bd_no (by rw [e1]; decide), e1, e2]
    by_cases h0 : a < 0
    · clear h e1 e2 hin
      go_enter Try.func95, Try.ntmps95
      go_wp2
      go_ret2
      rw [Hw.out]
      exact ⟨rfl, Hb.out.1, Hb.out.2⟩
    · have h1 : (ws.length : Int) ≤ a := by omega
      clear h e1 e2 hin
      go_enter Try.func95, Try.ntmps95
      go_wp2
      go_ret2
      rw [Hw.out]
      exact ⟨rfl, Hb.out.1, Hb.out.2⟩
end M
end Go.Proofs.Ytfeehnfpfheojaa
