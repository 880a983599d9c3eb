import Derived.Test.YtfeehnfpfheojaaFilP
set_option linter.unusedVariables false
set_option linter.unusedSimpArgs false
namespace Go.Proofs.Ytfeehnfpfheojaa
open Go.RowKit
namespace M
variable {D : Nat → Prop} {B x : Nat} {ws : List Int} {tr : List Ac} {bad : Nat} {w w' : World}
set_option maxHeartbeats 400000 in
theorem put_one (c : Int) (g i : Nat) (v : Value) (w : World) (hc : w.cell? ⟨g, i, none⟩ = some v) (hf : w.frozen? ⟨g, i, none⟩ = false) : Calls Try.prog 103 #[.int .i64 c, .pointer (some ⟨g, i, none⟩)] w fun e w' => e = .returned (.tuple #[]) ∧ w' = w.setCell ⟨g, i, none⟩ (.int .i64 c) := by
  go_enter Try.func103, Try.ntmps103
  go_wp2
  go_end0
  exact ⟨rfl, rfl⟩
set_option maxRecDepth 100000 in
set_option maxHeartbeats 400000 in
theorem over_no (f : Value) (a n : Int) (h : Mem D B x ws tr bad w) (hn : ¬ Wi ws a n) (hn2 : n ≤ 9223372036854775807) : Calls Try.prog 76 #[.pointer (some ⟨x, 0, none⟩), .int .i64 a, .int .i64 n, f] w fun e w' => e = .returned (.int .i64 140) ∧ w' = w := by
  obtain ⟨hb, g, ao, cap, hm, hd⟩ := h
  have c0 := hm.c0
  have few := hm.few
  clear hm hd hb
  by_cases h0 : a < 0
  · clear hn few hn2
    go_enter Try.func76, Try.ntmps76
    go_wp2
    go_ret
    exact ⟨rfl, rfl⟩
  by_cases h1 : n < 0
  · clear hn few hn2
    go_enter Try.func76, Try.ntmps76
    go_wp2
    go_ret
    exact ⟨rfl, rfl⟩
  have h2 : wrap64 ((ws.length : Int) - n) < a := by
    unfold Wi at hn
    unfold wrap64
    omega
  clear hn hn2 few
  go_enter Try.func76, Try.ntmps76
  go_wp2
  go_ret
  exact ⟨rfl, rfl⟩
theorem wrap_in {i : Int} (h0 : 0 ≤ i) (h1 : i ≤ 65536) : wrap64 i = i := by unfold wrap64; omega
set_option maxRecDepth 100000 in
set_option maxHeartbeats 400000 in
theorem over_none (f : Value) (a : Nat) (h : Mem D B x ws tr bad w) (ha : a ≤ ws.length) : Calls Try.prog 76 #[.pointer (some ⟨x, 0, none⟩), .int .i64 (a : Nat), .int .i64 0, f] w fun e w' => e = .returned (.int .i64 0) ∧ w' = w := by
  obtain ⟨hb, g, ao, cap, hm, hd⟩ := h
  have c0 := hm.c0
  have few := hm.few
  have e1 : wrap64 (ws.length : Int) = (ws.length : Int) := wrap_in (by omega) (by omega)
  have e2 : wrap64 (a : Int) = (a : Int) := wrap_in (by omega) (by omega)
  clear hm hd hb few
  by_cases h0 : a = ws.length
  · subst h0
    clear e2
    go_enter Try.func76, Try.ntmps76
    go_wp2_with fail
    go_loopw [39] (fun i wx => wx = w ∧ i = .int .i64 0) (fun i _ => 0)
    case atStart => exact ⟨rfl, rfl⟩
    case round =>
      obtain ⟨rfl, rfl⟩ := hrel
      go_wp2
      go_ret
      exact ⟨rfl, rfl⟩
  · have ha' : a < ws.length := by omega
    go_enter Try.func76, Try.ntmps76
    go_wp2_with fail
    go_loopw [39] (fun i wx => wx = w ∧ i = .int .i64 0) (fun i _ => 0)
    case atStart => exact ⟨rfl, rfl⟩
    case round =>
      obtain ⟨rfl, rfl⟩ := hrel
      go_wp2
      go_ret
      exact ⟨rfl, rfl⟩
set_option maxRecDepth 100000 in
set_option maxHeartbeats 400000 in
theorem over_put (c : Int) (a m : Nat) (h : Mem D B x ws tr bad w) (ha : a + m ≤ ws.length) (hm0 : 0 < m) : Calls Try.prog 76 #[.pointer (some ⟨x, 0, none⟩), .int .i64 (a : Nat), .int .i64 (m : Nat), .func (Fn.func 103) #[.int .i64 c] #[]] w fun e w' => e = .returned (.int .i64 0) ∧ Mem D B x (fil ws a c m) tr bad w' ∧ Turn D w w' := by
  obtain ⟨hb, g, ao, cap, hm, hd⟩ := h
  have c0 := hm.c0
  have few := hm.few
  have e1 : wrap64 ((ws.length : Int) - (m : Int)) = (ws.length : Int) - (m : Int) := wrap_in (by omega) (by omega)
  have e2 : wrap64 ((a : Int) + (m : Int)) = (a : Int) + (m : Int) := wrap_in (by omega) (by omega)
  have e3 : ∀ k : Nat, k < m → wrap64 ((k : Int) + 1) = (k : Int) + 1 := fun k hk => wrap_in (by omega) (by omega)
  have E3 := hide' e3
  have ha' : a < ws.length := by omega
  have hk0 : ¬ ((ws.length : Int) - (m : Int) < (a : Int)) := by omega
  have Hm := hide' hm
  have Hd := hide' hd
  have Hbb := hide' hb
  have Ha := hide' ha
  have HL := hide' (fun k => fil_len ws a c k)
  have d1 : decide ((a : Int) < 0) = false := by simp
  have d2 : decide ((m : Int) < 0) = false := by simp
  clear hm hd hb few e3 ha
  go_enter Try.func76, Try.ntmps76
  go_wp2_with fail
  go_loopw [39] (fun i wx => ∃ k : Nat, k ≤ m ∧ i = .int .i64 (k : Int) ∧ Me B x g (fil ws a c k) ao cap tr bad wx ∧ Turn (Own x g ao) w wx) (fun i _ => m - (intOf i).toNat)
  case atStart => exact ⟨0, by omega, rfl, Hm.out, Turn.refl _ _⟩
  case round =>
    obtain ⟨k, hk, rfl, hM, hT⟩ := hrel
    by_cases hlt : k < m
    · have cw := hM.cw (a + k) (by rw [HL.out]; have := Ha.out; omega)
      have fw := hM.fw (a + k)
      obtain ⟨hM', hT'⟩ := hM.put (a + k) c
      have K := hide' (And.intro hM' (hT.trans hT'))
      have Hp := hide' (put_one c g (a + k) _ wr cw fw)
      have e4 := E3.out k hlt
      clear hM hT hM' hT' cw fw
      go_wp2_with fail
      refine Hp.out.mono ?_
      rintro e w2 ⟨rfl, rfl⟩
      go_wp2
      exact ⟨⟨k + 1, by omega, by go_num, K.out.1, K.out.2⟩, msr' hlt _ (E3.out k hlt)⟩
    · obtain rfl : k = m := by omega
      have K := hide' (And.intro hM hT)
      clear hM hT
      go_wp2
      go_ret
      exact ⟨rfl, ⟨Hbb.out, g, ao, cap, K.out.1, Hd.out⟩, Turn.of_own Hd.out K.out.2⟩
theorem over_fill (c a n : Int) (h : Mem D B x ws tr bad w) (hn2 : n ≤ 9223372036854775807) : Calls Try.prog 76 #[.pointer (some ⟨x, 0, none⟩), .int .i64 a, .int .i64 n, .func (Fn.func 103) #[.int .i64 c] #[]] w fun e w' => e = .returned (.int .i64 (pe ws a n)) ∧ Mem D B x (pfill ws a n c) tr bad w' ∧ Turn D w w' := by
  by_cases hw : Wi ws a n
  · obtain ⟨h0, h1, h2⟩ := id hw
    obtain ⟨k, rfl⟩ : ∃ k : Nat, a = (k : Int) := ⟨a.toNat, by omega⟩
    obtain ⟨m, rfl⟩ : ∃ k : Nat, n = (k : Int) := ⟨n.toNat, by omega⟩
    rw [show pe ws k m = 0 from if_pos hw, show pfill ws k m c = fil ws k c m by unfold pfill; rw [if_pos hw, Int.toNat_natCast, Int.toNat_natCast]]
    by_cases hm : m = 0
    · subst hm
      exact (over_none _ k h (by omega)).mono fun e w' ⟨he, hw'⟩ => by subst hw'; exact ⟨he, h, Turn.refl _ _⟩
    · exact over_put c k m h (by omega) (by omega)
  · rw [show pe ws a n = 140 from if_neg hw, show pfill ws a n c = ws from if_neg hw]
    exact (over_no _ a n h hw hn2).mono fun e w' ⟨he, hw'⟩ => by subst hw'; exact ⟨he, h, Turn.refl _ _⟩
set_option maxRecDepth 100000 in
set_option maxHeartbeats 400000 in
theorem poison_any (a n : Int) (h : Mem D B x ws tr bad w) (hn2 : n ≤ 9223372036854775807) : Calls Try.prog 86 #[.pointer (some ⟨x, 0, none⟩), .int .i64 a, .int .i64 n] w fun e w' => e = .returned (.int .i64 (pe ws a n)) ∧ Mem D B x (pfill ws a n P) tr bad w' ∧ Turn D w w' := by
  have H := hide' (over_fill P a n h hn2)
  generalize pe ws a n = E at *
  generalize pfill ws a n P = R at *
  unfold P at H
  clear h hn2
  go_enter Try.func86, Try.ntmps86
  go_wp2_with fail
  refine H.out.mono ?_
  rintro e w2 ⟨rfl, h2, t2⟩
  go_wp2
  go_ret
  exact ⟨rfl, h2, t2⟩
set_option maxRecDepth 100000 in
set_option maxHeartbeats 400000 in
theorem clear_any (a n : Int) (h : Mem D B x ws tr bad w) (hn2 : n ≤ 9223372036854775807) : Calls Try.prog 88 #[.pointer (some ⟨x, 0, none⟩), .int .i64 a, .int .i64 n] w fun e w' => e = .returned (.int .i64 (pe ws a n)) ∧ Mem D B x (pfill ws a n 0) tr bad w' ∧ Turn D w w' := by
  have H := hide' (over_fill 0 a n h hn2)
  generalize pe ws a n = E at *
  generalize pfill ws a n 0 = R at *
  clear h hn2
  go_enter Try.func88, Try.ntmps88
  go_wp2_with fail
  refine H.out.mono ?_
  rintro e w2 ⟨rfl, h2, t2⟩
  go_wp2
  go_ret
  exact ⟨rfl, h2, t2⟩
end M
end Go.Proofs.Ytfeehnfpfheojaa
