import Derived.Test.YtfeehnfpfheojaaWrd
set_option linter.unusedVariables false
set_option linter.unusedSimpArgs false
namespace Go.Proofs.Ytfeehnfpfheojaa
open Go.RowKit
namespace M
variable {D : Nat → Prop} {B x : Nat} {ws : List Int} {tr : List Ac} {bad : Nat} {w w' : World}
variable {lb : Nat} {ro : Option Addr} {rc : Nat} {zs : List Int}
theorem drop_take_succ (ws : List Int) (a k : Nat) (h : a + k < ws.length) : (ws.drop a).take (k + 1) = (ws.drop a).take k ++ [ws.getD (a + k) 0] := by
  rw [List.take_succ_eq_append_getElem (by simp; omega)]
  simp [List.getD, h]
set_option maxRecDepth 100000 in
set_option maxHeartbeats 1000000 in
theorem over_take {B0 : Nat} (a m : Nat) (h : Mem D B0 x ws tr bad w) (hD : ∀ j, D j → j < B) (hL : Ls B lb none 0 [] w) (hB : B ≤ w.heap.size) (ha : a + m ≤ ws.length) (hm0 : 0 < m) : Calls Try.prog 76 #[.pointer (some ⟨x, 0, none⟩), .int .i64 (a : Nat), .int .i64 (m : Nat), .func (Fn.func 77) #[.pointer (some ⟨lb, 0, none⟩)] #[]] w fun e w' => e = .returned (.int .i64 0) ∧ ∃ ro rc, Ls B lb ro rc ((ws.drop a).take m) w' ∧ Below B w w' := by
  obtain ⟨hb, g, ao, cap, hm, hd⟩ := h
  have c0 := hm.c0
  have few := hm.few
  have hgB : g < B := hD g ((hd g).2 (.inr (.inl rfl)))
  have e1 : wrap64 ((ws.length : Int) - (m : Int)) = (ws.length : Int) - (m : Int) := wrap_in (by omega) (by omega)
  have e2 : wrap64 ((a : Int) + (m : Int)) = (a : Int) + (m : Int) := wrap_in (by omega) (by omega)
  have e3 : ∀ k : Nat, k < m → wrap64 ((k : Int) + 1) = (k : Int) + 1 := fun k hk => wrap_in (by omega) (by omega)
  have E3 := hide' e3
  have Few := hide' few
  have ha' : a < ws.length := by omega
  have hk0 : ¬ ((ws.length : Int) - (m : Int) < (a : Int)) := by omega
  have Hc := hide' (fun k (hk : k < m) => hm.cw (a + k) (by omega))
  have Hs := hide' (fun k (hk : k < m) => drop_take_succ ws a k (by omega))
  have d1 : decide ((a : Int) < 0) = false := by simp
  have d2 : decide ((m : Int) < 0) = false := by simp
  have HL := hide' hL
  have Hlen := hide' (fun k (hk : k ≤ m) => show ((ws.drop a).take k).length ≤ 65536 by rw [List.length_take]; omega)
  clear hm hd hb few e3 ha hL
  go_enter Try.func76, Try.ntmps76
  go_wp2_with fail
  go_loopw [39] (fun i wx => ∃ k : Nat, k ≤ m ∧ i = .int .i64 (k : Int) ∧ Below B w wx ∧ ∃ ro rc, Ls B lb ro rc ((ws.drop a).take k) wx) (fun i _ => m - (intOf i).toNat)
  case atStart => exact ⟨0, by omega, rfl, Below.refl _ _, none, 0, HL.out⟩
  case round =>
    obtain ⟨k, hk, rfl, hT, ro, rc, hM⟩ := hrel
    by_cases hlt : k < m
    · have cw := (hT.cell (p := ⟨g, a + k, none⟩) hgB).trans (Hc.out k hlt)
      have Hp := hide' (take_one _ g (a + k) hM (Hlen.out k hk) (Nat.le_trans hB hT.size) hgB cw)
      rw [← Hs.out k hlt] at Hp
      have e4 := E3.out k hlt
      have HT := hide' hT
      clear hM hT cw
      go_wp2_with fail
      refine Hp.out.mono ?_
      rintro e w2 ⟨rfl, ro', rc', h2, b2⟩
      have K := hide' (And.intro h2 (HT.out.trans b2))
      clear h2 b2
      go_wp2
      exact ⟨⟨k + 1, by omega, by go_num, K.out.2, ro', rc', K.out.1⟩, msr' hlt _ (E3.out k hlt)⟩
    · obtain rfl : k = m := by omega
      have K := hide' (And.intro hM hT)
      clear hM hT
      go_wp2
      go_ret
      exact ⟨rfl, ro, rc, K.out.1, K.out.2⟩
/-- a piece's words -/
def piece (ws : List Int) (a n : Int) : List Int := if Wi ws a n then (ws.drop a.toNat).take n.toNat else []
theorem over_list {B0 : Nat} (a n : Int) (h : Mem D B0 x ws tr bad w) (hD : ∀ j, D j → j < B) (hL : Ls B lb none 0 [] w) (hB : B ≤ w.heap.size) (hn2 : n ≤ 9223372036854775807) : Calls Try.prog 76 #[.pointer (some ⟨x, 0, none⟩), .int .i64 a, .int .i64 n, .func (Fn.func 77) #[.pointer (some ⟨lb, 0, none⟩)] #[]] w fun e w' => e = .returned (.int .i64 (pe ws a n)) ∧ ∃ ro rc, Ls B lb ro rc (piece ws a n) w' ∧ Below B w w' := by
  by_cases hw : Wi ws a n
  · obtain ⟨h0, h1, h2⟩ := id hw
    obtain ⟨k, rfl⟩ : ∃ k : Nat, a = (k : Int) := ⟨a.toNat, by omega⟩
    obtain ⟨m, rfl⟩ : ∃ k : Nat, n = (k : Int) := ⟨n.toNat, by omega⟩
    rw [show pe ws k m = 0 from if_pos hw, show piece ws k m = (ws.drop k).take m by unfold piece; rw [if_pos hw, Int.toNat_natCast, Int.toNat_natCast]]
    by_cases hm : m = 0
    · subst hm
      exact (over_none _ k h (by omega)).mono fun e w' ⟨he, hw'⟩ => by subst hw'; exact ⟨he, none, 0, hL, Below.refl _ _⟩
    · exact over_take k m h hD hL hB (by omega) (by omega)
  · rw [show pe ws a n = 140 from if_neg hw, show piece ws a n = [] from if_neg hw]
    exact (over_no _ a n h hw hn2).mono fun e w' ⟨he, hw'⟩ => by subst hw'; exact ⟨he, none, 0, hL, Below.refl _ _⟩
set_option maxRecDepth 100000 in
set_option maxHeartbeats 400000 in
theorem words_any (a n : Int) (h : Mem D B x ws tr bad w) (hn2 : n ≤ 9223372036854775807) : Calls Try.prog 34 #[.pointer (some ⟨x, 0, none⟩), .int .i64 a, .int .i64 n] w fun e w' => ∃ ro rc, e = .returned (.tuple #[.slice ro (piece ws a n).length rc, .int .i64 (pe ws a n)]) ∧ w'.ownsRow w.heap.size 3 1 (.slice ro (piece ws a n).length rc) (piece ws a n).length (ivs (piece ws a n)) ∧ Below w.heap.size w w' := by
  have hD : ∀ j, D j → j < w.heap.size := fun j hj => (h.lo hj).2
  have h' := h.below ((Below.refl w.heap.size w).alloc (Nat.le_refl _) (.cells #[.slice none 0 0] 139))
  have hL : Ls w.heap.size w.heap.size none 0 [] (w.alloc (.cells #[.slice none 0 0] 139)) := ⟨heap_alloc_new _ _, World.ownsRow_nil _ _ _ _, Nat.le_refl _⟩
  have H := hide' (over_list a n h' hD hL (by simp) hn2)
  generalize pe ws a n = E at *
  generalize piece ws a n = R at *
  clear h h' hD hL hn2
  go_enter Try.func34, Try.ntmps34
  go_wp2_with fail
  refine H.out.mono ?_
  rintro e w2 ⟨rfl, ro, rc, h2, b2⟩
  have c1 : w2.cell? ⟨w.heap.size, 0, none⟩ = some (.slice ro R.length rc) := by rw [Lib.cell_of_heap h2.hl]; rfl
  have K := hide' (And.intro h2.row (((Below.refl w.heap.size w).alloc (Nat.le_refl _) (.cells #[.slice none 0 0] 139)).trans b2))
  clear h2 b2 H
  go_wp2
  go_ret2
  exact ⟨ro, rc, rfl, K.out.1, K.out.2⟩
end M
end Go.Proofs.Ytfeehnfpfheojaa
