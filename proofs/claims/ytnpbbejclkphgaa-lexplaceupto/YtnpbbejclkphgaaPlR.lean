import Derived.Test.YtnpbbejclkphgaaPlP
import Derived.Test.YtnpbbejclkphgaaChsW
set_option linter.unusedVariables false
set_option linter.unusedSimpArgs false
namespace Go.Proofs.Ytnpbbejclkphgaa
open Go.RowKit
theorem addr_add (g j : Nat) : (⟨g, 0, none⟩ : Addr).add j = ⟨g, j, none⟩ := by
  unfold Addr.add; split <;> simp_all
/-- is it the character to which the byte belongs? -/
def isAt (a : Nat) (x : L.Ch) : Bool := decide (a < x.a + x.S.size) || a == x.a
def pick (a : Nat) : List L.Ch → Int × Int
  | [] => (0, 0)
  | x :: xs => if isAt a x then (x.l, x.c) else pick a xs
theorem pick_find (s : ByteArray) (a f p : Nat) (n : Int × Int) (hf : s.size ≤ p + f) (hp : p ≤ a) (ha : a ≤ s.size) (hps : p ≤ s.size) : pick a (L.chs s f p n) = L.find s a f p n := by
  induction f generalizing p n with
  | zero =>
    have : a = p := by omega
    simp [L.chs, pick, isAt, L.find, this]
  | succ f ih =>
    unfold L.chs L.find
    by_cases h : p < s.size
    · have h1 := L.wd_pos s p
      have h2 := L.wd_in s p h
      simp only [h, if_true, pick]
      have hsz : (s.extract p (p + L.wd s p)).size = L.wd s p := by rw [ByteArray.size_extract]; omega
      by_cases c : a < p + L.wd s p
      · simp [isAt, hsz, c]
      · have : isAt a ⟨s.extract p (p + L.wd s p), n.1, n.2, p⟩ = false := by simp [isAt, hsz]; omega
        simp only [this, c, if_false, Bool.false_eq_true]
        exact ih _ _ (by omega) (by omega) (by omega)
    · have : a = p := by omega
      simp [h, pick, isAt, this]
theorem chs_ok (s : ByteArray) (f p : Nat) (n : Int × Int) (hf : s.size ≤ p + f) (hps : p ≤ s.size) : ∀ x ∈ L.chs s f p n, x.a + x.S.size ≤ s.size := by
  induction f generalizing p n with
  | zero => intro x hx; simp [L.chs] at hx; subst hx; simp; omega
  | succ f ih =>
    unfold L.chs
    split
    · rename_i h
      have h1 := L.wd_pos s p
      have h2 := L.wd_in s p h
      intro x hx
      rcases List.mem_cons.1 hx with rfl | hx
      · simp only [ByteArray.size_extract]; omega
      · exact ih _ _ (by omega) (by omega) x hx
    · intro x hx; simp at hx; subst hx; simp; omega

set_option maxRecDepth 100000 in
set_option maxHeartbeats 1000000 in
theorem refPlace_any (s : ByteArray) (a : Int) (w : World) (hs : s.size ≤ 1048576) (ha : -9223372036854775808 ≤ a ∧ a ≤ 9223372036854775807) :
    Calls Try.prog 5 #[.string s, .int .i64 a] w fun e w' => e = .returned (.tuple #[.int .i64 (plc s a).1, .int .i64 (plc s a).2]) ∧ Below w.heap.size w w' := by
  by_cases h1 : a < 0
  · have e1 : decide (a < 0) = true := by simpa using h1
    go_enter Try.func5, Try.ntmps5
    go_wp2
    go_ret2
    exact ⟨ret_pl (by simp [plc, h1]), Below.refl _ _⟩
  have e1 : decide (a < 0) = false := by simpa using h1
  by_cases h2 : (s.size : Int) < a
  · have e2 : decide ((s.size : Int) < a) = true := by simpa using h2
    go_enter Try.func5, Try.ntmps5
    go_wp2
    go_ret2
    exact ⟨ret_pl (by simp [plc, h2]), Below.refl _ _⟩
  have e2 : decide ((s.size : Int) < a) = false := by simpa using h2
  obtain ⟨n, rfl⟩ : ∃ n : Nat, a = (n : Int) := ⟨a.toNat, by omega⟩
  have hn : n ≤ s.size := by omega
  have hpl : Hid (plc s n = pick n (L.chars s)) := by
    show _ = _
    unfold plc
    rw [if_neg (by omega)]
    exact (pick_find s n s.size 0 (1, 1) (by omega) (by omega) hn (by omega)).symm
  have hok : Hid (∀ x ∈ L.chars s, x.a + x.S.size ≤ s.size) := chs_ok s s.size 0 (1, 1) (by omega) (by omega)
  have hlen : Hid ((L.chars s).length ≤ s.size + 1) := by have := L.chs_len s s.size 0 (1, 1) (by omega); exact this
  clear h1 h2
  go_enter Try.func5, Try.ntmps5
  go_wp2_with (go_at_call 8; refine (chars_any _ _ hs).mono ?_; rintro e w1 ⟨v, rfl, hrow, b1⟩)
  have hpos : 0 < (L.chars s).length := by
    unfold L.chars
    cases hz : s.size with
    | zero => simp [L.chs]
    | succ k => simp [L.chs, hz]
  obtain ⟨gg, cap, rfl⟩ : ∃ gg cap, v = .slice (some ⟨gg, 0, none⟩) (L.chars s).length cap := by
    rcases hrow.2 with ⟨h, _⟩ | ⟨gg, cap, cur, h, _⟩
    · have := hrow.1; rw [h] at hrow; rcases hrow.2 with ⟨_, h2⟩ | ⟨_, _, _, h2, _⟩
      · rw [L.flat_len] at this; simp_all
      · cases h2
    · exact ⟨gg, cap, h⟩
  have hcells := hrow.cells rfl
  have hlt := (hrow.lt gg rfl).2
  have HC : Hid (∀ i x, (L.chars s)[i]? = some x → (w1.cell? ⟨gg, i * 4, none⟩ = some (.string x.S) ∧ w1.cell? ⟨gg, i * 4 + 1, none⟩ = some (.int .i64 x.l) ∧ w1.cell? ⟨gg, i * 4 + 2, none⟩ = some (.int .i64 x.c) ∧ w1.cell? ⟨gg, i * 4 + 3, none⟩ = some (.int .i64 x.a))) := by
    intro i x hx
    obtain ⟨q0, q1, q2, q3⟩ := L.flat_at _ i x hx
    have r0 := hcells _ _ q0
    have r1 := hcells _ _ q1
    have r2 := hcells _ _ q2
    have r3 := hcells _ _ q3
    rw [addr_add] at r0 r1 r2 r3
    exact ⟨r0, r1, r2, r3⟩
  clear hcells hrow
  obtain ⟨xs, hxs⟩ : ∃ xs, L.chars s = xs := ⟨_, rfl⟩
  rw [hxs] at hpl hok hlen HC hpos
  rw [hxs]
  clear hxs
  go_wp2
  go_loopw [7] (fun i wx => ∃ k : Nat, i = .int .i64 (k : Int) ∧ k ≤ xs.length ∧ pick n (xs.drop k) = pick n xs ∧ Below w1.heap.size w1 wx) (fun i _ => xs.length - (intOf i).toNat)
  case atStart => exact ⟨0, rfl, by omega, rfl, Below.refl _ _⟩
  case round =>
    obtain ⟨k, rfl, hk, hpk, bel⟩ := hrel
    have Hpk := hide' hpk
    clear hpk
    by_cases hkl : k < xs.length
    · have e3 : decide ((k : Int) < (xs.length : Int)) = true := by simpa using hkl
      have hx : xs[k]? = some xs[k] := List.getElem?_eq_getElem hkl
      obtain ⟨x, hxe⟩ : ∃ x, xs[k] = x := ⟨_, rfl⟩
      have hxo := hok.out x (by rw [← hxe]; exact List.getElem_mem hkl)
      have hdr : Hid (xs.drop k = x :: xs.drop (k + 1)) := (by rw [← hxe]; exact List.drop_eq_getElem_cons hkl)
      rw [hxe] at hx
      obtain ⟨c0, c1, c2, c3⟩ := HC.out k x hx
      rw [← bel.cell (p := ⟨gg, k * 4, none⟩) hlt] at c0
      rw [← bel.cell (p := ⟨gg, k * 4 + 1, none⟩) hlt] at c1
      rw [← bel.cell (p := ⟨gg, k * 4 + 2, none⟩) hlt] at c2
      rw [← bel.cell (p := ⟨gg, k * 4 + 3, none⟩) hlt] at c3
      obtain ⟨X, xl, xc, xa⟩ := x
      simp only at c0 c1 c2 c3 hxo
      have hln := hlen.out
      clear hx hxe
      cases hq : isAt n ⟨X, xl, xc, xa⟩
      · have e4 : decide ((n : Int) < (xa : Int) + (X.size : Int)) = false := by simp [isAt] at hq ⊢; omega
        have e5 : ((n : Int) == (xa : Int)) = false := by simp [isAt] at hq ⊢; omega
        have HR : Hid (pick n (xs.drop (k + 1)) = pick n xs) := by
          show _ = _
          rw [← Hpk.out, hdr.out, pick, hq]; rfl
        clear hq
        go_wp2
        go_quiet (fail)
        go_wp2
        exact ⟨⟨k + 1, by go_num, by omega, HR.out, bel.trans (below_drewN _ _ _)⟩, by simp [intOf]; omega⟩
      · have HR : Hid (plc s n = (xl, xc)) := by
          show _ = _
          rw [hpl.out, ← Hpk.out, hdr.out, pick, hq]; rfl
        by_cases hlq : n < xa + X.size
        · have e4 : decide ((n : Int) < (xa : Int) + (X.size : Int)) = true := by simp; omega
          go_wp2
          go_quiet (fail)
          go_wp2
          go_quiet (fail)
          go_wp2
          go_ret2
          exact ⟨ret_pl HR.out, b1.trans ((bel.mono b1.size).trans ((below_drewN _ _ _).trans (below_drewN _ _ _)))⟩
        · have e4 : decide ((n : Int) < (xa : Int) + (X.size : Int)) = false := by simp; omega
          have e5 : ((n : Int) == (xa : Int)) = true := by simp [isAt] at hq ⊢; omega
          clear hq
          go_wp2
          go_quiet (fail)
          go_wp2
          go_quiet (fail)
          go_wp2
          go_ret2
          exact ⟨ret_pl HR.out, b1.trans ((bel.mono b1.size).trans ((below_drewN _ _ _).trans (below_drewN _ _ _)))⟩
    · have e3 : decide ((k : Int) < (xs.length : Int)) = false := by simpa using hkl
      have HR : Hid (plc s n = (0, 0)) := by
        show _ = _
        rw [hpl.out, ← Hpk.out, List.drop_of_length_le (by omega)]; rfl
      go_wp2
      go_ret2
      exact ⟨ret_pl HR.out, b1.trans (bel.mono b1.size)⟩
end Go.Proofs.Ytnpbbejclkphgaa
