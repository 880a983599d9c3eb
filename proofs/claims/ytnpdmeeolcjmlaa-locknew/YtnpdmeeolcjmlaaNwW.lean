import Derived.Test.YtnpdmeeolcjmlaaRlk
set_option linter.unusedVariables false
set_option linter.unusedSimpArgs false
namespace Go.Proofs.Ytnpdmeeolcjmlaa
open Go.RowKit
namespace F
open M
/-- the program's New and the document's: both refuse, or both make a lock -/
theorem new_both (n : Nat) (a c : Int) : (∃ E : Int, (E = 1 ∨ E = 140) ∧ (∀ D B x ws tr bad w, ws.length = n → Mem D B x ws tr bad w → Calls Try.prog 9 #[.pointer (some ⟨x, 0, none⟩), .int .i64 a, .int .i64 c] w fun e w' => e = .returned (.tuple #[.pointer none, .int .i64 E]) ∧ w' = w) ∧ (∀ D B y ws m tr bad w, ws.length = n → Rem D B y ws m tr bad w → Calls Try.prog 15 #[.pointer (some ⟨y, 0, none⟩), .int .i64 a, .int .i64 c] w fun e w' => e = .returned (.tuple #[.pointer none, .int .i64 E]) ∧ w' = w))
    ∨ ((∀ D B x ws tr bad w, ws.length = n → Mem D B x ws tr bad w → Calls Try.prog 9 #[.pointer (some ⟨x, 0, none⟩), .int .i64 a, .int .i64 c] w fun e w' => ∃ q, e = .returned (.tuple #[.pointer (some ⟨q, 0, none⟩), .int .i64 0]) ∧ Below w.heap.size w w') ∧ (∀ D B y ws m tr bad w, ws.length = n → Rem D B y ws m tr bad w → Calls Try.prog 15 #[.pointer (some ⟨y, 0, none⟩), .int .i64 a, .int .i64 c] w fun e w' => ∃ q, e = .returned (.tuple #[.pointer (some ⟨q, 0, none⟩), .int .i64 0]) ∧ Below w.heap.size w w')) := by
  by_cases h : inn n a ∧ inn n c
  · by_cases hs : a = c
    · subst hs
      refine .inl ⟨1, .inl rfl, fun D B x ws tr bad w hn hm => ?_, fun D B y ws m tr bad w hn hm => ?_⟩
      · exact lnew_same a hm (by rw [hn]; exact h.1)
      · exact rnew_same a hm (by rw [hn]; exact h.1)
    · obtain ⟨⟨a1, a2⟩, c1, c2⟩ := h
      obtain ⟨k, rfl⟩ : ∃ k : Nat, a = (k : Int) := ⟨a.toNat, by omega⟩
      obtain ⟨q, rfl⟩ : ∃ k : Nat, c = (k : Int) := ⟨c.toNat, by omega⟩
      refine .inr ⟨fun D B x ws tr bad w hn hm => ?_, fun D B y ws m tr bad w hn hm => ?_⟩
      · exact (lnew_ok k q hm (by omega) (by omega) (by omega)).mono fun e w' ⟨he, hw⟩ => ⟨_, he, by rw [hw]; exact (Below.refl _ _).alloc (Nat.le_refl _) _⟩
      · exact (rnew_ok k q hm (by omega) (by omega) (by omega)).mono fun e w' ⟨he, hw⟩ => ⟨_, he, by rw [hw]; exact (Below.refl _ _).alloc (Nat.le_refl _) _⟩
  · refine .inl ⟨140, .inr rfl, fun D B x ws tr bad w hn hm => ?_, fun D B y ws m tr bad w hn hm => ?_⟩
    · exact lnew_out a c hm (by rw [hn]; exact h)
    · exact rnew_out a c hm (by rw [hn]; exact h)
set_option maxRecDepth 100000 in
set_option maxHeartbeats 1000000 in
theorem new_walk (wd a c : Int) (w : World) : Calls Try.prog 4 #[.int .i64 wd, .int .i64 a, .int .i64 c] w fun e w' => e = .returned (.bool true) ∧ Below w.heap.size w w' := by
  obtain ⟨n1, n2, n3⟩ := nof_le wd
  have Hn := hide' (lnew_nil a c w)
  have Hp := hide' (pick_any wd 64 w (by omega) (by omega))
  have hb1 := Int.emod_nonneg wd (b := 64) (by omega)
  have hb2 := Int.emod_lt_of_pos wd (b := 64) (by omega)
  have H1 := hide' (M.new_any (nof wd) w (by omega) (by omega) _ rfl)
  have H2 := hide' (fun w => F.new_any (nof wd) w (by omega) (by omega) _ rfl)
  have H3 := hide' (new_both (nof wd) a c)
  have N3 := hide' n3
  clear n3
  generalize nof wd = n at *
  generalize hm : wd % 64 = m at *
  have hb1' : 0 ≤ m := hb1
  clear hm n1 n2
  go_enter Try.func4, Try.ntmps4
  go_wp2_with fail
  refine Hn.out.mono ?_
  rintro e w1 ⟨rfl, hw1⟩
  replace hw1 := hw1.symm
  subst hw1
  clear Hn
  go_wp2_with fail
  refine Hp.out.mono ?_
  rintro e w1 ⟨rfl, hw1⟩
  replace hw1 := hw1.symm
  subst hw1
  clear Hp
  go_wp2_with fail
  rw [← N3.out]
  clear N3 hb1 hb2 hb1'
  refine H1.out.mono ?_
  rintro e w1 ⟨x, rfl, D, h1, b1⟩
  have J1 := hide' (And.intro h1 b1)
  clear H1 h1 b1
  go_wp2_with fail
  refine (H2.out w1).mono ?_
  rintro e w2 ⟨y, rfl, R, h2, b2⟩
  have J2 := hide' (And.intro (J1.out.1.below b2) (And.intro h2 (J1.out.2.trans (b2.mono J1.out.2.size))))
  clear H2 h2 b2 J1
  rcases H3.out with ⟨E, hE, q1, q2⟩ | ⟨q1, q2⟩
  · rcases hE with rfl | rfl
    · have C1 := hide' (q1 _ _ _ _ _ _ _ (by simp) J2.out.1)
      have C2 := hide' (q2 _ _ _ _ _ _ _ _ (by simp) J2.out.2.1)
      have C3 := hide' (M.trace_any J2.out.1 (by simp))
      have B2 := hide' J2.out.2.2
      clear H3 q1 q2 J2
      go_wp2_with fail
      refine C1.out.mono ?_
      rintro e w3 ⟨rfl, hw3⟩
      replace hw3 := hw3.symm
      subst hw3
      go_wp2_with fail
      refine C2.out.mono ?_
      rintro e w3 ⟨rfl, hw3⟩
      replace hw3 := hw3.symm
      subst hw3
      go_wp2_with fail
      refine C3.out.mono ?_
      rintro e w3 ⟨ro, rc, rfl, _, b3⟩
      have B3 := hide' (B2.out.trans (b3.mono B2.out.size))
      clear C1 C2 C3 b3 B2
      go_wp2
      go_ret
      exact ⟨rfl, B3.out⟩
    · have C1 := hide' (q1 _ _ _ _ _ _ _ (by simp) J2.out.1)
      have C2 := hide' (q2 _ _ _ _ _ _ _ _ (by simp) J2.out.2.1)
      have C3 := hide' (M.trace_any J2.out.1 (by simp))
      have B2 := hide' J2.out.2.2
      clear H3 q1 q2 J2
      go_wp2_with fail
      refine C1.out.mono ?_
      rintro e w3 ⟨rfl, hw3⟩
      replace hw3 := hw3.symm
      subst hw3
      go_wp2_with fail
      refine C2.out.mono ?_
      rintro e w3 ⟨rfl, hw3⟩
      replace hw3 := hw3.symm
      subst hw3
      go_wp2_with fail
      refine C3.out.mono ?_
      rintro e w3 ⟨ro, rc, rfl, _, b3⟩
      have B3 := hide' (B2.out.trans (b3.mono B2.out.size))
      clear C1 C2 C3 b3 B2
      go_wp2
      go_ret
      exact ⟨rfl, B3.out⟩
  · have C1 := hide' (q1 _ _ _ _ _ _ _ (by simp) J2.out.1)
    have HQ := hide' q2
    clear H3 q1 q2
    go_wp2_with fail
    refine C1.out.mono ?_
    rintro e w3 ⟨p, rfl, b3⟩
    have J3 := hide' (And.intro (J2.out.1.below b3) (And.intro (J2.out.2.1.below b3) (J2.out.2.2.trans (b3.mono J2.out.2.2.size))))
    have C2 := hide' (HQ.out _ _ _ _ _ _ _ _ (by simp) J3.out.2.1)
    clear C1 b3 J2 HQ
    go_wp2_with fail
    refine C2.out.mono ?_
    rintro e w4 ⟨p4, rfl, b4⟩
    have J4 := hide' (And.intro (J3.out.1.below b4) (J3.out.2.2.trans (b4.mono J3.out.2.2.size)))
    have C3 := hide' (M.trace_any J4.out.1 (by simp))
    clear C2 b4 J3
    go_wp2_with fail
    refine C3.out.mono ?_
    rintro e w5 ⟨ro, rc, rfl, _, b5⟩
    have B5 := hide' (J4.out.2.trans (b5.mono J4.out.2.size))
    clear C3 b5 J4
    go_wp2
    go_ret
    exact ⟨rfl, B5.out⟩
end F
end Go.Proofs.Ytnpdmeeolcjmlaa
