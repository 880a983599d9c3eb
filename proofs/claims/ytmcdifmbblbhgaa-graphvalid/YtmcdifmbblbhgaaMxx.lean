import Derived.Test.YtmcdifmbblbhgaaNum
set_option linter.unusedVariables false
set_option linter.unusedSimpArgs false
namespace Go.Proofs.Ytmcdifmbblbhgaa
open Go.RowKit Go.Maps
namespace V
open U D
set_option maxHeartbeats 4000000 in
set_option maxRecDepth 100000 in
theorem max_any (ao : Option Addr) (cap : Nat) (a : Int) (rs : List Int) (w : World) (h : I.Ints ao (a :: rs) w) (hc : rs.length + 1 ≤ cap) (hl : (rs.length : Int) ≤ 65536) :
    Calls Try.prog 93 #[.slice ao (rs.length + 1) cap] w fun e w' => e = .returned (.int .i64 (gre a rs)) ∧ w' = w := by
  have H := hide' h
  obtain ⟨x, off, rfl, _, c0⟩ := H.out.at (i := 0) (k := a) rfl
  rw [Nat.add_zero] at c0
  clear h
  obtain ⟨n, hnn⟩ : ∃ n, n = rs.length + 1 := ⟨_, rfl⟩
  have HNN := hide' hnn
  rw [← hnn] at hc ⊢
  have hn : ¬ ((n : Int) < 1) := by omega
  have hn0 : (0 : Int) < (n : Int) := by omega
  have hl2 : (n : Int) ≤ 65537 := by omega
  clear hnn
  go_enter Try.func93, Try.ntmps93
  go_wp2
  go_loopw [3, 4] (fun gv iv wx => ∃ (i : Nat), iv = .int .i64 ((i : Int) + 1) ∧ i ≤ rs.length ∧ gv = .int .i64 (gre a (rs.take i)) ∧ wx = w) (fun _ iv _ => n - (intOf iv).toNat)
  case atStart => exact ⟨0, rfl, Nat.zero_le _, rfl, rfl⟩
  case round =>
    obtain ⟨i, rfl, hi, rfl, rfl⟩ := hrel
    by_cases hlt : i < rs.length
    · have hlt' : (i : Int) + 1 < (n : Int) := by have := HNN.out; omega
      obtain ⟨z, hz⟩ : ∃ z, rs[i]? = some z := ⟨_, List.getElem?_eq_getElem hlt⟩
      obtain ⟨x', off', e, _, c1⟩ := H.out.at (i := i + 1) (k := z) (by simpa using hz)
      cases e
      have htk : Hid (gre a (rs.take (i + 1)) = max (gre a (rs.take i)) z) := by show _ = _; rw [List.take_add_one, hz, Option.toList_some, gre_snoc]
      clear hz c0
      generalize gre a (rs.take i) = g at *
      go_wp2
      exact ⟨⟨i + 1, by go_num, by omega, by rw [htk.out, mx_if], trivial⟩, by have := HNN.out; simp [intOf]; omega⟩
    · have hi' : i = rs.length := by omega
      subst hi'
      have hlt' : ¬ ((rs.length : Int) + 1 < (n : Int)) := by have := HNN.out; omega
      clear hlt hi c0
      go_wp2
      go_ret
      exact ⟨rfl, rfl⟩
theorem add_off (b off n : Nat) : (⟨b, off, none⟩ : Addr).add n = ⟨b, off + n, none⟩ := by simp [Addr.add]
theorem row_one (w : World) (k : Int) : I.RowI w.heap.size (some ⟨w.heap.size, 0, none⟩) 1 [k] (w.alloc (.cells #[.int .i64 k] 3)) :=
  ⟨rfl, .inr ⟨w.heap.size, 1, #[.int .i64 k], rfl, Nat.le_refl _, heap_alloc_new _ _, Nat.le_refl _, by unfold maxLen; omega, rfl, rfl⟩⟩
set_option maxHeartbeats 4000000 in
set_option maxRecDepth 100000 in
theorem howMany_any (ao : Option Addr) (cap : Nat) (zs : List Int) (w : World) (h : Lies 1 ao (zs.map fun z => [Value.int .i64 z]) w) (hc : zs.length ≤ cap) (hn : ao = none → cap = 0) (hl : (zs.length : Int) ≤ 65535) :
    Calls Try.prog 70 #[.slice ao zs.length cap] w fun e w' => e = .returned (.int .i64 (gre 0 zs)) ∧ Below w.heap.size w w' := by
  have H := hide' h
  have HC := hide' hc
  have HN := hide' hn
  have HL := hide' hl
  clear h hc hn hl
  obtain ⟨i0, hi, hz0, hz1, hz2⟩ := info_parts I.infoE
  go_enter Try.func70, Try.ntmps70
  go_wp2_with (at_builtin; refine stay_app _ _ _ rfl ?_)
  unfold Stay
  have hx : ∀ ad, ao = some ad → ∀ (j : Nat) (u : Value), (zs.map fun z => Value.int .i64 z)[j]? = some u → (w.alloc (.cells #[.int .i64 0] 3)).cell? (ad.add j) = some u := fun ad e j u q => by
    rw [List.getElem?_map] at q
    cases q2 : zs[j]? with
    | none => rw [q2] at q; cases q
    | some z =>
      rw [q2] at q
      obtain ⟨x, off, e2, hx, c1⟩ := (H.out.below ((Below.refl _ _).alloc (Nat.le_refl _) (.cells #[.int .i64 0] 3))).one q2
      rw [e] at e2
      cases e2
      cases q
      rw [add_off]
      exact c1
  have B0 : Hid (Below w.heap.size w (w.alloc (.cells #[.int .i64 0] 3))) := (Below.refl _ _).alloc (Nat.le_refl _) _
  refine wpList_append_src (by rfl) _ _ 23 rfl w.heap.size 3 i0 (.int .i64 0) 1 8 Try.underlying23 hi hz0 hz1 hz2 rfl (by decide) _ 1 [.int .i64 0] rfl (row_one w 0) ao zs.length cap (zs.map fun z => Value.int .i64 z) rfl (fun e => ⟨by have := HN.out e; have := HC.out; omega, HN.out e⟩) (by simp) hx (by intro u hu; simp at hu; obtain ⟨z, _, rfl⟩ := hu; rfl) (by have := HL.out; unfold maxLen; omega) (by have := HL.out; omega) (by simp) ?_
  intro v' w1 hrow hgr hob
  have hlen : (0 :: zs).length = 1 + zs.length := by rw [List.length_cons]; omega
  have hfl : [Value.int .i64 0] ++ (zs.map fun z => Value.int .i64 z) = (0 :: zs).flatMap I.cells := by rw [I.flat_map]; rfl
  rw [hfl, ← hlen] at hrow
  obtain ⟨g, c', hv⟩ : ∃ g c', v' = .slice (some ⟨g, 0, none⟩) (0 :: zs).length c' := by
    rcases hrow.2 with ⟨_, e⟩ | ⟨g, c', _, e, _⟩
    · simp at e
    · exact ⟨g, c', e⟩
  subst hv
  have R : Hid (I.RowI w.heap.size (some ⟨g, 0, none⟩) c' (0 :: zs) w1) := hrow
  have B1 : Hid (Below w.heap.size w w1) := B0.out.trans (below_own ((Turn.refl (fun j => j = w.heap.size) _).grown hgr (fun k e _ => by have e' : some w.heap.size = some k := e; exact (Option.some.inj e').symm)) (fun k e => by omega) (by simp))
  clear hrow hgr hob hx hfl hlen H B0
  have C := hide' (max_any (some ⟨g, 0, none⟩) c' 0 zs w1 R.out.ints (by have := R.out.cap; simpa using this) (by have := HL.out; omega))
  rw [List.length_cons]
  go_wp2_with (go_at_call 93; refine C.out.mono ?_; rintro e V ⟨rfl, rfl⟩)
  go_ret
  exact ⟨rfl, B1.out⟩
end V
end Go.Proofs.Ytmcdifmbblbhgaa
