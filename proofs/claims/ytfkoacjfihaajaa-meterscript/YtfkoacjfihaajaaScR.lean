import Derived.Test.YtfkoacjfihaajaaScP
set_option linter.unusedVariables false
set_option linter.unusedSimpArgs false
namespace Go.Proofs.Ytfkoacjfihaajaa
open Go.RowKit
namespace M
open Fl
variable {w w' : World} {c h B cap l : Nat} {ns : List Nt} {ao : Option Addr}
set_option maxRecDepth 100000 in
set_option maxHeartbeats 1000000 in
theorem last_any (q : Rm B c h ao cap ns w) (u : Up l ns) (hl : ns.length ≤ 9007199254740000) : Calls Try.prog 41 #[.pointer (some ⟨c, 0, none⟩)] w fun e w' => e = .returned (.int .i64 (l : Nat)) ∧ ∃ k, w' = w.drewN k := by
  have c1 := q.c1
  rcases Nat.eq_zero_or_pos ns.length with h0 | h0
  · have hl0 : l = 0 := by
      cases u with
      | nil => rfl
      | add u _ _ _ => simp at h0
    subst hl0
    rw [h0] at c1
    clear q u hl h0
    go_enter Try.func41, Try.ntmps41
    go_wp2
    go_ret
    exact ⟨rfl, 0, rfl⟩
  · obtain ⟨k, hk⟩ : ∃ k, ns.length = k + 1 := ⟨ns.length - 1, by omega⟩
    obtain ⟨n, hn⟩ := u.getLast hk
    obtain ⟨g, rfl, y0, y1⟩ := q.cells hn
    obtain ⟨M, hM⟩ : ∃ M, M = ns.length := ⟨_, rfl⟩
    rw [← hM] at c1
    have hi : IntKind.i64.wrap ((M : Int) - 1) = (k : Int) := by rw [IntKind.wrap_i64]; omega
    have hkM : (k : Int) < (M : Int) := by omega
    have hM0 : ¬ ((M : Int) = 0) := by omega
    have hM1 : ¬ (M = 0) := by omega
    have hkN : k < M := by omega
    have y0' : w.cell? ⟨g, 0 + k * 2, none⟩ = some (.int .i64 (l : Nat)) := by rw [Nat.zero_add]; exact y0
    clear q u hl hk hn y1 hM h0
    go_enter Try.func41, Try.ntmps41
    go_wp2_with fail
    go_quiet (fail)
    go_wp2
    go_ret
    exact ⟨rfl, _, rfl⟩
set_option maxRecDepth 100000 in
set_option maxHeartbeats 1000000 in
theorem rrate_neg {now : Int} (p : Value) (w : World) (hn : now < 0) : Calls Try.prog 36 #[p, .int .i64 now] w fun e w' => e = .returned (.tuple #[.float .f64 0, .int .i64 3]) ∧ w' = w := by
  go_enter Try.func36, Try.ntmps36
  go_wp2
  go_ret2
  exact ⟨rfl, rfl⟩
set_option maxRecDepth 100000 in
set_option maxHeartbeats 1000000 in
theorem rrate_early {now : Nat} (q : Rm B c h ao cap ns w) (u : Up l ns) (hl : ns.length ≤ 9007199254740000) (hn : now < l) : Calls Try.prog 36 #[.pointer (some ⟨c, 0, none⟩), .int .i64 (now : Nat)] w fun e w' => e = .returned (.tuple #[.float .f64 0, .int .i64 1]) ∧ ∃ k, w' = w.drewN k := by
  have HC := hide' (last_any q u hl)
  have h0 : ¬ ((now : Int) < 0) := by omega
  have h1 : ((now : Int) < (l : Int)) := by omega
  clear q u hl hn
  go_enter Try.func36, Try.ntmps36
  go_wp2_with fail
  refine HC.out.mono ?_
  rintro e w2 ⟨rfl, k, rfl⟩
  go_wp2
  go_ret2
  exact ⟨rfl, _, rfl⟩
theorem tdiv3 (a b : Nat) (ha : a < 9223372036854775808) : Int.tdiv (a : Int) (b : Int) = ((a / b : Nat) : Int) ∧ IntKind.i64.wrap ((a / b : Nat) : Int) = ((a / b : Nat) : Int) := by
  refine ⟨tdiv_nat a b, ?_⟩
  have := Nat.div_le_self a b
  generalize a / b = D at *
  rw [IntKind.wrap_i64]; omega
set_option maxRecDepth 100000 in
set_option maxHeartbeats 4000000 in
theorem rrate_ok {now : Nat} (q : Rm B c h ao cap ns w) (u : Up l ns) (hl : ns.length ≤ 9007199254740000) (hn : l ≤ now) (hh : 1 ≤ h) (hnow : now < 9223372036854775808) : Calls Try.prog 36 #[.pointer (some ⟨c, 0, none⟩), .int .i64 (now : Nat)] w fun e w' => e = .returned (.tuple #[.float .f64 (hvn (now / h - l / h) (st h ns).r), .int .i64 0]) ∧ Below w.heap.size w w' := by
  have HC := hide' (last_any q u hl)
  have h0 : ¬ ((now : Int) < 0) := by omega
  have h1 : ¬ ((now : Int) < (l : Int)) := by omega
  have h2 : ¬ ((h : Int) = 0) := by omega
  have HQ := hide' q
  have HU := hide' u
  have HL := hide' (And.intro hl (And.intro hn (And.intro hh hnow)))
  clear q u hl hn hh hnow
  go_enter Try.func36, Try.ntmps36
  go_wp2_with fail
  refine HC.out.mono ?_
  rintro e w2 ⟨rfl, k2, rfl⟩
  clear HC
  have c1 := (HQ.out.drewN k2).c1
  go_wp2_with fail
  go_loopw [6, 7, 8] (fun x t i wx => ∃ k : Nat, x = .float .f64 (st h (ns.take k)).r ∧ t = .int .i64 ((st h (ns.take k)).l : Nat) ∧ i = .int .i64 (k : Int) ∧ k ≤ ns.length ∧ Below w.heap.size w wx) (fun _ _ i _ => ns.length - (intOf i).toNat)
  case atStart => exact ⟨0, rfl, rfl, rfl, Nat.zero_le _, below_drewN w k2⟩
  case round =>
    obtain ⟨k, rfl, rfl, rfl, hk, hb⟩ := hrel
    clear c1
    have q := HQ.out.below hb
    have c0 := q.c0
    have c1 := q.c1
    by_cases hlt : k < ns.length
    · have hlt' : (k : Int) < (ns.length : Int) := by omega
      obtain ⟨x, hx⟩ : ∃ x, ns[k]? = some x := ⟨_, List.getElem?_eq_getElem hlt⟩
      obtain ⟨g, rfl, y0, y1⟩ := q.cells hx
      obtain ⟨l', hu', hxx⟩ := HU.out.take k (by omega)
      obtain ⟨x1, x2, x3⟩ := hxx x hx
      have hok := hu'.ok (h := h) (by rw [List.length_take]; have := HL.out.1; omega)
      have hlast := hu'.last (h := h)
      have hN := N.take_one hx
      have hst : st h (ns.take (k + 1)) = stp h (st h (ns.take k)) x := by rw [hN, st_add]
      have hs1 : (st h (ns.take (k + 1))).l = x.1 := by rw [hst, stp_fst]
      have hs2 : (st h (ns.take (k + 1))).r = ad (hvn (x.1 / h - (st h (ns.take k)).l / h) (st h (ns.take k)).r) x.2 := by rw [hst, stp_snd]
      rw [hlast] at hs2 ⊢
      generalize hR : (st h (ns.take k)).r = R at *
      obtain ⟨a1, a2⟩ := hok.note (k := x.1 / h - l' / h) (n := x.2) (by rw [List.length_take]; have := HL.out.1; omega) (by omega)
      generalize hAD : ad (hvn (x.1 / h - l' / h) R) x.2 = R' at *
      have HF := hide' (And.intro hs1 hs2)
      have HA := hide' (fun w => rhalved_any R (x.1 / h - l' / h) w hok.lt (Nat.lt_of_le_of_lt (Nat.le_trans (Nat.sub_le _ _) (Nat.div_le_self _ _)) x2))
      obtain ⟨d1, d1'⟩ := tdiv3 x.1 h x2
      obtain ⟨d2, d2'⟩ := tdiv3 l' h (by omega)
      have hle : l' / h ≤ x.1 / h := Nat.div_le_div_right x1
      have hdl := Nat.div_le_self x.1 h
      generalize x.1 / h = P1 at *
      generalize l' / h = P2 at *
      have i3 : IntKind.i64.wrap ((P1 : Int) - (P2 : Int)) = ((P1 - P2 : Nat) : Int) := by rw [IntKind.wrap_i64]; omega
      have Hlt := hide' hlt
      have ek := hide' (wsucN k (by have := HL.out.1; omega))
      have Hms := hide' (msr' hlt _ rfl)
      have HB := hide' hb
      have HD := hide' (And.intro (And.intro d1 d1') (And.intro (And.intro d2 d2') i3))
      have hra := fun w => run_add a1 w
      rw [show FloatKind.f64.nearest ((x.2 : Nat) : Int) = floatOfInt .f64 ((x.2 : Nat) : Int) from rfl] at hra
      have HRA := hide' hra
      have y0' : wr.cell? ⟨g, 0 + k * 2, none⟩ = some (.int .i64 (x.1 : Nat)) := by rw [Nat.zero_add]; exact y0
      have y1' : wr.cell? ⟨g, 0 + k * 2 + 1, none⟩ = some (.int .i64 (x.2 : Nat)) := by rw [Nat.zero_add]; exact y1
      clear hk hb hx hu' hxx hok hlast hN hst hs1 hs2 hR a1 a2 hAD d1 d1' d2 d2' hle hdl i3 hlt x1 x2 x3 hra
      obtain ⟨X1, hX1⟩ : ∃ X, X = x.1 := ⟨_, rfl⟩
      obtain ⟨X2, hX2⟩ : ∃ X, X = x.2 := ⟨_, rfl⟩
      rw [← hX1] at y0 y0' HD HF
      rw [← hX2] at y1 y1' HRA
      clear hX1 hX2
      have q0 := HQ.out.lt
      have hc : ¬ (c = wr.heap.size) := by have := q.lt; omega
      have cc0 : (wr.alloc (.cells #[.int .i64 (X1 : Nat), .int .i64 (X2 : Nat)] 76)).cell? ⟨c, 0, none⟩ = some (.int .i64 (h : Nat)) := (q.below ((Below.refl _ _).alloc (Nat.le_refl _) _)).c0
      have cc2 : (wr.alloc (.cells #[.int .i64 (X1 : Nat), .int .i64 (X2 : Nat)] 76)).cell? ⟨wr.heap.size, 0, none⟩ = some (.int .i64 (X1 : Nat)) := by rw [Lib.cell_of_heap (heap_alloc_new wr (.cells #[.int .i64 (X1 : Nat), .int .i64 (X2 : Nat)] 76))]; rfl
      have cc3 : (wr.alloc (.cells #[.int .i64 (X1 : Nat), .int .i64 (X2 : Nat)] 76)).cell? ⟨wr.heap.size, 1, none⟩ = some (.int .i64 (X2 : Nat)) := by rw [Lib.cell_of_heap (heap_alloc_new wr (.cells #[.int .i64 (X1 : Nat), .int .i64 (X2 : Nat)] 76))]; rfl
      have HB2 : Hid (Below w.heap.size w (wr.alloc (.cells #[.int .i64 (X1 : Nat), .int .i64 (X2 : Nat)] 76))) := hide' (HB.out.alloc HB.out.size _)
      clear q0 q
      go_wp2_with fail
      generalize (wr.alloc (.cells #[.int .i64 (X1 : Nat), .int .i64 (X2 : Nat)] 76)) = W2 at *
      generalize wr.heap.size = bx at *
      obtain ⟨⟨d1, d1'⟩, ⟨d2, d2'⟩, i3⟩ := HD.out
      generalize P1 - P2 = D at *
      generalize hvn D R = RH at *
      have hra := HRA.out
      go_quiet ((exact Calls.quiet_of_same (HA.out _)))
      clear d1 d1' d2 d2' i3 HD HA HRA hra cc0 cc3 c0 c1 y0 y0' y1 y1'
      go_wp2
      exact ⟨⟨k + 1, by rw [HF.out.2], by rw [HF.out.1], by first | rfl | (rw [ek.out]), Hlt.out, bel_drewN HB2.out _⟩, by first | exact Hms.out | (rw [ek.out]; exact Hms.out)⟩
    · obtain rfl : k = ns.length := by omega
      rw [List.take_length, HU.out.last]
      have hok := HU.out.ok (h := h) HL.out.1
      obtain ⟨d1, d1'⟩ := tdiv3 now h HL.out.2.2.2
      obtain ⟨d2, d2'⟩ := tdiv3 l h HU.out.lt
      have hle : l / h ≤ now / h := Nat.div_le_div_right HL.out.2.1
      have hdl := Nat.div_le_self now h
      have hnw := HL.out.2.2.2
      have HA := hide' (fun w => rhalved_any (st h ns).r (now / h - l / h) w hok.lt (Nat.lt_of_le_of_lt (Nat.le_trans (Nat.sub_le _ _) hdl) hnw))
      obtain ⟨RH, hRH⟩ : ∃ RH, hvn (now / h - l / h) (st h ns).r = RH := ⟨_, rfl⟩
      rw [hRH] at HA
      have HRH := hide' hRH
      clear hRH
      generalize hP1 : now / h = P1 at d1 d1' hle hdl HA
      generalize hP2 : l / h = P2 at d2 d2' hle HA
      clear hP1 hP2
      have i3 : IntKind.i64.wrap ((P1 : Int) - (P2 : Int)) = ((P1 - P2 : Nat) : Int) := by rw [IntKind.wrap_i64]; omega
      have HB := hide' hb
      generalize P1 - P2 = D at *
      generalize hRR : (st h ns).r = R at HA ⊢
      clear hok hle hdl hb hlt hk hnw q hRR
      go_wp2_with fail
      go_quiet ((exact Calls.quiet_of_same (HA.out _)))
      go_wp2
      go_ret2
      exact ⟨by rw [HRH.out]; rfl, bel_drewN HB.out _⟩
set_option maxRecDepth 100000 in
set_option maxHeartbeats 1000000 in
theorem rnote_neg {now n : Int} (p : Value) (w : World) (hn : now < 0 ∨ ¬ now < 0 ∧ n < 0) : Calls Try.prog 35 #[p, .int .i64 now, .int .i64 n] w fun e w' => e = .returned (.int .i64 3) ∧ w' = w := by
  rcases hn with hn | ⟨hn, hm⟩
  · go_enter Try.func35, Try.ntmps35
    go_wp2
    go_ret
    exact ⟨rfl, rfl⟩
  · go_enter Try.func35, Try.ntmps35
    go_wp2
    go_ret
    exact ⟨rfl, rfl⟩
set_option maxRecDepth 100000 in
set_option maxHeartbeats 1000000 in
theorem rnote_early {now n : Nat} (q : Rm B c h ao cap ns w) (u : Up l ns) (hl : ns.length ≤ 9007199254740000) (hn : now < l) : Calls Try.prog 35 #[.pointer (some ⟨c, 0, none⟩), .int .i64 (now : Nat), .int .i64 (n : Nat)] w fun e w' => e = .returned (.int .i64 1) ∧ ∃ k, w' = w.drewN k := by
  have HC := hide' (last_any q u hl)
  have h0 : ¬ ((now : Int) < 0) := by omega
  have h00 : ¬ ((n : Int) < 0) := by omega
  have h1 : ((now : Int) < (l : Int)) := by omega
  clear q u hl hn
  go_enter Try.func35, Try.ntmps35
  go_wp2_with fail
  refine HC.out.mono ?_
  rintro e w2 ⟨rfl, k, rfl⟩
  go_wp2
  go_ret
  exact ⟨rfl, _, rfl⟩
theorem Rm.apart (q : Rm B c h ao cap ns w) : ¬ At ao c := by
  intro hq
  obtain ⟨ad, rfl, eb⟩ := hq
  rcases q.row.row.2 with ⟨hv, _⟩ | ⟨g', cap', cur, hv, hb, hg, _⟩
  · cases hv
  · simp only [Value.slice.injEq, Option.some.injEq] at hv
    obtain ⟨rfl, _, _⟩ := hv
    have h1 := q.hp
    rw [eb] at h1
    have h2 : w.heap[g']? = some (.cells cur 76 (0, 0)) := hg
    rw [h2] at h1
    cases h1
theorem Rm.at3 {w3 : World} (q : Rm B c h ao cap ns w) (t : Turn (At ao) w w3) : w3.heap[c]? = some (.cells #[.int .i64 (h : Nat), .slice ao ns.length cap] 71 (0, 0)) ∧ w3.cell? ⟨c, 1, none⟩ = some (.slice ao ns.length cap) ∧ w3.frozen? ⟨c, 1, none⟩ = false := by
  have hp3 := (t.block c q.lt q.apart).trans q.hp
  exact ⟨hp3, by rw [Lib.cell_of_heap hp3]; rfl, Lib.frozen_of_heap hp3 1⟩
/-- the blocks of the document's meter -/
def RB (c : Nat) (ao : Option Addr) (j : Nat) : Prop := j = c ∨ At ao j
set_option maxRecDepth 100000 in
set_option maxHeartbeats 2000000 in
theorem rnote_ok {now n : Nat} (q : Rm B c h ao cap ns w) (u : Up l ns) (hl : ns.length ≤ 6000000000000) (hn : l ≤ now) (hB : B ≤ c) : Calls Try.prog 35 #[.pointer (some ⟨c, 0, none⟩), .int .i64 (now : Nat), .int .i64 (n : Nat)] w fun e w' => e = .returned (.int .i64 0) ∧ ∃ g cap', Rm B c h (some ⟨g, 0, none⟩) cap' (ns ++ [(now, n)]) w' ∧ Turn (RB c ao) w w' ∧ (At ao g ∨ w.heap.size ≤ g) := by
  have HC := hide' (last_any q u (by omega))
  have h0 : ¬ ((now : Int) < 0) := by omega
  have h00 : ¬ ((n : Int) < 0) := by omega
  have h1 : ¬ ((now : Int) < (l : Int)) := by omega
  have HQ := hide' q
  have HL := hide' (And.intro hl hB)
  clear q u hl hn hB
  go_enter Try.func35, Try.ntmps35
  go_wp2_with fail
  refine HC.out.mono ?_
  rintro e w2 ⟨rfl, k, hw2⟩
  have q := HQ.out.drewN k
  rw [← hw2] at q
  have HQ2 := hide' q
  have T0 : Hid (Turn (RB c ao) w w2) := hide' (by rw [hw2]; exact (Turn.refl _ w).drewN k)
  have HS0 : Hid (w2.heap.size = w.heap.size) := hide' (by rw [hw2]; rfl)
  have c1 := q.c1
  clear hw2 q HC
  have hcb : Hid (c ≠ w2.heap.size) := hide' (by have := HQ2.out.lt; omega)
  go_wp2_with (at_builtin; go_loud (refine wpList_more (arr := narr) ha_n Try.underlying69 info76 rfl (by omega) w2 rfl _ _ rfl (ro := ao) (rc := cap) (ss := ns) HQ2.out.row (by have := HL.out.1; unfold maxLen; omega) (by have := HL.out.1; omega) (Nat.le_trans HL.out.2 (Nat.le_of_lt HQ2.out.lt)) (now, n) (one_n _) _ rfl rfl ?_); intro gg cc w3 o3 t3 p3; obtain ⟨hp3, cc1, ff1⟩ := HQ2.out.at3 t3; have O3 := hide' (And.intro o3 (And.intro t3 (And.intro p3 hp3))); clear o3 t3 p3 hp3)
  obtain ⟨o3, t3, p3, hp3⟩ := O3.out
  have h4 : (w3.setCell ⟨c, 1, none⟩ (.slice (some ⟨gg, 0, none⟩) (ns.length + 1) cc)).heap[c]? = some (.cells #[.int .i64 (h : Nat), .slice (some ⟨gg, 0, none⟩) (ns.length + 1) cc] 71 (0, 0)) := set_block (off := 1) hp3
  have hgc : gg ≠ c := by
    intro e
    rcases p3 with p | p
    · rw [e] at p; exact HQ2.out.apart p
    · have := HQ2.out.lt; omega
  have o4 := o3.kept (turn_b c 1 (.slice (some ⟨gg, 0, none⟩) (ns.length + 1) cc) w3) (fun g hg q => by cases hg; exact hgc q)
  have R4 : Rm B c h (some ⟨gg, 0, none⟩) cc (ns ++ [(now, n)]) (w3.setCell ⟨c, 1, none⟩ (.slice (some ⟨gg, 0, none⟩) (ns.length + 1) cc)) := ⟨by rw [List.length_append]; exact h4, o4⟩
  have T4 : Turn (RB c ao) w (w3.setCell ⟨c, 1, none⟩ (.slice (some ⟨gg, 0, none⟩) (ns.length + 1) cc)) := (T0.out.then (t3.mono (S' := RB c ao) (fun k _ hk => .inr hk)) (fun i _ hi => hi)).then ((turn_b c 1 _ w3).mono (S' := RB c ao) (fun k _ hk => .inl hk)) (fun i _ hi => hi)
  have P4 : At ao gg ∨ w.heap.size ≤ gg := by
    rcases p3 with p | p
    · exact .inl p
    · exact .inr (by rw [← HS0.out]; exact p)
  have K := hide' (And.intro R4 (And.intro T4 P4))
  clear o3 t3 p3 hp3 h4 hgc o4 R4 T4 P4 O3
  first
  | (go_wp2; go_ret; exact ⟨rfl, gg, cc, K.out⟩)
  | (go_ret; exact ⟨rfl, gg, cc, K.out⟩)
end M
end Go.Proofs.Ytfkoacjfihaajaa
