import Derived.Test.YtbbopkhgmgdlfaaEp2
set_option linter.unusedVariables false
set_option linter.unusedSimpArgs false
namespace Go.Proofs.Ytbbopkhgmgdlfaa
open Go.RowKit
namespace M
variable {D : Nat → Prop} {B x : Nat} {ws : List Int} {tr : List Ac} {bad : Nat} {w w' : World}
variable {b e f n s : Nat} {md sn si nx : Int}
/-- what a call on a memory and one block beside it leaves -/
def BTo (D : Nat → Prop) (B x b : Nat) (ws : List Int) (tr : List Ac) (bad : Nat) (cs : Array Value) (T : TypeId) (w w' : World) : Prop :=
  ∃ D', Mem D' B x ws tr bad w' ∧ w'.heap[b]? = some (.cells cs T (0, 0)) ∧ Turn (fun j => D j ∨ j = b) w w' ∧ ∀ j, D' j → D j ∨ w.heap.size ≤ j
variable {cs cs' : Array Value} {T : TypeId}
theorem BTo.same (h : Mem D B x ws tr bad w) (hw : w.heap[b]? = some (.cells cs T (0, 0))) : BTo D B x b ws tr bad cs T w w := ⟨D, h, hw, Turn.refl _ _, fun j hj => .inl hj⟩
theorem BTo.of_to {ws' : List Int} {tr' : List Ac} {bad' : Nat} (h : Mem D B x ws tr bad w) (hw : w.heap[b]? = some (.cells cs T (0, 0))) (hk : T ≠ 82 ∧ T ≠ 3 ∧ T ≠ 75) (tm : To D B x ws' tr' bad' w w') : BTo D B x b ws' tr' bad' cs T w w' := by
  obtain ⟨D', h', tt, s⟩ := tm
  exact ⟨D', h', (tt.block b (lt_of_heap hw) (h.not hw hk)).trans hw, tt.mono (fun j _ q => .inl q), s⟩
theorem BTo.put {w1 : World} (hk : BTo D B x b ws tr bad cs T w w1) (hT : T ≠ 82 ∧ T ≠ 3 ∧ T ≠ 75) (tt : Turn (fun j => j = b) w1 w') (hw : w'.heap[b]? = some (.cells cs' T (0, 0))) : BTo D B x b ws tr bad cs' T w w' := by
  obtain ⟨D', hm, hwt, tu, s⟩ := hk
  exact ⟨D', hm.kept tt (fun j hj q => hm.not hwt hT (q ▸ hj)), hw, tu.trans (tt.mono (fun j _ q => .inr q)), s⟩
theorem BTo.drew (hk : BTo D B x b ws tr bad cs T w w') : BTo D B x b ws tr bad cs T w w'.drew := by
  obtain ⟨D', hm, hwt, tu, s⟩ := hk
  exact ⟨D', hm.drew, hwt, tu.drew, s⟩
theorem BTo.drewN (hk : BTo D B x b ws tr bad cs T w w') (k : Nat) : BTo D B x b ws tr bad cs T w (w'.drewN k) := by
  obtain ⟨D', hm, hwt, tu, s⟩ := hk
  exact ⟨D', hm.drewN k, hwt, tu.drewN k, s⟩
def scc (x e f n s : Nat) (md sn : Int) : Array Value := #[.pointer (some ⟨x, 0, none⟩), .int .i64 (e : Nat), .int .i64 (f : Nat), .int .i64 (n : Nat), .int .i64 (s : Nat), .int .i64 md, .int .i64 sn]
def grc (x e f n : Nat) (si nx : Int) : Array Value := #[.pointer (some ⟨x, 0, none⟩), .int .i64 (e : Nat), .int .i64 (f : Nat), .int .i64 (n : Nat), .int .i64 si, .int .i64 nx]
/-- a section's first step -/
theorem ks : (115 : Nat) ≠ 82 ∧ (115 : Nat) ≠ 3 ∧ (115 : Nat) ≠ 75 := by decide
theorem kg : (113 : Nat) ≠ 82 ∧ (113 : Nat) ≠ 3 ∧ (113 : Nat) ≠ 75 := by decide
set_option maxRecDepth 100000 in
set_option maxHeartbeats 1000000 in
theorem step0_any (h : Mem D B x ws tr bad w) (hw : Sc b x e f n s 0 sn w) (hl : tr.length < 1999999999999) :
    Calls Try.prog 26 #[.pointer (some ⟨b, 0, none⟩)] w fun r w' => r = .returned (.bool false) ∧ BTo D B x b ws (tr ++ [⟨1, e, std ws e, 0, good ws e⟩]) (bad + bd ws e) (scc x e f n s 1 (std ws e)) 115 w w' := by
  have c5 := hw.c5
  have HC := hide' ((now_any h hw.rw hl).mono fun r w' ⟨hr, ht⟩ => (And.intro hr (BTo.of_to h hw ks ht)))
  generalize tr ++ [(⟨1, e, std ws e, 0, good ws e⟩ : Ac)] = tr1 at *
  generalize bad + bd ws e = bad1 at *
  generalize std ws e = V at *
  clear h hw hl
  go_enter Try.func26, Try.ntmps26
  go_wp2_with fail
  refine HC.out.mono ?_
  rintro r w3 ⟨rfl, K⟩
  obtain ⟨D', hm, hwt, tu, q⟩ := id K
  replace hwt : Sc b x e f n s 0 sn w3 := hwt
  have d5 := hwt.c5
  have d6 := hwt.c6
  have f5 := hwt.fz 5
  have f6 := hwt.fz 6
  have K2 : Hid (BTo D B x b ws tr1 bad1 (scc x e f n s 1 V) 115 w ((w3.setCell ⟨b, 6, none⟩ (.int .i64 V)).setCell ⟨b, 5, none⟩ (.int .i64 1))) := hide' (K.put ks ((turn_b b 6 (.int .i64 V) w3).trans (turn_b b 5 (.int .i64 1) _)) ((hwt.s6 V).s5 1))
  clear K hm hwt tu q HC c5
  go_wp2
  go_ret
  exact ⟨rfl, K2.out⟩
set_option maxRecDepth 100000 in
set_option maxHeartbeats 1000000 in
theorem step1_any (a : Nat) (ha : a = f + s) (hs : a < 1000000) (h : Mem D B x ws tr bad w) (hw : Sc b x e f n s 1 sn w) (hl : tr.length < 1999999999999) :
    Calls Try.prog 26 #[.pointer (some ⟨b, 0, none⟩)] w fun r w' => r = .returned (.bool true) ∧ BTo D B x b (put ws a sn) (tr ++ [⟨2, a, sn, std ws a, good ws a⟩]) (bad + bd ws a) (scc x e f n s 2 sn) 115 w w' := by
  have c4 := hw.c4
  have c5 := hw.c5
  have c6 := hw.c6
  have HC : Hid (Calls Try.prog 56 #[.pointer (some ⟨b, 0, none⟩), .int .i64 (s : Nat), .int .i64 sn] w.drew fun r w' => r = .returned (.int .i64 (er ws a)) ∧ BTo D B x b (put ws a sn) (tr ++ [⟨2, a, sn, std ws a, good ws a⟩]) (bad + bd ws a) (scc x e f n s 1 sn) 115 w w') := hide' ((rput_any s a sn ha hs h.drew hw.rw.drew hl).mono fun r w' ⟨hr, ht⟩ => (And.intro hr (BTo.of_to h hw ks (To.drew ht))))
  generalize put ws a sn = ws1 at *
  generalize tr ++ [(⟨2, a, sn, std ws a, good ws a⟩ : Ac)] = tr1 at *
  generalize bad + bd ws a = bad1 at *
  generalize er ws a = E at *
  clear h hw hl ha hs
  go_enter Try.func26, Try.ntmps26
  go_wp2_with fail
  go_region_held3 (fun w' => w'.cell? ⟨b, 4, none⟩ = some (.int .i64 (s : Nat)) ∧ w'.cell? ⟨b, 6, none⟩ = some (.int .i64 sn)) (first | exact ⟨c4, c6⟩ | exact ⟨k0, k1⟩) ((go_at_call 56; refine HC.out.mono ?_; rintro r w3 ⟨rfl, K⟩; obtain ⟨D', hm, hwt, tu, q⟩ := id K; replace hwt : Sc b x e f n s 1 sn w3 := hwt; have k0 := hwt.c4; have k1 := hwt.c6))
  rename_i hHeld
  clear hHeld
  have d5 := hwt.c5
  have f5 := hwt.fz 5
  have K2 : Hid (BTo D B x b ws1 tr1 bad1 (scc x e f n s 2 sn) 115 w (w3.setCell ⟨b, 5, none⟩ (.int .i64 2))) := hide' (K.put ks (turn_b b 5 (.int .i64 2) _) (hwt.s5 2))
  clear K hm hwt tu q HC c4 c5 c6 k0 k1
  go_wp2
  go_ret
  exact ⟨rfl, K2.out⟩
set_option maxRecDepth 100000 in
set_option maxHeartbeats 1000000 in
theorem step2_any (hw : Sc b x e f n s 2 sn w) : Calls Try.prog 26 #[.pointer (some ⟨b, 0, none⟩)] w fun r w' => r = .returned (.bool true) ∧ w' = w := by
  have c5 := hw.c5
  clear hw
  go_enter Try.func26, Try.ntmps26
  go_wp2
  go_ret
  exact ⟨rfl, rfl⟩
set_option maxRecDepth 100000 in
set_option maxHeartbeats 1000000 in
/-- a grace period's first step -/
theorem grace0_any (h : Mem D B x ws tr bad w) (hw : Gr b x e f n si (-1) w) (hn : 1 ≤ n) (hl : tr.length < 1999999999999) :
    Calls Try.prog 24 #[.pointer (some ⟨b, 0, none⟩)] w fun r w' => r = .returned (.bool false) ∧ BTo D B x b (put ws e (wrap64 (std ws e + 1))) (tr ++ [⟨4, e, 1, std ws e, good ws e⟩]) (bad + bd ws e) (grc x e f n (wrap64 (std ws e + 1)) 0) 113 w w' := by
  have c5 := hw.c5
  have HC := hide' ((raise_any h hw.rw hl).mono fun r w' ⟨hr, ht⟩ => (And.intro hr (BTo.of_to h hw kg ht)))
  have dn : ((0 : Int) == (n : Int)) = false := by rw [beq_eq_false_iff_ne]; omega
  generalize put ws e (wrap64 (std ws e + 1)) = ws1 at *
  generalize tr ++ [(⟨4, e, 1, std ws e, good ws e⟩ : Ac)] = tr1 at *
  generalize bad + bd ws e = bad1 at *
  generalize wrap64 (std ws e + 1) = V at *
  clear h hw hl
  go_enter Try.func24, Try.ntmps24
  go_wp2_with fail
  refine HC.out.mono ?_
  rintro r w3 ⟨rfl, K⟩
  obtain ⟨D', hm, hwt, tu, q⟩ := id K
  replace hwt : Gr b x e f n si (-1) w3 := hwt
  have d4 := hwt.c4
  have d5 := hwt.c5
  have f4 := hwt.fz 4
  have f5 := hwt.fz 5
  have hw2 := (hwt.s4 V).s5 0
  have K2 : Hid (BTo D B x b ws1 tr1 bad1 (grc x e f n V 0) 113 w ((w3.setCell ⟨b, 4, none⟩ (.int .i64 V)).setCell ⟨b, 5, none⟩ (.int .i64 0))) := hide' (K.put kg ((turn_b b 4 (.int .i64 V) w3).trans (turn_b b 5 (.int .i64 0) _)) hw2)
  have e3 := hw2.rw.c3
  have e5 := hw2.c5
  clear K hm hwt tu q HC c5 hw2
  go_wp2_with fail
  clear d4 d5 f4 f5
  generalize (w3.setCell ⟨b, 4, none⟩ (.int .i64 V)).setCell ⟨b, 5, none⟩ (.int .i64 0) = w4 at *
  go_quiet (fail)
  have K3 := hide' (K2.out.drewN nq)
  clear K2
  go_wp2
  go_ret
  exact ⟨rfl, K3.out⟩
set_option maxRecDepth 100000 in
set_option maxHeartbeats 1000000 in
/-- a period that is over -/
theorem graceN_any (h : Mem D B x ws tr bad w) (hw : Gr b x e f n si (n : Nat) w) (hn : 1 ≤ n) :
    Calls Try.prog 24 #[.pointer (some ⟨b, 0, none⟩)] w fun r w' => r = .returned (.bool true) ∧ BTo D B x b ws tr bad (grc x e f n si (n : Nat)) 113 w w' := by
  have c5 := hw.c5
  have c3 := hw.rw.c3
  have dn : ((n : Int) == -1) = false := by rw [beq_eq_false_iff_ne]; omega
  have HC := hide' (fun k => has_any (n : Int) (show Rw b x e f n (w.drewN k) from hw.rw.block rfl))
  rw [show isl n (n : Int) = false from decide_eq_false (by omega)] at HC
  have K : Hid (BTo D B x b ws tr bad (grc x e f n si (n : Nat)) 113 w w) := hide' (BTo.same h hw)
  clear h hw
  go_enter Try.func24, Try.ntmps24
  go_wp2_with fail
  go_quiet ((go_at_call 52; exact Calls.quiet_of_same (HC.out _)))
  have K1 := hide' (K.out.drewN nq)
  go_wp2_with fail
  go_quiet (fail)
  have K3 := hide' (K1.out.drewN nq)
  go_wp2
  go_ret
  exact ⟨rfl, K3.out⟩
end M
end Go.Proofs.Ytbbopkhgmgdlfaa
