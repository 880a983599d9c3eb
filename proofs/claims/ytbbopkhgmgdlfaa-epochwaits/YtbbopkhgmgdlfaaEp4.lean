import Derived.Test.YtbbopkhgmgdlfaaEp3
set_option linter.unusedVariables false
set_option linter.unusedSimpArgs false
namespace Go.Proofs.Ytbbopkhgmgdlfaa
open Go.RowKit
namespace M
variable {D : Nat → Prop} {B x : Nat} {ws : List Int} {tr : List Ac} {bad : Nat} {w w' : World}
variable {b e f n s : Nat} {md sn si nx : Int}
/-- the next slot behind a look -/
def nxt (si v : Int) (k : Nat) : Nat := if lts si v = true then k + 1 else k
set_option maxRecDepth 100000 in
set_option maxHeartbeats 2000000 in
/-- a look -/
theorem graceL_any (k a : Nat) (ha : a = f + k) (hs : a < 1000000) (h : Mem D B x ws tr bad w) (hw : Gr b x e f n si (k : Nat) w) (hk : k < n) (hn : n ≤ 16) (hl : tr.length < 1999999999999) :
    Calls Try.prog 24 #[.pointer (some ⟨b, 0, none⟩)] w fun r w' => r = .returned (.bool (decide (nxt si (std ws a) k = n))) ∧ BTo D B x b ws (tr ++ [⟨1, a, std ws a, 0, good ws a⟩]) (bad + bd ws a) (grc x e f n si (nxt si (std ws a) k : Nat)) 113 w w' := by
  have c5 := hw.c5
  have c4 := hw.c4
  have c3 := hw.rw.c3
  have dn : ((k : Int) == -1) = false := by rw [beq_eq_false_iff_ne]; omega
  have HC := hide' (fun q => has_any (k : Int) (show Rw b x e f n (w.drewN q) from hw.rw.block rfl))
  rw [show isl n (k : Int) = true from decide_eq_true (by omega)] at HC
  have HL : Hid (∀ q, Calls Try.prog 54 #[.pointer (some ⟨b, 0, none⟩), .int .i64 (k : Nat)] (w.drewN q) fun r w' => r = .returned (.int .i64 (std ws a)) ∧ BTo D B x b ws (tr ++ [⟨1, a, std ws a, 0, good ws a⟩]) (bad + bd ws a) (grc x e f n si (k : Nat)) 113 w w') := hide' (fun q => (look_any k a ha hs (h.drewN q) (show Rw b x e f n (w.drewN q) from hw.rw.block rfl) hl).mono fun r w' ⟨hr, ht⟩ => (And.intro hr (BTo.of_to h hw kg (by obtain ⟨D', h', t', s'⟩ := ht; exact ⟨D', h', ((Turn.refl D w).drewN q).trans t', s'⟩))))
  have Hk1 := hide' (show wrap64 ((k : Int) + 1) = ((k + 1 : Nat) : Int) by unfold wrap64; omega)
  unfold nxt
  generalize tr ++ [(⟨1, a, std ws a, 0, good ws a⟩ : Ac)] = tr1 at *
  generalize bad + bd ws a = bad1 at *
  generalize std ws a = V at *
  clear h hw hl ha hs
  cases hlt : lts si V with
  | true =>
    rw [if_pos rfl]
    obtain ⟨k1, hk1⟩ : ∃ k1, k1 = k + 1 := ⟨_, rfl⟩
    rw [← hk1] at Hk1 ⊢
    clear hk1 hk hn
    go_enter Try.func24, Try.ntmps24
    go_wp2_with fail
    go_quiet ((go_at_call 52; exact Calls.quiet_of_same (HC.out _)))
    have HL1 := hide' (HL.out (nq + 1))
    replace c4 : (w.drewN nq).cell? ⟨b, 4, none⟩ = some (.int .i64 si) := c4
    replace c5 : (w.drewN nq).cell? ⟨b, 5, none⟩ = some (.int .i64 (k : Nat)) := c5
    clear HC HL c3
    go_wp2_with fail
    go_region_held3 (fun w' => w'.cell? ⟨b, 5, none⟩ = some (.int .i64 (k : Nat))) (first | exact c5 | exact k5 | go_keep) ((first | (go_at_call 54; refine (HL1.out).mono ?_; rintro r w3 ⟨rfl, K⟩; obtain ⟨D', hm, hwt, tu, q⟩ := id K; replace hwt : Gr b x e f n si (k : Nat) w3 := hwt; have k5 := hwt.c5; have HT := hide' (lets_any V hwt.c4); rw [hlt] at HT) | (go_at_call 53; refine HT.out.mono ?_; rintro r w4 ⟨rfl, rfl⟩)))
    rename_i hHeld
    clear hHeld
    have d5 := hwt.c5
    have f5 := hwt.fz 5
    have hw2 := hwt.s5 (k1 : Nat)
    have K2 : Hid (BTo D B x b ws tr1 bad1 (grc x e f n si (k1 : Nat)) 113 w (w4.setCell ⟨b, 5, none⟩ (.int .i64 (k1 : Nat)))) := hide' (BTo.put (cs := grc x e f n si (k : Nat)) ⟨D', hm, hwt, tu, q⟩ kg (turn_b b 5 (.int .i64 (k1 : Nat)) w4) hw2)
    have e3 := hw2.rw.c3
    have e5 := hw2.c5
    have hk1 := Hk1.out
    clear hm hwt tu q HT hw2 c4 c5 k5 HL1 Hk1
    go_wp2_with fail
    clear d5 f5 hk1
    generalize w4.setCell ⟨b, 5, none⟩ (.int .i64 (k1 : Nat)) = w5 at *
    go_quiet (fail)
    have K3 := hide' (K2.out.drewN nq)
    clear K2 e3 e5
    by_cases hc : k1 = n
    · subst hc
      go_wp2
      go_ret
      exact ⟨by simp, K3.out⟩
    · have hc2 : ((k1 : Int) == (n : Int)) = false := by rw [beq_eq_false_iff_ne]; omega
      go_wp2
      go_ret
      exact ⟨by simp [hc]; omega, K3.out⟩
  | false =>
    rw [if_neg (by decide)]
    have hkn : ¬ k = n := by omega
    have hc2 : ((k : Int) == (n : Int)) = false := by rw [beq_eq_false_iff_ne]; omega
    clear hk hn Hk1
    go_enter Try.func24, Try.ntmps24
    go_wp2_with fail
    go_quiet ((go_at_call 52; exact Calls.quiet_of_same (HC.out _)))
    have HL1 := hide' (HL.out (nq + 1))
    replace c4 : (w.drewN nq).cell? ⟨b, 4, none⟩ = some (.int .i64 si) := c4
    replace c5 : (w.drewN nq).cell? ⟨b, 5, none⟩ = some (.int .i64 (k : Nat)) := c5
    clear HC HL c3
    go_wp2_with fail
    go_region_held3 (fun w' => w'.cell? ⟨b, 5, none⟩ = some (.int .i64 (k : Nat))) (first | exact c5 | exact k5 | go_keep) ((first | (go_at_call 54; refine (HL1.out).mono ?_; rintro r w3 ⟨rfl, K⟩; obtain ⟨D', hm, hwt, tu, q⟩ := id K; replace hwt : Gr b x e f n si (k : Nat) w3 := hwt; have k5 := hwt.c5; have HT := hide' (lets_any V hwt.c4); rw [hlt] at HT) | (go_at_call 53; refine HT.out.mono ?_; rintro r w4 ⟨rfl, rfl⟩)))
    rename_i hHeld
    clear hHeld
    have K2 : Hid (BTo D B x b ws tr1 bad1 (grc x e f n si (k : Nat)) 113 w w4) := hide' ⟨D', hm, hwt, tu, q⟩
    have e3 := hwt.rw.c3
    have e5 := hwt.c5
    clear hm hwt tu q HT c4 c5 k5 HL1
    go_wp2_with fail
    go_quiet (fail)
    have K3 := hide' (K2.out.drewN nq)
    clear K2 e3 e5
    go_wp2
    go_ret
    exact ⟨by simp [hkn], K3.out⟩
/-- is the period ready? -/
def grdy (ws : List Int) (f n : Nat) (si nx : Int) : Bool := !(isl n nx) || lts si (ws.getD (f + nx.toNat) 0)
set_option maxRecDepth 100000 in
set_option maxHeartbeats 2000000 in
theorem ready_no (hw : Gr b x e f n si nx w) (hi : isl n nx = false) : Calls Try.prog 28 #[.pointer (some ⟨b, 0, none⟩)] w fun r w' => r = .returned (.bool (grdy ws f n si nx)) ∧ Below w.heap.size w w' := by
  rw [show grdy ws f n si nx = true by unfold grdy; rw [hi]; rfl]
  have c5 := hw.c5
  have HC := hide' (fun q => has_any nx (show Rw b x e f n (w.drewN q) from hw.rw.block rfl))
  rw [hi] at HC
  clear hw hi
  go_enter Try.func28, Try.ntmps28
  go_wp2_with fail
  go_quiet ((go_at_call 52; exact Calls.quiet_of_same (HC.out _)))
  go_wp2
  go_ret
  exact ⟨rfl, ⟨rfl, rfl, rfl, Nat.le_refl _, fun _ _ => rfl⟩⟩
set_option maxRecDepth 100000 in
set_option maxHeartbeats 2000000 in
theorem ready_at (k a : Nat) (ha : a = f + k) (h : Mem D B x ws tr bad w) (hw : Gr b x e f n si (k : Nat) w) (hk : k < n) (hs : a < ws.length) : Calls Try.prog 28 #[.pointer (some ⟨b, 0, none⟩)] w fun r w' => r = .returned (.bool (grdy ws f n si (k : Nat))) ∧ Below w.heap.size w w' := by
  rw [show grdy ws f n si (k : Nat) = lts si (ws.getD a 0) by unfold grdy; rw [show isl n (k : Int) = true from decide_eq_true (by omega), ha]; rfl]
  have c5 := hw.c5
  have HC := hide' (has_any (k : Int) hw.rw.drew)
  rw [show isl n (k : Int) = true from decide_eq_true (by omega)] at HC
  have HL : Hid (Calls Try.prog 57 #[.pointer (some ⟨b, 0, none⟩), .int .i64 (k : Nat)] w.drew fun r w' => r = .returned (.int .i64 (ws.getD a 0)) ∧ Below w.heap.size w w' ∧ Gr b x e f n si (k : Nat) w') := hide' ((peek_any k a ha h.drew hw.rw.drew hs).mono fun r w' ⟨hr, ht⟩ => ⟨hr, ⟨ht.os, ht.tape, ht.output, ht.size, ht.block⟩, (ht.block b (lt_of_heap hw)).trans hw⟩)
  generalize ws.getD a 0 = V at *
  clear h hw ha hs hk
  go_enter Try.func28, Try.ntmps28
  go_wp2_with fail
  go_region_held3 (fun w' => w'.cell? ⟨b, 5, none⟩ = some (.int .i64 (k : Nat))) (first | exact c5 | exact k5 | go_keep) ((first | (go_at_call 53; refine HT.out.mono ?_; rintro r w4 ⟨rfl, rfl⟩) | (go_at_call 57; refine (HL.out).mono ?_; rintro r w3 ⟨rfl, b3, hwt⟩; have k5 := hwt.c5; have HT := hide' (lets_any V hwt.c4)) | (go_at_call 52; refine HC.out.mono ?_; rintro r w2 ⟨rfl, rfl⟩)))
  rename_i hHeld
  clear hHeld
  go_wp2
  go_ret
  exact ⟨rfl, b3⟩
end M
end Go.Proofs.Ytbbopkhgmgdlfaa
