import Derived.Test.YtihdagehenmolaaRff
import Derived.Test.YtihdagehenmolaaApW
set_option linter.unusedVariables false
set_option linter.unusedSimpArgs false
namespace Go.Proofs.Ytihdagehenmolaa
open Go.RowKit
namespace J
open M K
set_option maxRecDepth 100000 in
set_option maxHeartbeats 2000000 in
theorem rframe_ok (e : En) (h : e.ok) (w : World) : Calls Try.prog 12 #[.agg #[.int .i64 e.v, .string (sb e.t)]] w fun r w' => r = .returned (.tuple #[.string (sb (rcd e)), .int .i64 0]) ∧ Below w.heap.size w w' := by
  obtain ⟨v, t⟩ := e
  obtain ⟨h1, h2, h3⟩ := h
  simp only at h1 h2 h3 ⊢
  obtain ⟨V, rfl⟩ := Int.eq_ofNat_of_zero_le (show 0 ≤ v by omega)
  have g1 : ¬ ((V : Int) < 1) := by omega
  have g2 : ¬ (2147483647 < (V : Int)) := by omega
  have z := sb_size t
  obtain ⟨n, hn⟩ : ∃ n, n = t.length := ⟨_, rfl⟩
  have g3 : ¬ (65536 < (n : Int)) := by omega
  obtain ⟨T, hT⟩ : ∃ T, T = sb t := ⟨_, rfl⟩
  obtain ⟨HD, hHD⟩ : ∃ l, l = hd V n := ⟨_, rfl⟩
  have CV : Hid (∀ W, Calls Try.prog 32 #[.int .i64 (V : Int)] W fun e w' => e = .returned (.string (sb (four V))) ∧ Below W.heap.size W w') := hide' (fun W => rfour_any V (by omega) W)
  have CN : Hid (∀ W, Calls Try.prog 32 #[.int .i64 (n : Int)] W fun e w' => e = .returned (.string (sb (four n))) ∧ Below W.heap.size W w') := hide' (fun W => rfour_any n (by omega) W)
  have CH : Hid (∀ W, Calls Try.prog 33 #[.string (sb HD)] W fun e w' => e = .returned (.int .i64 (sm HD : Nat)) ∧ w' = W) := hide' (fun W => rsum_any HD (by rw [hHD, hd_len]; omega) W)
  have CT : Hid (∀ W, Calls Try.prog 33 #[.string T] W fun e w' => e = .returned (.int .i64 (sm t : Nat)) ∧ w' = W) := hide' (fun W => by rw [hT]; exact rsum_any t (by omega) W)
  have C4 : Hid (∀ W, Calls Try.prog 32 #[.int .i64 (sm HD : Nat)] W fun e w' => e = .returned (.string (sb (four (sm HD)))) ∧ Below W.heap.size W w') := hide' (fun W => rfour_any _ (sm_lt _) W)
  have C5 : Hid (∀ W, Calls Try.prog 32 #[.int .i64 (sm t : Nat)] W fun e w' => e = .returned (.string (sb (four (sm t)))) ∧ Below W.heap.size W w') := hide' (fun W => rfour_any _ (sm_lt _) W)
  have y1 : (⟨#[165]⟩ : ByteArray) ++ sb (four V) ++ sb (four n) = sb HD := by
    rw [show (⟨#[165]⟩ : ByteArray) = sb [165] from rfl, sb_add, sb_add, hHD]; rfl
  have y2 : sb HD ++ sb (four (sm HD)) ++ T ++ sb (four (sm t)) = sb (rcd ⟨(V : Int), t⟩) := by
    rw [hT, sb_add, sb_add, sb_add]
    unfold rcd
    rw [Int.toNat_natCast, ← hn, ← hHD]
    simp only [List.append_assoc]
  rw [← hT, ← hn] at z
  rw [← hT]
  have B1 : Hid (Bx w.heap.size ⟨(V : Int), t⟩ (w.alloc (.cells #[.int .i64 (V : Int), .string (sb t)] 24)) ∧ Below w.heap.size w (w.alloc (.cells #[.int .i64 (V : Int), .string (sb t)] 24))) := hide' ⟨heap_alloc_new _ _, below_al _ _⟩
  rw [← hT] at B1
  have HT := hide' hT
  have s1 : (sb (four V)).size = 4 := by rw [sb_size, four_len]
  have s2 : (sb (four n)).size = 4 := by rw [sb_size, four_len]
  have s3 : (sb (four (sm HD))).size = 4 := by rw [sb_size, four_len]
  have s4 : (sb (four (sm t))).size = 4 := by rw [sb_size, four_len]
  have s5 : (sb HD).size = 9 := by rw [sb_size, hHD, hd_len]
  generalize sb (rcd ⟨(V : Int), t⟩) = RR at *
  generalize sb (four V) = S1 at *
  generalize sb (four n) = S2 at *
  generalize sb (four (sm HD)) = S3 at *
  generalize sb (four (sm t)) = S4 at *
  generalize sb HD = SH at *
  generalize sm HD = mH at *
  generalize sm t = mT at *
  clear h1 h2 h3 hn hT hHD
  obtain ⟨q, hq⟩ : ∃ q, q = w.heap.size := ⟨_, rfl⟩
  have HQ := hide' hq
  go_enter Try.func12, Try.ntmps12
  go_wp2_with fail
  obtain ⟨W, hW⟩ : ∃ W, W = w.alloc (.cells #[.int .i64 (V : Int), .string T] 24) := ⟨_, rfl⟩
  rw [← hW] at B1 ⊢
  rw [← hq]
  clear hq hW
  have c0 := B1.out.1.c0
  have c1 := B1.out.1.c1
  rw [← HT.out] at c1
  rw [← HQ.out] at c0 c1
  simp only at c0
  have BX := B1.out.1
  rw [← HQ.out] at BX
  have HBX := hide' BX
  clear BX
  have ltq : q < W.heap.size := lt_of_heap HBX.out
  go_region_held3 (fun w' => w'.cell? ⟨q, 0, none⟩ = some (.int .i64 (V : Int)) ∧ w'.cell? ⟨q, 1, none⟩ = some (.string T)) (first | exact ⟨j0, j1⟩ | exact ⟨k0, k1⟩ | exact ⟨c0, c1⟩) ((first | ((with_reducible refine (CV.out _).mono ?_); (rintro e wa ⟨rfl, ba⟩); (have k0 := (ba.cell (p := ⟨q, 0, none⟩) ltq).trans c0); (have k1 := (ba.cell (p := ⟨q, 1, none⟩) ltq).trans c1); (have KA := hide' ba); clear ba) | ((with_reducible refine (CN.out _).mono ?_); (rintro e wb ⟨rfl, bb⟩); (have j0 := (bb.cell (p := ⟨q, 0, none⟩) (Nat.lt_of_lt_of_le ltq KA.out.size)).trans k0); (have j1 := (bb.cell (p := ⟨q, 1, none⟩) (Nat.lt_of_lt_of_le ltq KA.out.size)).trans k1); (have KB := hide' bb); clear bb)))
  rename_i hHeld
  clear hHeld
  have ltb : q < wb.heap.size := Nat.lt_of_lt_of_le ltq (Nat.le_trans KA.out.size KB.out.size)
  have BB : Hid (Below w.heap.size w wb) := hide' (B1.out.2.trans ((KA.out.mono B1.out.2.size).trans (KB.out.mono (Nat.le_trans B1.out.2.size KA.out.size)) |> fun h => (⟨h.os, h.tape, h.output, h.size, h.block⟩ : Below w.heap.size W wb)))
  clear c0 c1 k0 k1 KA KB HBX B1 CV CN ltq
  have o1 : ¬ 9223372036854775807 < 13 + n := by omega
  have o2 : ¬ 9223372036854775807 < 13 + n + 4 := by omega
  go_wp2_with fail
  go_region_held3 (fun w' => w'.cell? ⟨q, 0, none⟩ = some (.int .i64 (V : Int)) ∧ w'.cell? ⟨q, 1, none⟩ = some (.string T)) (first | exact ⟨l0, l1⟩ | exact ⟨k0, k1⟩ | exact ⟨j0, j1⟩) ((first | ((with_reducible refine (CH.out _).mono ?_); (rintro e wc ⟨rfl, rfl⟩)) | ((with_reducible refine (C4.out _).mono ?_); (rintro e wd ⟨rfl, bd⟩); (have k0 := (bd.cell (p := ⟨q, 0, none⟩) ltb).trans j0); (have k1 := (bd.cell (p := ⟨q, 1, none⟩) ltb).trans j1); (have KA := hide' bd); clear bd) | ((with_reducible refine (CT.out _).mono ?_); (rintro e we ⟨rfl, rfl⟩)) | ((with_reducible refine (C5.out _).mono ?_); (rintro e wf ⟨rfl, bf⟩); (have l0 := (bf.cell (p := ⟨q, 0, none⟩) (Nat.lt_of_lt_of_le ltb KA.out.size)).trans k0); (have l1 := (bf.cell (p := ⟨q, 1, none⟩) (Nat.lt_of_lt_of_le ltb KA.out.size)).trans k1); (have KB := hide' bf); clear bf)))
  rename_i hHeld
  clear hHeld
  have BF : Hid (Below w.heap.size w wf) := hide' (BB.out.trans ((KA.out.mono BB.out.size).trans (KB.out.mono (Nat.le_trans BB.out.size KA.out.size)) |> fun h => (⟨h.os, h.tape, h.output, h.size, h.block⟩ : Below w.heap.size wb wf)))
  go_wp2
  go_ret2
  exact ⟨rfl, BF.out⟩
set_option maxRecDepth 100000 in
set_option maxHeartbeats 1000000 in
theorem rframe_range (e : En) (h : ¬ (1 ≤ e.v ∧ e.v ≤ 2147483647)) (w : World) : Calls Try.prog 12 #[.agg #[.int .i64 e.v, .string (sb e.t)]] w fun r w' => r = .returned (.tuple #[.string ⟨#[]⟩, .int .i64 3]) ∧ Below w.heap.size w w' := by
  obtain ⟨v, t⟩ := e
  simp only at h ⊢
  generalize sb t = T
  by_cases h1 : v < 1
  · clear h
    go_enter Try.func12, Try.ntmps12
    go_wp2
    go_ret2
    exact ⟨rfl, below_al w _⟩
  · have h2 : 2147483647 < v := by omega
    clear h
    go_enter Try.func12, Try.ntmps12
    go_wp2
    go_ret2
    exact ⟨rfl, below_al w _⟩
set_option maxRecDepth 100000 in
set_option maxHeartbeats 1000000 in
theorem rframe_long (e : En) (h : 1 ≤ e.v ∧ e.v ≤ 2147483647) (h3 : 65536 < e.t.length) (w : World) : Calls Try.prog 12 #[.agg #[.int .i64 e.v, .string (sb e.t)]] w fun r w' => r = .returned (.tuple #[.string ⟨#[]⟩, .int .i64 5]) ∧ Below w.heap.size w w' := by
  obtain ⟨v, t⟩ := e
  simp only at h h3 ⊢
  have z := sb_size t
  generalize sb t = T at *
  obtain ⟨n, hn⟩ : ∃ n, n = t.length := ⟨_, rfl⟩
  rw [← hn] at z h3
  have g1 : ¬ (v < 1) := by omega
  have g2 : ¬ (2147483647 < v) := by omega
  have g3 : 65536 < (n : Int) := by omega
  clear h h3 hn
  go_enter Try.func12, Try.ntmps12
  go_wp2
  go_ret2
  exact ⟨rfl, below_al w _⟩
theorem rframe_any (e : En) (w : World) : Calls Try.prog 12 #[.agg #[.int .i64 e.v, .string (sb e.t)]] w fun r w' => r = .returned (.tuple #[.string (sb (frs e)), .int .i64 (frc e)]) ∧ Below w.heap.size w w' := by
  by_cases h : 1 ≤ e.v ∧ e.v ≤ 2147483647
  · by_cases h3 : e.t.length ≤ 65536
    · have ok : e.ok := ⟨h.1, h.2, h3⟩
      rw [frc_ok ok, frs_ok ok]
      exact rframe_ok e ok w
    · have e1 : frc e = 5 := by unfold frc; rw [if_pos h, if_neg h3]
      rw [frs_no (by rw [e1]; decide), e1]
      exact rframe_long e h (by omega) w
  · have e1 : frc e = 3 := by unfold frc; rw [if_neg h]
    rw [frs_no (by rw [e1]; decide), e1]
    exact rframe_range e h w
set_option maxRecDepth 100000 in
set_option maxHeartbeats 1000000 in
theorem law_frame (e : En) (w : World) : Calls Try.prog 4 #[.agg #[.int .i64 e.v, .string (sb e.t)]] w fun r w' => r = .returned (.bool true) ∧ Below w.heap.size w w' := by
  have B1 : Hid (Bx w.heap.size e (w.alloc (.cells #[.int .i64 e.v, .string (sb e.t)] 24)) ∧ Below w.heap.size w (w.alloc (.cells #[.int .i64 e.v, .string (sb e.t)] 24))) := hide' ⟨heap_alloc_new _ _, below_al _ _⟩
  have C1 := hide' (rframe_any e (w.alloc (.cells #[.int .i64 e.v, .string (sb e.t)] 24)))
  have C2 : Hid (∀ W, _) := hide' (fun W => frame_any e W)
  obtain ⟨v, hv⟩ : ∃ v, v = e.v := ⟨_, rfl⟩
  obtain ⟨T, hT⟩ : ∃ T, T = sb e.t := ⟨_, rfl⟩
  rw [← hv, ← hT] at B1 C1 C2 ⊢
  have HV := hide' (And.intro hv hT)
  generalize sb (frs e) = F at *
  generalize frc e = c at *
  clear hv hT
  go_enter Try.func4, Try.ntmps4
  go_wp2_with fail
  refine C1.out.mono ?_
  rintro x w1 ⟨rfl, b1⟩
  have B2 := hide' (And.intro (B1.out.1.below b1 (Nat.le_refl _)) (B1.out.2.trans (b1.mono B1.out.2.size)))
  have c0 := B2.out.1.c0
  have c1 := B2.out.1.c1
  rw [← HV.out.1] at c0
  rw [← HV.out.2] at c1
  have C3 := hide' (C2.out w1)
  clear b1 C1 B1
  go_wp2_with fail
  refine C3.out.mono ?_
  rintro x w2 ⟨rfl, b2⟩
  have B3 := hide' (B2.out.2.trans (b2.mono B2.out.2.size))
  clear b2 C3 c0 c1
  go_wp2
  go_ret
  exact ⟨rfl, B3.out⟩
end J
end Go.Proofs.Ytihdagehenmolaa
