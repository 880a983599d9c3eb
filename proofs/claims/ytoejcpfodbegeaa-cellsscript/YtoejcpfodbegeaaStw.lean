import Derived.Test.YtoejcpfodbegeaaAcx
set_option linter.unusedVariables false
set_option linter.unusedSimpArgs false
namespace Go.Proofs.Ytoejcpfodbegeaa
open Go.RowKit
namespace F
open M
variable {U D R : Nat → Prop} {B x y n m : Nat} {ws ws' : List Int} {tr tr' : List Ac} {bad bad' : Nat} {w w' w1 w2 : World}
set_option maxRecDepth 100000 in
set_option maxHeartbeats 4000000 in
theorem step_two (s : St) (hs : s.ok) (h : Pr U B x y ws m tr bad w) (hl : tr.length < 1999999999999) (hm : m < 1999999999999) :
    Calls Try.prog 15 #[.pointer (some ⟨x, 0, none⟩), .pointer (some ⟨y, 0, none⟩), .agg s.arr] w fun e w' => e = .returned (.bool true) ∧ PSome U B x y ws.length (tr.length + 1) (m + 1) w w' := by
  obtain ⟨sd, sa, sb, sc, ⟨xk, xa, xv, xo, xg⟩⟩ := s
  have hs2 := hide' hs.2.2
  clear hs
  simp only at hs2
  unfold St.arr
  simp only
  have HPr := hide' h
  obtain ⟨D, R, hM, hR, hdis, hU⟩ := h
  have HA := hide' (fun o => hM.alloc o)
  have HB := hide' (fun o => hR.alloc o)
  have Hdis := hide' hdis
  have HU := hide' hU
  have HL := hide' hl
  have HM := hide' hm
  have hDs : Hid (¬ D w.heap.size) := fun q => Nat.lt_irrefl _ (hM.lo q).2
  have hRs : Hid (¬ R w.heap.size) := fun q => Nat.lt_irrefl _ (hR.low q).2
  have Hbox := hide' (fun o => heap_alloc_new w o)
  clear hM hR hdis hU hl hm
  have HP := hide' (fun o => Pr.below (w' := w.alloc o) HPr.out ((Below.refl _ _).alloc (Nat.le_refl _) o))
  have HBA : Hid (∀ o : Obj, Below w.heap.size w (w.alloc o)) := fun o => (Below.refl _ _).alloc (Nat.le_refl _) o
  have HK : Hid (∀ w', Pr U B x y ws m tr bad w' → Below w.heap.size w w' → PSome U B x y ws.length (tr.length + 1) (m + 1) w w') := fun w' hp hb => ⟨_, _, _, rfl, Nat.le_succ _, U, pr_more hp, turn_below hb, fun j hj => .inl hj⟩
  have Hfew : Hid (0 < ws.length ∧ ws.length ≤ 65536) := by obtain ⟨D, R, hM, _⟩ := HPr.out; exact hM.few
  by_cases h1 : sd = 1
  · subst h1
    clear hRs
    have Hc := hide' (access_two ⟨1, sa, sb, sc, ⟨xk, xa, xv, xo, xg⟩⟩ (HP.out (.cells #[.int .i64 1, .int .i64 sa, .int .i64 sb, .int .i64 sc, .int .i8 xk, .int .i64 xa, .int .i64 xv, .int .i64 xo, .bool xg] 39)) HL.out HM.out)
    unfold St.arr at Hc
    simp only at Hc
    go_enter Try.func15, Try.ntmps15
    go_wp2_with fail
    refine Hc.out.mono ?_
    rintro e w2 ⟨rfl, ws', tr', bad', q1, q2, q3⟩
    have K : Hid (PSome U B x y ws.length (tr.length + 1) (m + 1) w w2) := ⟨ws', tr', bad', q1, q2, q3.alloc⟩
    clear Hc q1 q2 q3
    go_wp2
    go_ret
    exact ⟨rfl, K.out⟩
  have d1 : (sd == 1) = false := by simpa using h1
  by_cases h2 : sd = 2
  · subst h2
    clear h1
    have Hc := hide' (access_two ⟨2, sa, sb, sc, ⟨xk, xa, xv, xo, xg⟩⟩ (HP.out (.cells #[.int .i64 2, .int .i64 sa, .int .i64 sb, .int .i64 sc, .int .i8 xk, .int .i64 xa, .int .i64 xv, .int .i64 xo, .bool xg] 39)) HL.out HM.out)
    unfold St.arr at Hc
    simp only at Hc
    go_enter Try.func15, Try.ntmps15
    go_wp2_with fail
    refine Hc.out.mono ?_
    rintro e w2 ⟨rfl, ws', tr', bad', q1, q2, q3⟩
    have K : Hid (PSome U B x y ws.length (tr.length + 1) (m + 1) w w2) := ⟨ws', tr', bad', q1, q2, q3.alloc⟩
    clear Hc q1 q2 q3
    go_wp2
    go_ret
    exact ⟨rfl, K.out⟩
  have d2 : (sd == 2) = false := by simpa using h2
  by_cases h3 : sd = 3
  · subst h3
    clear h1 h2
    have Hc := hide' (access_two ⟨3, sa, sb, sc, ⟨xk, xa, xv, xo, xg⟩⟩ (HP.out (.cells #[.int .i64 3, .int .i64 sa, .int .i64 sb, .int .i64 sc, .int .i8 xk, .int .i64 xa, .int .i64 xv, .int .i64 xo, .bool xg] 39)) HL.out HM.out)
    unfold St.arr at Hc
    simp only at Hc
    go_enter Try.func15, Try.ntmps15
    go_wp2_with fail
    refine Hc.out.mono ?_
    rintro e w2 ⟨rfl, ws', tr', bad', q1, q2, q3⟩
    have K : Hid (PSome U B x y ws.length (tr.length + 1) (m + 1) w w2) := ⟨ws', tr', bad', q1, q2, q3.alloc⟩
    clear Hc q1 q2 q3
    go_wp2
    go_ret
    exact ⟨rfl, K.out⟩
  have d3 : (sd == 3) = false := by simpa using h3
  by_cases h4 : sd = 4
  · subst h4
    clear h1 h2 h3
    have Hc := hide' (access_two ⟨4, sa, sb, sc, ⟨xk, xa, xv, xo, xg⟩⟩ (HP.out (.cells #[.int .i64 4, .int .i64 sa, .int .i64 sb, .int .i64 sc, .int .i8 xk, .int .i64 xa, .int .i64 xv, .int .i64 xo, .bool xg] 39)) HL.out HM.out)
    unfold St.arr at Hc
    simp only at Hc
    go_enter Try.func15, Try.ntmps15
    go_wp2_with fail
    refine Hc.out.mono ?_
    rintro e w2 ⟨rfl, ws', tr', bad', q1, q2, q3⟩
    have K : Hid (PSome U B x y ws.length (tr.length + 1) (m + 1) w w2) := ⟨ws', tr', bad', q1, q2, q3.alloc⟩
    clear Hc q1 q2 q3
    go_wp2
    go_ret
    exact ⟨rfl, K.out⟩
  have d4 : (sd == 4) = false := by simpa using h4
  clear h1 h2 h3 h4
  by_cases h5 : sd = 5
  · subst h5
    have Hc := hide' (mnote ⟨xk, xa, xv, xo, xg⟩ (HA.out (.cells #[.int .i64 5, .int .i64 sa, .int .i64 sb, .int .i64 sc, .int .i8 xk, .int .i64 xa, .int .i64 xv, .int .i64 xo, .bool xg] 39)) HL.out)
    go_enter Try.func15, Try.ntmps15
    go_wp2_with fail
    refine Hc.out.mono ?_
    rintro e w2 ⟨rfl, t2⟩
    have hb := beside t2 (Hbox.out _) hDs.out
    have c4 : w2.cell? ⟨w.heap.size, 4, none⟩ = some (.int .i8 xk) := by rw [Lib.cell_of_heap hb]; rfl
    have c5 : w2.cell? ⟨w.heap.size, 5, none⟩ = some (.int .i64 xa) := by rw [Lib.cell_of_heap hb]; rfl
    have c6 : w2.cell? ⟨w.heap.size, 6, none⟩ = some (.int .i64 xv) := by rw [Lib.cell_of_heap hb]; rfl
    have c7 : w2.cell? ⟨w.heap.size, 7, none⟩ = some (.int .i64 xo) := by rw [Lib.cell_of_heap hb]; rfl
    have c8 : w2.cell? ⟨w.heap.size, 8, none⟩ = some (.bool xg) := by rw [Lib.cell_of_heap hb]; rfl
    have Hr := hide' (F.note_one ⟨xk, xa, xv, xo, xg⟩ (rem_behind (HB.out _) Hdis.out t2) HL.out)
    have T2 := hide' t2
    clear Hc t2 hb
    go_wp2_with fail
    refine Hr.out.mono ?_
    rintro e w3 ⟨rfl, t3⟩
    have K : Hid (PSome U B x y ws.length (tr.length + 1) (m + 1) w w3) := ⟨_, _, _, rfl, (by simp), (pair_to (HA.out _) (HB.out _) Hdis.out HU.out T2.out (rto_more t3)).alloc⟩
    clear Hr t3 T2 c4 c5 c6 c7 c8
    go_wp2
    go_ret
    exact ⟨rfl, K.out⟩
  have d5 : (sd == 5) = false := by simpa using h5
  by_cases h6 : sd = 6
  · subst h6
    clear h5
    have Hc := hide' (M.poison_any sa sb (Mem.drew' (HA.out (.cells #[.int .i64 6, .int .i64 sa, .int .i64 sb, .int .i64 sc, .int .i8 xk, .int .i64 xa, .int .i64 xv, .int .i64 xo, .bool xg] 39))) hs2.out)
    go_enter Try.func15, Try.ntmps15
    go_wp2_with fail
    go_region_held3 (fun w' => w'.cell? ⟨w.heap.size, 1, none⟩ = some (.int .i64 sa) ∧ w'.cell? ⟨w.heap.size, 2, none⟩ = some (.int .i64 sb)) (first | go_keep | exact ⟨l1, l2⟩ | exact ⟨k1, k2⟩) ((first | (go_at_call 32; refine Hc.out.mono ?_; rintro e w2 ⟨rfl, h2, u2⟩; have t2 := fill_to h2 u2; clear h2 u2; have hb := beside t2 (Hbox.out _) hDs.out; have k1 : w2.cell? ⟨w.heap.size, 1, none⟩ = some (.int .i64 sa) := (by rw [Lib.cell_of_heap hb]; rfl); have k2 : w2.cell? ⟨w.heap.size, 2, none⟩ = some (.int .i64 sb) := (by rw [Lib.cell_of_heap hb]; rfl); have Hr := hide' (F.poison_any sa sb (rem_behind (HB.out _).drew Hdis.out t2) HM.out hs2.out); have T2 := hide' t2; have HB2 := hide' hb; clear t2 hb) | (go_at_call 38; refine Hr.out.mono ?_; rintro e w3 ⟨rfl, t3⟩; have hb3 := rbeside t3 HB2.out hRs.out; have l1 : w3.cell? ⟨w.heap.size, 1, none⟩ = some (.int .i64 sa) := (by rw [Lib.cell_of_heap hb3]; rfl); have l2 : w3.cell? ⟨w.heap.size, 2, none⟩ = some (.int .i64 sb) := (by rw [Lib.cell_of_heap hb3]; rfl); have T3 := hide' t3; clear t3 hb3)))
    have K : Hid (PSome U B x y ws.length (tr.length + 1) (m + 1) w w3) := ⟨_, _, _, pfill_len _ _ _ _, (by simp), ((pair_to (Mem.drew' (HA.out _)) (HB.out _).drew Hdis.out HU.out T2.out T3.out).drew).alloc⟩
    rename_i hHeld
    clear hHeld Hr T3 T2 HB2 k1 k2 l1 l2 Hc
    go_wp2
    go_ret
    exact ⟨rfl, K.out⟩
  have d6 : (sd == 6) = false := by simpa using h6
  by_cases h7 : sd = 7
  · subst h7
    clear h5 h6
    have Hc := hide' (M.clear_any sa sb (Mem.drew' (HA.out (.cells #[.int .i64 7, .int .i64 sa, .int .i64 sb, .int .i64 sc, .int .i8 xk, .int .i64 xa, .int .i64 xv, .int .i64 xo, .bool xg] 39))) hs2.out)
    go_enter Try.func15, Try.ntmps15
    go_wp2_with fail
    go_region_held3 (fun w' => w'.cell? ⟨w.heap.size, 1, none⟩ = some (.int .i64 sa) ∧ w'.cell? ⟨w.heap.size, 2, none⟩ = some (.int .i64 sb)) (first | go_keep | exact ⟨l1, l2⟩ | exact ⟨k1, k2⟩) ((first | (go_at_call 33; refine Hc.out.mono ?_; rintro e w2 ⟨rfl, h2, u2⟩; have t2 := fill_to h2 u2; clear h2 u2; have hb := beside t2 (Hbox.out _) hDs.out; have k1 : w2.cell? ⟨w.heap.size, 1, none⟩ = some (.int .i64 sa) := (by rw [Lib.cell_of_heap hb]; rfl); have k2 : w2.cell? ⟨w.heap.size, 2, none⟩ = some (.int .i64 sb) := (by rw [Lib.cell_of_heap hb]; rfl); have Hr := hide' (F.clear_any sa sb (rem_behind (HB.out _).drew Hdis.out t2) HM.out hs2.out); have T2 := hide' t2; have HB2 := hide' hb; clear t2 hb) | (go_at_call 39; refine Hr.out.mono ?_; rintro e w3 ⟨rfl, t3⟩; have hb3 := rbeside t3 HB2.out hRs.out; have l1 : w3.cell? ⟨w.heap.size, 1, none⟩ = some (.int .i64 sa) := (by rw [Lib.cell_of_heap hb3]; rfl); have l2 : w3.cell? ⟨w.heap.size, 2, none⟩ = some (.int .i64 sb) := (by rw [Lib.cell_of_heap hb3]; rfl); have T3 := hide' t3; clear t3 hb3)))
    have K : Hid (PSome U B x y ws.length (tr.length + 1) (m + 1) w w3) := ⟨_, _, _, pfill_len _ _ _ _, (by simp), ((pair_to (Mem.drew' (HA.out _)) (HB.out _).drew Hdis.out HU.out T2.out T3.out).drew).alloc⟩
    rename_i hHeld
    clear hHeld Hr T3 T2 HB2 k1 k2 l1 l2 Hc
    go_wp2
    go_ret
    exact ⟨rfl, K.out⟩
  have d7 : (sd == 7) = false := by simpa using h7
  clear h5 h6 h7
  by_cases h8 : sd = 8
  · subst h8
    have Hc := hide' (M.words_any sa sb (HA.out (.cells #[.int .i64 8, .int .i64 sa, .int .i64 sb, .int .i64 sc, .int .i8 xk, .int .i64 xa, .int .i64 xv, .int .i64 xo, .bool xg] 39)) hs2.out)
    have Hlen := hide' (piece_le ws sa sb)
    go_enter Try.func15, Try.ntmps15
    go_wp2_with fail
    refine Hc.out.mono ?_
    rintro e w2 ⟨ro, rc, rfl, hr2, b2⟩
    have SZ2 := hide' b2.size
    have P2 := hide' (Pr.below (HP.out _) b2)
    have hb := (b2.block w.heap.size (by simp)).trans (Hbox.out _)
    have c1 : w2.cell? ⟨w.heap.size, 1, none⟩ = some (.int .i64 sa) := by rw [Lib.cell_of_heap hb]; rfl
    have c2 : w2.cell? ⟨w.heap.size, 2, none⟩ = some (.int .i64 sb) := by rw [Lib.cell_of_heap hb]; rfl
    have B2 := hide' ((HBA.out (.cells #[.int .i64 8, .int .i64 sa, .int .i64 sb, .int .i64 sc, .int .i8 xk, .int .i64 xa, .int .i64 xv, .int .i64 xo, .bool xg] 39)).trans (b2.mono (by simp)))
    have R2 := hide' hr2
    have Hr := hide' (F.words_any sa sb ((HB.out _).below b2) HM.out hs2.out)
    clear Hc hr2 b2 hb
    go_wp2_with fail
    refine Hr.out.mono ?_
    rintro e w3 ⟨ro3, rc3, rfl, hr3, b3⟩
    have SZ3 := hide' (Nat.le_trans SZ2.out b3.size)
    have P3 := hide' (Pr.below P2.out b3)
    have B3 := hide' (B2.out.trans (b3.mono B2.out.size))
    have R3 := hide' ((turn_below (S := fun _ => False) b3).row R2.out (fun _ _ q => q))
    have Hi := hide' (ints_eq _ ro ro3 rc rc3 w3 (ints_row R3.out rfl) (ints_row hr3 rfl) (by have := Hlen.out; have := Hfew.out; omega))
    clear Hr hr3 b3 c1 c2 P2 B2 R2
    generalize piece ws sa sb = Z at *
    generalize pe ws sa sb = E at *
    go_wp2_with fail
    refine Hi.out.mono ?_
    rintro e w4 ⟨rfl, nn, hw4⟩
    have tn : Turn (fun _ => False) w3 w4 := by rw [hw4]; exact (Turn.refl _ w3).drewN nn
    have SZ8 := hide' (Nat.le_trans SZ3.out tn.size)
    have P4 := hide' (Pr.kept P3.out tn (fun _ _ q => q))
    have B4 := hide' (B3.out.trans (tn.below (fun _ q => q.elim) B3.out.size))
    have R4 := hide' (tn.row R3.out (fun _ _ q => q))
    have Ho := hide' (ownWords_any R4.out (by have := Hlen.out; have := Hfew.out; omega) (by have := B4.out.size; exact SZ8.out))
    clear Hi hw4 tn P3 B3 R3
    go_wp2_with fail
    refine Ho.out.mono ?_
    rintro e w5 ⟨rfl, t5⟩
    have hlo : ∀ j, At ro j → w.heap.size < j := fun j hj => by have := (row_at R4.out hj).1; simp at this; omega
    have K := hide' (HK.out w5 (Pr.kept P4.out t5 (fun j hj q => by have := (HPr.out.low hj).2; have := hlo j q; omega)) (B4.out.trans (t5.below (fun j hj => Nat.le_of_lt (hlo j hj)) B4.out.size)))
    clear t5 hlo Ho P4 B4 R4
    go_wp2
    go_ret
    exact ⟨rfl, K.out⟩
  have d8 : (sd == 8) = false := by simpa using h8
  clear h8
  by_cases h9 : sd = 9
  · subst h9
    have Hc := hide' (M.bad_any (HA.out (.cells #[.int .i64 9, .int .i64 sa, .int .i64 sb, .int .i64 sc, .int .i8 xk, .int .i64 xa, .int .i64 xv, .int .i64 xo, .bool xg] 39)))
    have Hr := hide' (F.bad_any (HB.out (.cells #[.int .i64 9, .int .i64 sa, .int .i64 sb, .int .i64 sc, .int .i8 xk, .int .i64 xa, .int .i64 xv, .int .i64 xo, .bool xg] 39)))
    have K := hide' (fun o => HK.out _ (HP.out o) (HBA.out o))
    go_enter Try.func15, Try.ntmps15
    go_wp2_with fail
    refine Hc.out.mono ?_
    rintro e w2 ⟨rfl, hw2⟩
    replace hw2 := hw2.symm
    subst hw2
    go_wp2_with fail
    refine Hr.out.mono ?_
    rintro e w2 ⟨rfl, hw2⟩
    replace hw2 := hw2.symm
    subst hw2
    clear Hc Hr
    go_wp2
    go_ret
    exact ⟨rfl, K.out _⟩
  have d9 : (sd == 9) = false := by simpa using h9
  clear h9
  by_cases h10 : sd = 10
  · subst h10
    have Hc := hide' (M.trace_any (HA.out (.cells #[.int .i64 10, .int .i64 sa, .int .i64 sb, .int .i64 sc, .int .i8 xk, .int .i64 xa, .int .i64 xv, .int .i64 xo, .bool xg] 39)) (by have := HL.out; omega))
    go_enter Try.func15, Try.ntmps15
    go_wp2_with fail
    refine Hc.out.mono ?_
    rintro e w2 ⟨ro, rc, rfl, hr2, b2⟩
    have SZ2 := hide' b2.size
    have P2 := hide' (Pr.below (HP.out _) b2)
    have B2 := hide' ((HBA.out (.cells #[.int .i64 10, .int .i64 sa, .int .i64 sb, .int .i64 sc, .int .i8 xk, .int .i64 xa, .int .i64 xv, .int .i64 xo, .bool xg] 39)).trans (b2.mono (by simp)))
    have R2 := hide' hr2
    have Hr := hide' (F.trace_any ((HB.out _).below b2))
    clear Hc hr2 b2
    go_wp2_with fail
    refine Hr.out.mono ?_
    rintro e w3 ⟨ro3, rc3, rfl, hr3, hw3⟩
    replace hw3 := hw3.symm
    subst hw3
    have Hi := hide' (entries_eq tr ro ro3 rc rc3 w2 (acs_row R2.out) (acs_row hr3) (by have := HL.out; omega))
    clear Hr hr3
    go_wp2_with fail
    refine Hi.out.mono ?_
    rintro e w4 ⟨rfl, nn, hw4⟩
    have tn : Turn (fun _ => False) w2 w4 := by rw [hw4]; exact (Turn.refl _ w2).drewN nn
    have P4 := hide' (Pr.kept P2.out tn (fun _ _ q => q))
    have B4 := hide' (B2.out.trans (tn.below (fun _ q => q.elim) B2.out.size))
    have R4 := hide' (tn.row R2.out (fun _ _ q => q))
    have hszA : (w.alloc (.cells #[.int .i64 10, .int .i64 sa, .int .i64 sb, .int .i64 sc, .int .i8 xk, .int .i64 xa, .int .i64 xv, .int .i64 xo, .bool xg] 39)).heap.size ≤ w4.heap.size := Nat.le_trans SZ2.out tn.size
    have Ho := hide' (ownTrace_any R4.out (by have := HL.out; omega) hszA)
    clear Hi hw4 tn P2 B2 R2 hszA
    go_wp2_with fail
    refine Ho.out.mono ?_
    rintro e w5 ⟨rfl, t5⟩
    have hlo : ∀ j, At ro j → w.heap.size < j := fun j hj => by have := (row_at R4.out hj).1; simp at this; omega
    have K := hide' (HK.out w5 (Pr.kept P4.out t5 (fun j hj q => by have := (HPr.out.low hj).2; have := hlo j q; omega)) (B4.out.trans (t5.below (fun j hj => Nat.le_of_lt (hlo j hj)) B4.out.size)))
    clear t5 hlo Ho P4 B4 R4
    go_wp2
    go_ret
    exact ⟨rfl, K.out⟩
  have d10 : (sd == 10) = false := by simpa using h10
  clear h10
  by_cases h11 : sd = 11
  · subst h11
    have Hc := hide' (M.len_any (HA.out (.cells #[.int .i64 11, .int .i64 sa, .int .i64 sb, .int .i64 sc, .int .i8 xk, .int .i64 xa, .int .i64 xv, .int .i64 xo, .bool xg] 39)))
    have Hr := hide' (F.len_any (HB.out (.cells #[.int .i64 11, .int .i64 sa, .int .i64 sb, .int .i64 sc, .int .i8 xk, .int .i64 xa, .int .i64 xv, .int .i64 xo, .bool xg] 39)))
    have K := hide' (fun o => HK.out _ (HP.out o) (HBA.out o))
    go_enter Try.func15, Try.ntmps15
    go_wp2_with fail
    refine Hc.out.mono ?_
    rintro e w2 ⟨rfl, hw2⟩
    replace hw2 := hw2.symm
    subst hw2
    go_wp2_with fail
    refine Hr.out.mono ?_
    rintro e w2 ⟨rfl, hw2⟩
    replace hw2 := hw2.symm
    subst hw2
    clear Hc Hr
    go_wp2
    go_ret
    exact ⟨rfl, K.out _⟩
  have d11 : (sd == 11) = false := by simpa using h11
  clear h11
  have K := hide' (fun o => HK.out _ (HP.out o) (HBA.out o))
  go_enter Try.func15, Try.ntmps15
  go_wp2
  go_ret
  exact ⟨rfl, K.out _⟩
end F
end Go.Proofs.Ytoejcpfodbegeaa
