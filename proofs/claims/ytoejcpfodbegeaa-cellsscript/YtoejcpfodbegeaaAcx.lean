import Derived.Test.YtoejcpfodbegeaaPrs
set_option linter.unusedVariables false
set_option linter.unusedSimpArgs false
namespace Go.Proofs.Ytoejcpfodbegeaa
open Go.RowKit
namespace F
open M
variable {U D R : Nat → Prop} {B x y n m : Nat} {ws ws' : List Int} {tr tr' : List Ac} {bad bad' : Nat} {w w' w1 w2 : World}
set_option maxRecDepth 100000 in
set_option maxHeartbeats 4000000 in
theorem access_two (s : St) (h : Pr U B x y ws m tr bad w) (hl : tr.length < 1999999999999) (hm : m < 1999999999999) :
    Calls Try.prog 36 #[.pointer (some ⟨x, 0, none⟩), .pointer (some ⟨y, 0, none⟩), .agg s.arr] w fun e w' => e = .returned (.bool true) ∧ PSome U B x y ws.length (tr.length + 1) (m + 1) w w' := by
  obtain ⟨sd, sa, sb, sc, ⟨xk, xa, xv, xo, xg⟩⟩ := s
  unfold St.arr
  simp only
  have HPr := hide' h
  obtain ⟨D, R, hM, hR, hdis, hU⟩ := h
  have HA := hide' (fun o => hM.alloc o)
  have HB := hide' (fun o => hR.alloc o)
  have Hdis := hide' hdis
  have HU := hide' hU
  have HL := hide' hl
  have HM := hide' hm
  have hDs : Hid (¬ D w.heap.size) := fun q => Nat.lt_irrefl _ (hM.lo q).2
  have hRs : Hid (¬ R w.heap.size) := fun q => Nat.lt_irrefl _ (hR.low q).2
  have Hbox := hide' (fun o => heap_alloc_new w o)
  clear hM hR hdis hU hl hm
  by_cases h1 : sd = 1
  · subst h1
    have Hc := hide' (M.load_any sa (HA.out (.cells #[.int .i64 1, .int .i64 sa, .int .i64 sb, .int .i64 sc, .int .i8 xk, .int .i64 xa, .int .i64 xv, .int .i64 xo, .bool xg] 39)) HL.out)
    go_enter Try.func36, Try.ntmps36
    go_wp2_with fail
    refine Hc.out.mono ?_
    rintro e w2 ⟨rfl, t2⟩
    have hb := beside t2 (Hbox.out _) hDs.out
    have c1 : w2.cell? ⟨w.heap.size, 1, none⟩ = some (.int .i64 sa) := by rw [Lib.cell_of_heap hb]; rfl
    have Hr := hide' (F.load_any sa (rem_behind (HB.out _) Hdis.out t2) HL.out HM.out)
    have T2 := hide' t2
    clear Hc t2 hb
    go_wp2_with fail
    refine Hr.out.mono ?_
    rintro e w3 ⟨rfl, t3⟩
    have K : Hid (PSome U B x y ws.length (tr.length + 1) (m + 1) w w3) := ⟨_, _, _, rfl, (by simp), (pair_to (HA.out _) (HB.out _) Hdis.out HU.out T2.out t3).alloc⟩
    clear Hr t3 T2
    go_wp2
    go_ret
    exact ⟨rfl, K.out⟩
  have d1 : (sd == 1) = false := by simpa using h1
  by_cases h2 : sd = 2
  · subst h2
    clear h1
    have Hc := hide' (M.store_any sa sb (Mem.drew' (HA.out (.cells #[.int .i64 2, .int .i64 sa, .int .i64 sb, .int .i64 sc, .int .i8 xk, .int .i64 xa, .int .i64 xv, .int .i64 xo, .bool xg] 39))) HL.out)
    go_enter Try.func36, Try.ntmps36
    go_wp2_with fail
    go_region_held3 (fun w' => w'.cell? ⟨w.heap.size, 1, none⟩ = some (.int .i64 sa) ∧ w'.cell? ⟨w.heap.size, 2, none⟩ = some (.int .i64 sb)) (first | go_keep | exact ⟨l1, l2⟩ | exact ⟨k1, k2⟩) ((first | (go_at_call 12; refine Hc.out.mono ?_; rintro e w2 ⟨rfl, t2⟩; have hb := beside t2 (Hbox.out _) hDs.out; have k1 : w2.cell? ⟨w.heap.size, 1, none⟩ = some (.int .i64 sa) := (by rw [Lib.cell_of_heap hb]; rfl); have k2 : w2.cell? ⟨w.heap.size, 2, none⟩ = some (.int .i64 sb) := (by rw [Lib.cell_of_heap hb]; rfl); have Hr := hide' (F.store_any sa sb (rem_behind (HB.out _).drew Hdis.out t2) HL.out HM.out); have T2 := hide' t2; have HB2 := hide' hb; clear t2 hb) | (go_at_call 48; refine Hr.out.mono ?_; rintro e w3 ⟨rfl, t3⟩; have hb3 := rbeside t3 HB2.out hRs.out; have l1 : w3.cell? ⟨w.heap.size, 1, none⟩ = some (.int .i64 sa) := (by rw [Lib.cell_of_heap hb3]; rfl); have l2 : w3.cell? ⟨w.heap.size, 2, none⟩ = some (.int .i64 sb) := (by rw [Lib.cell_of_heap hb3]; rfl); have T3 := hide' t3; clear t3 hb3)))
    have K : Hid (PSome U B x y ws.length (tr.length + 1) (m + 1) w w3) := ⟨_, _, _, put_len _ _ _, (by simp), ((pair_to (Mem.drew' (HA.out _)) (HB.out _).drew Hdis.out HU.out T2.out T3.out).drew).alloc⟩
    rename_i hHeld
    clear hHeld Hr T3 T2 HB2 k1 k2 l1 l2 Hc
    go_wp2
    go_ret
    exact ⟨rfl, K.out⟩
  have d2 : (sd == 2) = false := by simpa using h2
  by_cases h3 : sd = 3
  · subst h3
    clear h1 h2
    have Hc := hide' (M.swap_any sa sb sc (HA.out (.cells #[.int .i64 3, .int .i64 sa, .int .i64 sb, .int .i64 sc, .int .i8 xk, .int .i64 xa, .int .i64 xv, .int .i64 xo, .bool xg] 39)) HL.out)
    go_enter Try.func36, Try.ntmps36
    go_wp2_with fail
    refine Hc.out.mono ?_
    rintro e w2 ⟨rfl, t2⟩
    have hb := beside t2 (Hbox.out _) hDs.out
    have c1 : w2.cell? ⟨w.heap.size, 1, none⟩ = some (.int .i64 sa) := by rw [Lib.cell_of_heap hb]; rfl
    have c2 : w2.cell? ⟨w.heap.size, 2, none⟩ = some (.int .i64 sb) := by rw [Lib.cell_of_heap hb]; rfl
    have c3 : w2.cell? ⟨w.heap.size, 3, none⟩ = some (.int .i64 sc) := by rw [Lib.cell_of_heap hb]; rfl
    have Hr := hide' (F.swap_any sa sb sc (rem_behind (HB.out _) Hdis.out t2) HL.out HM.out)
    have T2 := hide' t2
    clear Hc t2 hb
    go_wp2_with fail
    refine Hr.out.mono ?_
    rintro e w3 ⟨rfl, t3⟩
    have K : Hid (PSome U B x y ws.length (tr.length + 1) (m + 1) w w3) := ⟨_, _, _, swp_len _ _ _ _, (by simp), (pair_to (HA.out _) (HB.out _) Hdis.out HU.out T2.out t3).alloc⟩
    clear Hr t3 T2
    go_wp2
    go_ret
    exact ⟨rfl, K.out⟩
  have d3 : (sd == 3) = false := by simpa using h3
  clear h1 h2 h3
  have Hc := hide' (M.add_any sa sb (HA.out (.cells #[.int .i64 sd, .int .i64 sa, .int .i64 sb, .int .i64 sc, .int .i8 xk, .int .i64 xa, .int .i64 xv, .int .i64 xo, .bool xg] 39)) HL.out)
  go_enter Try.func36, Try.ntmps36
  go_wp2_with fail
  refine Hc.out.mono ?_
  rintro e w2 ⟨rfl, t2⟩
  have hb := beside t2 (Hbox.out _) hDs.out
  have c1 : w2.cell? ⟨w.heap.size, 1, none⟩ = some (.int .i64 sa) := by rw [Lib.cell_of_heap hb]; rfl
  have c2 : w2.cell? ⟨w.heap.size, 2, none⟩ = some (.int .i64 sb) := by rw [Lib.cell_of_heap hb]; rfl
  have Hr := hide' (F.add_any sa sb (rem_behind (HB.out _) Hdis.out t2) HL.out HM.out)
  have T2 := hide' t2
  clear Hc t2 hb
  go_wp2_with fail
  refine Hr.out.mono ?_
  rintro e w3 ⟨rfl, t3⟩
  have K : Hid (PSome U B x y ws.length (tr.length + 1) (m + 1) w w3) := ⟨_, _, _, put_len _ _ _, (by simp), (pair_to (HA.out _) (HB.out _) Hdis.out HU.out T2.out t3).alloc⟩
  clear Hr t3 T2
  go_wp2
  go_ret
  exact ⟨rfl, K.out⟩
end F
end Go.Proofs.Ytoejcpfodbegeaa
