import Derived.Test.YtfgblchnnhdlnaaGreatDoorGrO
set_option linter.unusedVariables false
set_option linter.unusedSimpArgs false
namespace Go.Proofs.YtfgblchnnhdlnaaGreatDoor
open Go.RowKit
variable {B b : Nat} {ts : List R.Tok} {v v' v'' : Value} {ln cl q : Int} {w w' w'' : World}
set_option maxRecDepth 100000 in
set_option maxHeartbeats 16000000 in
theorem laid1 {sh : Sh} (h : Ld B b ts v ln cl q w) (hin : sh.In B w) (hsm : sh.Small) (few : ts.length + 2 * sh.names.length + 10 ≤ R.lim) (hP : pik (wrap64 (sh.kind - 1)) 12 = 0) :
    Calls Tryz.prog 22 #[.pointer (some ⟨b, 0, none⟩), .agg sh.cells.toArray] w fun e w' => LaidIs B b ts v sh.names.length w e w' := by
  obtain ⟨kind, head, on, na, names, nc, all, cond, num, quo, line, col⟩ := sh
  unfold Sh.Small at hsm
  unfold Sh.cells
  simp only at hP hsm few ⊢
  have c3 := h.c3
  have lt := h.lt
  have f3 := h.f 3
  have HP := hide' (fun w => pick_any (wrap64 (kind - 1)) 12 w ⟨by decide, by decide⟩)
  rw [hP] at HP
  have cal : ∀ o o', ((w.alloc o).alloc o').cell? ⟨b, 3, none⟩ = some (.int .i64 q) := fun o o' => (World.cell?_of_block (w := w) ((Below.heap_alloc _ _ _ (by simp; omega)).trans (Below.heap_alloc _ _ _ lt))).trans c3
  have fal : ∀ o o', ((w.alloc o).alloc o').frozen? ⟨b, 3, none⟩ = false := fun o o' => (World.frozen?_of_block (w := w) ((Below.heap_alloc _ _ _ (by simp; omega)).trans (Below.heap_alloc _ _ _ lt))).trans f3
  have H := hide' (And.intro h (And.intro hin (And.intro hsm few)))
  clear h hin hsm few hP c3 f3
  go_enter Tryz.func22, Tryz.ntmps22
  go_wp2_with fail
  refine (HP.out _).mono ?_
  rintro e w1 ⟨rfl, hw1⟩
  replace hw1 := hw1.symm
  subst hw1
  clear HP
  go_wp2_with fail
  have E0 := L0.start H.out.1 ⟨kind, head, on, na, names, nc, all, cond, num, quo, line, col⟩
  unfold Sh.cells dz kws at E0
  simp only at E0
  generalize ((((w.setCell ⟨b, 3, none⟩ (.int .i64 quo)).alloc (.cells #[.int .i64 kind, .string head, .string on, .slice na names.length nc, .bool all, .int .i64 cond, .string num, .int .i64 quo, .int .i64 line, .int .i64 col] 53)).alloc (.cells #[.int .i8 0, .int .i64 0, .int .i64 0, .string ⟨#[]⟩, .int .i64 0, .int .i64 0, .string ⟨#[]⟩, .int .i64 0, .int .i64 0, .slice none 0 0, .bool false, .int .i8 0, .float .f64 0] 59)).alloc (.cells #[.string ⟨#[97, 99, 116, 105, 111, 110]⟩, .string ⟨#[115, 117, 98, 106, 101, 99, 116]⟩, .string ⟨#[114, 111, 108, 101]⟩, .string ⟨#[111, 98, 106, 101, 99, 116]⟩, .string ⟨#[103, 114, 111, 117, 112]⟩, .string ⟨#[109, 101, 109, 98, 101, 114]⟩, .string ⟨#[105, 110, 104, 101, 114, 105, 116]⟩, .string ⟨#[112, 97, 114, 116]⟩, .string ⟨#[119, 105, 116, 104, 105, 110]⟩, .string ⟨#[97, 108, 108, 111, 119]⟩, .string ⟨#[100, 101, 110, 121]⟩, .string ⟨#[101, 120, 99, 101, 112, 116]⟩] 9)) = X at *
  have e1 := E0.ld.c1
  have e2 := E0.ld.c2
  have new1 := World.new_ne X ⟨b, 1, none⟩ e1
  have KX := hide' E0
  clear E0 cal fal
  have hst : (store ⟨X.heap.size, 12, none⟩ (.float .f64 0)).run Tryz.prog (X.alloc (.cells #[.int .i8 1, .int .i64 ln, .int .i64 cl, .string ⟨#[]⟩, .int .i64 0, .int .i64 0, .string ⟨#[]⟩, .int .i64 0, .int .i64 0, .slice none 0 0, .bool false, .int .i8 0, .float .f64 0] 59)).drew = .ok () ((X.alloc (.cells #[.int .i8 1, .int .i64 ln, .int .i64 cl, .string ⟨#[]⟩, .int .i64 0, .int .i64 0, .string ⟨#[]⟩, .int .i64 0, .int .i64 0, .slice none 0 0, .bool false, .int .i8 0, .float .f64 0] 59)).drew.setCell ⟨X.heap.size, 12, none⟩ (.float .f64 0)) := store_one (u := .float .f64 0) (by rw [Lib.cell_of_heap (w := (X.alloc (.cells #[.int .i8 1, .int .i64 ln, .int .i64 cl, .string ⟨#[]⟩, .int .i64 0, .int .i64 0, .string ⟨#[]⟩, .int .i64 0, .int .i64 0, .slice none 0 0, .bool false, .int .i8 0, .float .f64 0] 59)).drew) (heap_alloc_new X _)]; rfl) (Lib.frozen_of_heap (w := (X.alloc (.cells #[.int .i8 1, .int .i64 ln, .int .i64 cl, .string ⟨#[]⟩, .int .i64 0, .int .i64 0, .string ⟨#[]⟩, .int .i64 0, .int .i64 0, .slice none 0 0, .bool false, .int .i8 0, .float .f64 0] 59)).drew) (heap_alloc_new X _) 12) (by simp [Value.oneCell'])
  go_region_held3 (fun w' => w'.cell? ⟨b, 1, none⟩ = some (.int .i64 ln) ∧ w'.cell? ⟨b, 2, none⟩ = some (.int .i64 cl)) (first | go_keep) (fail)
  rename_i hHeld
  clear hHeld e1 e2 new1 hst
  have E1 := KX.out.go H.out.1 [.int .i8 1, .int .i64 ln, .int .i64 cl, .string ⟨#[]⟩, .int .i64 0, .int .i64 0, .string ⟨#[]⟩, .int .i64 0, .int .i64 0, .slice none 0 0, .bool false, .int .i8 0, .float .f64 0]
  generalize (X.alloc (.cells #[.int .i8 1, .int .i64 ln, .int .i64 cl, .string ⟨#[]⟩, .int .i64 0, .int .i64 0, .string ⟨#[]⟩, .int .i64 0, .int .i64 0, .slice none 0 0, .bool false, .int .i8 0, .float .f64 0] 59)).drew = W0 at *
  generalize X.heap.size = g at *
  have K0 := hide' E1
  clear E1 KX
  have y0 := K0.out.k 0 _ rfl
  go_wp2_with fail
  obtain ⟨m0, hm0⟩ : ∃ x, ln = x := ⟨_, rfl⟩
  obtain ⟨n0, hn0⟩ : ∃ x, cl = x := ⟨_, rfl⟩
  subst hm0 hn0
  refine (put_any 1 ⟨#[97, 99, 116, 105, 111, 110]⟩ K0.out.ld (by have h0 := H.out.2.2.2; (try simp only [List.length_append, List.length_cons, List.length_nil]); omega)).mono ?_
  rintro e W1 ⟨rfl, v1, m1, n1, L, S⟩
  clear y0
  have K1 := hide' (K0.out.call L S)
  clear L S K0
  have b3 := K1.out.c 3 _ rfl
  go_wp2_with fail
  refine (llist_any names na nc K1.out.ld (H.out.2.1.2.old K1.out.old) H.out.2.1.1 (by have h0 := H.out.2.2.2; (try simp only [List.length_append, List.length_cons, List.length_nil]); omega)).mono ?_
  rintro e W2 ⟨N, ws, vv, v2, m2, n2, q2, rfl, row, hN, hNl, htx, L, S⟩
  clear b3
  obtain ⟨sa, sc, rfl⟩ := row_form row
  have K2 := hide' (K1.out.names L S row)
  have HN := hide' (And.intro hN (And.intro hNl htx))
  clear L S row hN hNl htx K1
  have y9 := K2.out.d 9 _ rfl
  have f9 := K2.out.f 9
  have b6 := (K2.out.set 9 (.slice sa ws.length sc)).c 6 _ rfl
  go_wp2_with fail
  refine (figure_any num _).mono ?_
  rintro e w1 ⟨x, lv, rfl, hv, hxs, hw1⟩
  replace hw1 := hw1.symm
  subst hw1
  have HV := hide' (And.intro hv hxs)
  clear hv hxs
  go_wp2_with fail
  refine (put_any 4 ⟨#[59]⟩ (K2.out.set 9 (.slice sa ws.length sc)).ld (by have h0 := H.out.2.2.2; have h1 := HN.out.2.1; (try simp only [List.length_append, List.length_cons, List.length_nil]); omega)).mono ?_
  rintro e W3 ⟨rfl, v3, m3, n3, L, S⟩
  clear y9 f9 b6
  have K3 := hide' ((K2.out.set 9 (.slice sa ws.length sc)).call L S)
  clear L S
  go_wp2_with (first | (refine wpList_load_row rfl 59 _ rfl g rfl 59 _ _ _ K3.out.cur Tryz.underlying59 rfl (by kernel_rfl) ?_) | (refine wpList_store_row rfl 59 _ _ rfl (w.heap.size + 1) _ rfl rfl 59 _ K3.out.res (by kernel_rfl) rfl (by simp [Value.oneCell']) ?_))
  obtain ⟨k1, r1, t1, o1⟩ := K3.out.fin
  refine bodyPost_ret_by (results_cell_row rfl _ _ (w.heap.size + 1) 59 _ _ _ rfl k1 Tryz.underlying59 rfl (by kernel_rfl)) rfl ?_
  unfold LaidIs
  have hsz := H.out.2.2.1
  simp only [List.append_assoc, List.cons_append, List.nil_append] at r1
  refine ⟨(1, ⟨#[97, 99, 116, 105, 111, 110]⟩, ln, cl) :: (N ++ [(4, ⟨#[59]⟩, m2, n2)]), ⟨1, ln, cl, R.noWd, R.noWd, ws, false, 0, 0⟩, (.slice sa ws.length sc), _, _, _, _, rfl, o1, R.Lay.reads_plain (kw := (1, ⟨#[97, 99, 116, 105, 111, 110]⟩, ln, cl)) (s := (4, ⟨#[59]⟩, m2, n2)) rfl (k := 1) (by kernel_rfl) (by omega) HN.out.1 (R.Lay.is_of 4 _ _ _ _ rfl), ?_, ?_, ?_, r1, t1⟩
  · intro y hy
    simp only [List.mem_append, List.mem_cons, List.not_mem_nil, or_false] at hy
    rcases hy with hy | hy | hy
    · subst hy; simp
    · exact nms_five HN.out.1 y hy
    · subst hy; simp
  · simp only [List.length_append, List.length_cons, List.length_nil]
    have := HN.out.2.1; omega
  · intro y hy
    simp only [List.mem_append, List.mem_cons, List.not_mem_nil, or_false] at hy
    rcases hy with hy | hy | hy
    · subst hy; exact of_decide_eq_true rfl
    · rcases HN.out.2.2 y hy with q | q; exact hsz.2.2.2.2 _ q; omega
    · subst hy; exact of_decide_eq_true rfl
set_option maxRecDepth 100000 in
set_option maxHeartbeats 16000000 in
theorem laid3 {sh : Sh} (h : Ld B b ts v ln cl q w) (hin : sh.In B w) (hsm : sh.Small) (few : ts.length + 2 * sh.names.length + 10 ≤ R.lim) (hP : pik (wrap64 (sh.kind - 1)) 12 = 2) :
    Calls Tryz.prog 22 #[.pointer (some ⟨b, 0, none⟩), .agg sh.cells.toArray] w fun e w' => LaidIs B b ts v sh.names.length w e w' := by
  obtain ⟨kind, head, on, na, names, nc, all, cond, num, quo, line, col⟩ := sh
  unfold Sh.Small at hsm
  unfold Sh.cells
  simp only at hP hsm few ⊢
  have c3 := h.c3
  have lt := h.lt
  have f3 := h.f 3
  have HP := hide' (fun w => pick_any (wrap64 (kind - 1)) 12 w ⟨by decide, by decide⟩)
  rw [hP] at HP
  have cal : ∀ o o', ((w.alloc o).alloc o').cell? ⟨b, 3, none⟩ = some (.int .i64 q) := fun o o' => (World.cell?_of_block (w := w) ((Below.heap_alloc _ _ _ (by simp; omega)).trans (Below.heap_alloc _ _ _ lt))).trans c3
  have fal : ∀ o o', ((w.alloc o).alloc o').frozen? ⟨b, 3, none⟩ = false := fun o o' => (World.frozen?_of_block (w := w) ((Below.heap_alloc _ _ _ (by simp; omega)).trans (Below.heap_alloc _ _ _ lt))).trans f3
  have H := hide' (And.intro h (And.intro hin (And.intro hsm few)))
  clear h hin hsm few hP c3 f3
  go_enter Tryz.func22, Tryz.ntmps22
  go_wp2_with fail
  refine (HP.out _).mono ?_
  rintro e w1 ⟨rfl, hw1⟩
  replace hw1 := hw1.symm
  subst hw1
  clear HP
  go_wp2_with fail
  have E0 := L0.start H.out.1 ⟨kind, head, on, na, names, nc, all, cond, num, quo, line, col⟩
  unfold Sh.cells dz kws at E0
  simp only at E0
  generalize ((((w.setCell ⟨b, 3, none⟩ (.int .i64 quo)).alloc (.cells #[.int .i64 kind, .string head, .string on, .slice na names.length nc, .bool all, .int .i64 cond, .string num, .int .i64 quo, .int .i64 line, .int .i64 col] 53)).alloc (.cells #[.int .i8 0, .int .i64 0, .int .i64 0, .string ⟨#[]⟩, .int .i64 0, .int .i64 0, .string ⟨#[]⟩, .int .i64 0, .int .i64 0, .slice none 0 0, .bool false, .int .i8 0, .float .f64 0] 59)).alloc (.cells #[.string ⟨#[97, 99, 116, 105, 111, 110]⟩, .string ⟨#[115, 117, 98, 106, 101, 99, 116]⟩, .string ⟨#[114, 111, 108, 101]⟩, .string ⟨#[111, 98, 106, 101, 99, 116]⟩, .string ⟨#[103, 114, 111, 117, 112]⟩, .string ⟨#[109, 101, 109, 98, 101, 114]⟩, .string ⟨#[105, 110, 104, 101, 114, 105, 116]⟩, .string ⟨#[112, 97, 114, 116]⟩, .string ⟨#[119, 105, 116, 104, 105, 110]⟩, .string ⟨#[97, 108, 108, 111, 119]⟩, .string ⟨#[100, 101, 110, 121]⟩, .string ⟨#[101, 120, 99, 101, 112, 116]⟩] 9)) = X at *
  have e1 := E0.ld.c1
  have e2 := E0.ld.c2
  have new1 := World.new_ne X ⟨b, 1, none⟩ e1
  have KX := hide' E0
  clear E0 cal fal
  have hst : (store ⟨X.heap.size, 12, none⟩ (.float .f64 0)).run Tryz.prog (X.alloc (.cells #[.int .i8 3, .int .i64 ln, .int .i64 cl, .string ⟨#[]⟩, .int .i64 0, .int .i64 0, .string ⟨#[]⟩, .int .i64 0, .int .i64 0, .slice none 0 0, .bool false, .int .i8 0, .float .f64 0] 59)).drew = .ok () ((X.alloc (.cells #[.int .i8 3, .int .i64 ln, .int .i64 cl, .string ⟨#[]⟩, .int .i64 0, .int .i64 0, .string ⟨#[]⟩, .int .i64 0, .int .i64 0, .slice none 0 0, .bool false, .int .i8 0, .float .f64 0] 59)).drew.setCell ⟨X.heap.size, 12, none⟩ (.float .f64 0)) := store_one (u := .float .f64 0) (by rw [Lib.cell_of_heap (w := (X.alloc (.cells #[.int .i8 3, .int .i64 ln, .int .i64 cl, .string ⟨#[]⟩, .int .i64 0, .int .i64 0, .string ⟨#[]⟩, .int .i64 0, .int .i64 0, .slice none 0 0, .bool false, .int .i8 0, .float .f64 0] 59)).drew) (heap_alloc_new X _)]; rfl) (Lib.frozen_of_heap (w := (X.alloc (.cells #[.int .i8 3, .int .i64 ln, .int .i64 cl, .string ⟨#[]⟩, .int .i64 0, .int .i64 0, .string ⟨#[]⟩, .int .i64 0, .int .i64 0, .slice none 0 0, .bool false, .int .i8 0, .float .f64 0] 59)).drew) (heap_alloc_new X _) 12) (by simp [Value.oneCell'])
  go_region_held3 (fun w' => w'.cell? ⟨b, 1, none⟩ = some (.int .i64 ln) ∧ w'.cell? ⟨b, 2, none⟩ = some (.int .i64 cl)) (first | go_keep) (fail)
  rename_i hHeld
  clear hHeld e1 e2 new1 hst
  have E1 := KX.out.go H.out.1 [.int .i8 3, .int .i64 ln, .int .i64 cl, .string ⟨#[]⟩, .int .i64 0, .int .i64 0, .string ⟨#[]⟩, .int .i64 0, .int .i64 0, .slice none 0 0, .bool false, .int .i8 0, .float .f64 0]
  generalize (X.alloc (.cells #[.int .i8 3, .int .i64 ln, .int .i64 cl, .string ⟨#[]⟩, .int .i64 0, .int .i64 0, .string ⟨#[]⟩, .int .i64 0, .int .i64 0, .slice none 0 0, .bool false, .int .i8 0, .float .f64 0] 59)).drew = W0 at *
  generalize X.heap.size = g at *
  have K0 := hide' E1
  clear E1 KX
  have y0 := K0.out.k 2 _ rfl
  go_wp2_with fail
  obtain ⟨m0, hm0⟩ : ∃ x, ln = x := ⟨_, rfl⟩
  obtain ⟨n0, hn0⟩ : ∃ x, cl = x := ⟨_, rfl⟩
  subst hm0 hn0
  refine (put_any 1 ⟨#[114, 111, 108, 101]⟩ K0.out.ld (by have h0 := H.out.2.2.2; (try simp only [List.length_append, List.length_cons, List.length_nil]); omega)).mono ?_
  rintro e W1 ⟨rfl, v1, m1, n1, L, S⟩
  clear y0
  have K1 := hide' (K0.out.call L S)
  clear L S K0
  have b3 := K1.out.c 3 _ rfl
  go_wp2_with fail
  refine (llist_any names na nc K1.out.ld (H.out.2.1.2.old K1.out.old) H.out.2.1.1 (by have h0 := H.out.2.2.2; (try simp only [List.length_append, List.length_cons, List.length_nil]); omega)).mono ?_
  rintro e W2 ⟨N, ws, vv, v2, m2, n2, q2, rfl, row, hN, hNl, htx, L, S⟩
  clear b3
  obtain ⟨sa, sc, rfl⟩ := row_form row
  have K2 := hide' (K1.out.names L S row)
  have HN := hide' (And.intro hN (And.intro hNl htx))
  clear L S row hN hNl htx K1
  have y9 := K2.out.d 9 _ rfl
  have f9 := K2.out.f 9
  have b6 := (K2.out.set 9 (.slice sa ws.length sc)).c 6 _ rfl
  go_wp2_with fail
  refine (figure_any num _).mono ?_
  rintro e w1 ⟨x, lv, rfl, hv, hxs, hw1⟩
  replace hw1 := hw1.symm
  subst hw1
  have HV := hide' (And.intro hv hxs)
  clear hv hxs
  go_wp2_with fail
  refine (put_any 4 ⟨#[59]⟩ (K2.out.set 9 (.slice sa ws.length sc)).ld (by have h0 := H.out.2.2.2; have h1 := HN.out.2.1; (try simp only [List.length_append, List.length_cons, List.length_nil]); omega)).mono ?_
  rintro e W3 ⟨rfl, v3, m3, n3, L, S⟩
  clear y9 f9 b6
  have K3 := hide' ((K2.out.set 9 (.slice sa ws.length sc)).call L S)
  clear L S
  go_wp2_with (first | (refine wpList_load_row rfl 59 _ rfl g rfl 59 _ _ _ K3.out.cur Tryz.underlying59 rfl (by kernel_rfl) ?_) | (refine wpList_store_row rfl 59 _ _ rfl (w.heap.size + 1) _ rfl rfl 59 _ K3.out.res (by kernel_rfl) rfl (by simp [Value.oneCell']) ?_))
  obtain ⟨k1, r1, t1, o1⟩ := K3.out.fin
  refine bodyPost_ret_by (results_cell_row rfl _ _ (w.heap.size + 1) 59 _ _ _ rfl k1 Tryz.underlying59 rfl (by kernel_rfl)) rfl ?_
  unfold LaidIs
  have hsz := H.out.2.2.1
  simp only [List.append_assoc, List.cons_append, List.nil_append] at r1
  refine ⟨(1, ⟨#[114, 111, 108, 101]⟩, ln, cl) :: (N ++ [(4, ⟨#[59]⟩, m2, n2)]), ⟨3, ln, cl, R.noWd, R.noWd, ws, false, 0, 0⟩, (.slice sa ws.length sc), _, _, _, _, rfl, o1, R.Lay.reads_plain (kw := (1, ⟨#[114, 111, 108, 101]⟩, ln, cl)) (s := (4, ⟨#[59]⟩, m2, n2)) rfl (k := 3) (by kernel_rfl) (by omega) HN.out.1 (R.Lay.is_of 4 _ _ _ _ rfl), ?_, ?_, ?_, r1, t1⟩
  · intro y hy
    simp only [List.mem_append, List.mem_cons, List.not_mem_nil, or_false] at hy
    rcases hy with hy | hy | hy
    · subst hy; simp
    · exact nms_five HN.out.1 y hy
    · subst hy; simp
  · simp only [List.length_append, List.length_cons, List.length_nil]
    have := HN.out.2.1; omega
  · intro y hy
    simp only [List.mem_append, List.mem_cons, List.not_mem_nil, or_false] at hy
    rcases hy with hy | hy | hy
    · subst hy; exact of_decide_eq_true rfl
    · rcases HN.out.2.2 y hy with q | q; exact hsz.2.2.2.2 _ q; omega
    · subst hy; exact of_decide_eq_true rfl
set_option maxRecDepth 100000 in
set_option maxHeartbeats 16000000 in
theorem laid4 {sh : Sh} (h : Ld B b ts v ln cl q w) (hin : sh.In B w) (hsm : sh.Small) (few : ts.length + 2 * sh.names.length + 10 ≤ R.lim) (hP : pik (wrap64 (sh.kind - 1)) 12 = 3) :
    Calls Tryz.prog 22 #[.pointer (some ⟨b, 0, none⟩), .agg sh.cells.toArray] w fun e w' => LaidIs B b ts v sh.names.length w e w' := by
  obtain ⟨kind, head, on, na, names, nc, all, cond, num, quo, line, col⟩ := sh
  unfold Sh.Small at hsm
  unfold Sh.cells
  simp only at hP hsm few ⊢
  have c3 := h.c3
  have lt := h.lt
  have f3 := h.f 3
  have HP := hide' (fun w => pick_any (wrap64 (kind - 1)) 12 w ⟨by decide, by decide⟩)
  rw [hP] at HP
  have cal : ∀ o o', ((w.alloc o).alloc o').cell? ⟨b, 3, none⟩ = some (.int .i64 q) := fun o o' => (World.cell?_of_block (w := w) ((Below.heap_alloc _ _ _ (by simp; omega)).trans (Below.heap_alloc _ _ _ lt))).trans c3
  have fal : ∀ o o', ((w.alloc o).alloc o').frozen? ⟨b, 3, none⟩ = false := fun o o' => (World.frozen?_of_block (w := w) ((Below.heap_alloc _ _ _ (by simp; omega)).trans (Below.heap_alloc _ _ _ lt))).trans f3
  have H := hide' (And.intro h (And.intro hin (And.intro hsm few)))
  clear h hin hsm few hP c3 f3
  go_enter Tryz.func22, Tryz.ntmps22
  go_wp2_with fail
  refine (HP.out _).mono ?_
  rintro e w1 ⟨rfl, hw1⟩
  replace hw1 := hw1.symm
  subst hw1
  clear HP
  go_wp2_with fail
  have E0 := L0.start H.out.1 ⟨kind, head, on, na, names, nc, all, cond, num, quo, line, col⟩
  unfold Sh.cells dz kws at E0
  simp only at E0
  generalize ((((w.setCell ⟨b, 3, none⟩ (.int .i64 quo)).alloc (.cells #[.int .i64 kind, .string head, .string on, .slice na names.length nc, .bool all, .int .i64 cond, .string num, .int .i64 quo, .int .i64 line, .int .i64 col] 53)).alloc (.cells #[.int .i8 0, .int .i64 0, .int .i64 0, .string ⟨#[]⟩, .int .i64 0, .int .i64 0, .string ⟨#[]⟩, .int .i64 0, .int .i64 0, .slice none 0 0, .bool false, .int .i8 0, .float .f64 0] 59)).alloc (.cells #[.string ⟨#[97, 99, 116, 105, 111, 110]⟩, .string ⟨#[115, 117, 98, 106, 101, 99, 116]⟩, .string ⟨#[114, 111, 108, 101]⟩, .string ⟨#[111, 98, 106, 101, 99, 116]⟩, .string ⟨#[103, 114, 111, 117, 112]⟩, .string ⟨#[109, 101, 109, 98, 101, 114]⟩, .string ⟨#[105, 110, 104, 101, 114, 105, 116]⟩, .string ⟨#[112, 97, 114, 116]⟩, .string ⟨#[119, 105, 116, 104, 105, 110]⟩, .string ⟨#[97, 108, 108, 111, 119]⟩, .string ⟨#[100, 101, 110, 121]⟩, .string ⟨#[101, 120, 99, 101, 112, 116]⟩] 9)) = X at *
  have e1 := E0.ld.c1
  have e2 := E0.ld.c2
  have new1 := World.new_ne X ⟨b, 1, none⟩ e1
  have KX := hide' E0
  clear E0 cal fal
  have hst : (store ⟨X.heap.size, 12, none⟩ (.float .f64 0)).run Tryz.prog (X.alloc (.cells #[.int .i8 4, .int .i64 ln, .int .i64 cl, .string ⟨#[]⟩, .int .i64 0, .int .i64 0, .string ⟨#[]⟩, .int .i64 0, .int .i64 0, .slice none 0 0, .bool false, .int .i8 0, .float .f64 0] 59)).drew = .ok () ((X.alloc (.cells #[.int .i8 4, .int .i64 ln, .int .i64 cl, .string ⟨#[]⟩, .int .i64 0, .int .i64 0, .string ⟨#[]⟩, .int .i64 0, .int .i64 0, .slice none 0 0, .bool false, .int .i8 0, .float .f64 0] 59)).drew.setCell ⟨X.heap.size, 12, none⟩ (.float .f64 0)) := store_one (u := .float .f64 0) (by rw [Lib.cell_of_heap (w := (X.alloc (.cells #[.int .i8 4, .int .i64 ln, .int .i64 cl, .string ⟨#[]⟩, .int .i64 0, .int .i64 0, .string ⟨#[]⟩, .int .i64 0, .int .i64 0, .slice none 0 0, .bool false, .int .i8 0, .float .f64 0] 59)).drew) (heap_alloc_new X _)]; rfl) (Lib.frozen_of_heap (w := (X.alloc (.cells #[.int .i8 4, .int .i64 ln, .int .i64 cl, .string ⟨#[]⟩, .int .i64 0, .int .i64 0, .string ⟨#[]⟩, .int .i64 0, .int .i64 0, .slice none 0 0, .bool false, .int .i8 0, .float .f64 0] 59)).drew) (heap_alloc_new X _) 12) (by simp [Value.oneCell'])
  go_region_held3 (fun w' => w'.cell? ⟨b, 1, none⟩ = some (.int .i64 ln) ∧ w'.cell? ⟨b, 2, none⟩ = some (.int .i64 cl)) (first | go_keep) (fail)
  rename_i hHeld
  clear hHeld e1 e2 new1 hst
  have E1 := KX.out.go H.out.1 [.int .i8 4, .int .i64 ln, .int .i64 cl, .string ⟨#[]⟩, .int .i64 0, .int .i64 0, .string ⟨#[]⟩, .int .i64 0, .int .i64 0, .slice none 0 0, .bool false, .int .i8 0, .float .f64 0]
  generalize (X.alloc (.cells #[.int .i8 4, .int .i64 ln, .int .i64 cl, .string ⟨#[]⟩, .int .i64 0, .int .i64 0, .string ⟨#[]⟩, .int .i64 0, .int .i64 0, .slice none 0 0, .bool false, .int .i8 0, .float .f64 0] 59)).drew = W0 at *
  generalize X.heap.size = g at *
  have K0 := hide' E1
  clear E1 KX
  have y0 := K0.out.k 3 _ rfl
  go_wp2_with fail
  obtain ⟨m0, hm0⟩ : ∃ x, ln = x := ⟨_, rfl⟩
  obtain ⟨n0, hn0⟩ : ∃ x, cl = x := ⟨_, rfl⟩
  subst hm0 hn0
  refine (put_any 1 ⟨#[111, 98, 106, 101, 99, 116]⟩ K0.out.ld (by have h0 := H.out.2.2.2; (try simp only [List.length_append, List.length_cons, List.length_nil]); omega)).mono ?_
  rintro e W1 ⟨rfl, v1, m1, n1, L, S⟩
  clear y0
  have K1 := hide' (K0.out.call L S)
  clear L S K0
  have b3 := K1.out.c 3 _ rfl
  go_wp2_with fail
  refine (llist_any names na nc K1.out.ld (H.out.2.1.2.old K1.out.old) H.out.2.1.1 (by have h0 := H.out.2.2.2; (try simp only [List.length_append, List.length_cons, List.length_nil]); omega)).mono ?_
  rintro e W2 ⟨N, ws, vv, v2, m2, n2, q2, rfl, row, hN, hNl, htx, L, S⟩
  clear b3
  obtain ⟨sa, sc, rfl⟩ := row_form row
  have K2 := hide' (K1.out.names L S row)
  have HN := hide' (And.intro hN (And.intro hNl htx))
  clear L S row hN hNl htx K1
  have y9 := K2.out.d 9 _ rfl
  have f9 := K2.out.f 9
  have b6 := (K2.out.set 9 (.slice sa ws.length sc)).c 6 _ rfl
  go_wp2_with fail
  refine (figure_any num _).mono ?_
  rintro e w1 ⟨x, lv, rfl, hv, hxs, hw1⟩
  replace hw1 := hw1.symm
  subst hw1
  have HV := hide' (And.intro hv hxs)
  clear hv hxs
  go_wp2_with fail
  refine (put_any 4 ⟨#[59]⟩ (K2.out.set 9 (.slice sa ws.length sc)).ld (by have h0 := H.out.2.2.2; have h1 := HN.out.2.1; (try simp only [List.length_append, List.length_cons, List.length_nil]); omega)).mono ?_
  rintro e W3 ⟨rfl, v3, m3, n3, L, S⟩
  clear y9 f9 b6
  have K3 := hide' ((K2.out.set 9 (.slice sa ws.length sc)).call L S)
  clear L S
  go_wp2_with (first | (refine wpList_load_row rfl 59 _ rfl g rfl 59 _ _ _ K3.out.cur Tryz.underlying59 rfl (by kernel_rfl) ?_) | (refine wpList_store_row rfl 59 _ _ rfl (w.heap.size + 1) _ rfl rfl 59 _ K3.out.res (by kernel_rfl) rfl (by simp [Value.oneCell']) ?_))
  obtain ⟨k1, r1, t1, o1⟩ := K3.out.fin
  refine bodyPost_ret_by (results_cell_row rfl _ _ (w.heap.size + 1) 59 _ _ _ rfl k1 Tryz.underlying59 rfl (by kernel_rfl)) rfl ?_
  unfold LaidIs
  have hsz := H.out.2.2.1
  simp only [List.append_assoc, List.cons_append, List.nil_append] at r1
  refine ⟨(1, ⟨#[111, 98, 106, 101, 99, 116]⟩, ln, cl) :: (N ++ [(4, ⟨#[59]⟩, m2, n2)]), ⟨4, ln, cl, R.noWd, R.noWd, ws, false, 0, 0⟩, (.slice sa ws.length sc), _, _, _, _, rfl, o1, R.Lay.reads_plain (kw := (1, ⟨#[111, 98, 106, 101, 99, 116]⟩, ln, cl)) (s := (4, ⟨#[59]⟩, m2, n2)) rfl (k := 4) (by kernel_rfl) (by omega) HN.out.1 (R.Lay.is_of 4 _ _ _ _ rfl), ?_, ?_, ?_, r1, t1⟩
  · intro y hy
    simp only [List.mem_append, List.mem_cons, List.not_mem_nil, or_false] at hy
    rcases hy with hy | hy | hy
    · subst hy; simp
    · exact nms_five HN.out.1 y hy
    · subst hy; simp
  · simp only [List.length_append, List.length_cons, List.length_nil]
    have := HN.out.2.1; omega
  · intro y hy
    simp only [List.mem_append, List.mem_cons, List.not_mem_nil, or_false] at hy
    rcases hy with hy | hy | hy
    · subst hy; exact of_decide_eq_true rfl
    · rcases HN.out.2.2 y hy with q | q; exact hsz.2.2.2.2 _ q; omega
    · subst hy; exact of_decide_eq_true rfl
set_option maxRecDepth 100000 in
set_option maxHeartbeats 16000000 in
theorem laid5 {sh : Sh} (h : Ld B b ts v ln cl q w) (hin : sh.In B w) (hsm : sh.Small) (few : ts.length + 2 * sh.names.length + 10 ≤ R.lim) (hP : pik (wrap64 (sh.kind - 1)) 12 = 4) :
    Calls Tryz.prog 22 #[.pointer (some ⟨b, 0, none⟩), .agg sh.cells.toArray] w fun e w' => LaidIs B b ts v sh.names.length w e w' := by
  obtain ⟨kind, head, on, na, names, nc, all, cond, num, quo, line, col⟩ := sh
  unfold Sh.Small at hsm
  unfold Sh.cells
  simp only at hP hsm few ⊢
  have c3 := h.c3
  have lt := h.lt
  have f3 := h.f 3
  have HP := hide' (fun w => pick_any (wrap64 (kind - 1)) 12 w ⟨by decide, by decide⟩)
  rw [hP] at HP
  have cal : ∀ o o', ((w.alloc o).alloc o').cell? ⟨b, 3, none⟩ = some (.int .i64 q) := fun o o' => (World.cell?_of_block (w := w) ((Below.heap_alloc _ _ _ (by simp; omega)).trans (Below.heap_alloc _ _ _ lt))).trans c3
  have fal : ∀ o o', ((w.alloc o).alloc o').frozen? ⟨b, 3, none⟩ = false := fun o o' => (World.frozen?_of_block (w := w) ((Below.heap_alloc _ _ _ (by simp; omega)).trans (Below.heap_alloc _ _ _ lt))).trans f3
  have H := hide' (And.intro h (And.intro hin (And.intro hsm few)))
  clear h hin hsm few hP c3 f3
  go_enter Tryz.func22, Tryz.ntmps22
  go_wp2_with fail
  refine (HP.out _).mono ?_
  rintro e w1 ⟨rfl, hw1⟩
  replace hw1 := hw1.symm
  subst hw1
  clear HP
  go_wp2_with fail
  have E0 := L0.start H.out.1 ⟨kind, head, on, na, names, nc, all, cond, num, quo, line, col⟩
  unfold Sh.cells dz kws at E0
  simp only at E0
  generalize ((((w.setCell ⟨b, 3, none⟩ (.int .i64 quo)).alloc (.cells #[.int .i64 kind, .string head, .string on, .slice na names.length nc, .bool all, .int .i64 cond, .string num, .int .i64 quo, .int .i64 line, .int .i64 col] 53)).alloc (.cells #[.int .i8 0, .int .i64 0, .int .i64 0, .string ⟨#[]⟩, .int .i64 0, .int .i64 0, .string ⟨#[]⟩, .int .i64 0, .int .i64 0, .slice none 0 0, .bool false, .int .i8 0, .float .f64 0] 59)).alloc (.cells #[.string ⟨#[97, 99, 116, 105, 111, 110]⟩, .string ⟨#[115, 117, 98, 106, 101, 99, 116]⟩, .string ⟨#[114, 111, 108, 101]⟩, .string ⟨#[111, 98, 106, 101, 99, 116]⟩, .string ⟨#[103, 114, 111, 117, 112]⟩, .string ⟨#[109, 101, 109, 98, 101, 114]⟩, .string ⟨#[105, 110, 104, 101, 114, 105, 116]⟩, .string ⟨#[112, 97, 114, 116]⟩, .string ⟨#[119, 105, 116, 104, 105, 110]⟩, .string ⟨#[97, 108, 108, 111, 119]⟩, .string ⟨#[100, 101, 110, 121]⟩, .string ⟨#[101, 120, 99, 101, 112, 116]⟩] 9)) = X at *
  have e1 := E0.ld.c1
  have e2 := E0.ld.c2
  have new1 := World.new_ne X ⟨b, 1, none⟩ e1
  have KX := hide' E0
  clear E0 cal fal
  have hst : (store ⟨X.heap.size, 12, none⟩ (.float .f64 0)).run Tryz.prog (X.alloc (.cells #[.int .i8 5, .int .i64 ln, .int .i64 cl, .string ⟨#[]⟩, .int .i64 0, .int .i64 0, .string ⟨#[]⟩, .int .i64 0, .int .i64 0, .slice none 0 0, .bool false, .int .i8 0, .float .f64 0] 59)).drew = .ok () ((X.alloc (.cells #[.int .i8 5, .int .i64 ln, .int .i64 cl, .string ⟨#[]⟩, .int .i64 0, .int .i64 0, .string ⟨#[]⟩, .int .i64 0, .int .i64 0, .slice none 0 0, .bool false, .int .i8 0, .float .f64 0] 59)).drew.setCell ⟨X.heap.size, 12, none⟩ (.float .f64 0)) := store_one (u := .float .f64 0) (by rw [Lib.cell_of_heap (w := (X.alloc (.cells #[.int .i8 5, .int .i64 ln, .int .i64 cl, .string ⟨#[]⟩, .int .i64 0, .int .i64 0, .string ⟨#[]⟩, .int .i64 0, .int .i64 0, .slice none 0 0, .bool false, .int .i8 0, .float .f64 0] 59)).drew) (heap_alloc_new X _)]; rfl) (Lib.frozen_of_heap (w := (X.alloc (.cells #[.int .i8 5, .int .i64 ln, .int .i64 cl, .string ⟨#[]⟩, .int .i64 0, .int .i64 0, .string ⟨#[]⟩, .int .i64 0, .int .i64 0, .slice none 0 0, .bool false, .int .i8 0, .float .f64 0] 59)).drew) (heap_alloc_new X _) 12) (by simp [Value.oneCell'])
  go_region_held3 (fun w' => w'.cell? ⟨b, 1, none⟩ = some (.int .i64 ln) ∧ w'.cell? ⟨b, 2, none⟩ = some (.int .i64 cl)) (first | go_keep) (fail)
  rename_i hHeld
  clear hHeld e1 e2 new1 hst
  have E1 := KX.out.go H.out.1 [.int .i8 5, .int .i64 ln, .int .i64 cl, .string ⟨#[]⟩, .int .i64 0, .int .i64 0, .string ⟨#[]⟩, .int .i64 0, .int .i64 0, .slice none 0 0, .bool false, .int .i8 0, .float .f64 0]
  generalize (X.alloc (.cells #[.int .i8 5, .int .i64 ln, .int .i64 cl, .string ⟨#[]⟩, .int .i64 0, .int .i64 0, .string ⟨#[]⟩, .int .i64 0, .int .i64 0, .slice none 0 0, .bool false, .int .i8 0, .float .f64 0] 59)).drew = W0 at *
  generalize X.heap.size = g at *
  have K0 := hide' E1
  clear E1 KX
  have y0 := K0.out.k 4 _ rfl
  go_wp2_with fail
  obtain ⟨m0, hm0⟩ : ∃ x, ln = x := ⟨_, rfl⟩
  obtain ⟨n0, hn0⟩ : ∃ x, cl = x := ⟨_, rfl⟩
  subst hm0 hn0
  refine (put_any 1 ⟨#[103, 114, 111, 117, 112]⟩ K0.out.ld (by have h0 := H.out.2.2.2; (try simp only [List.length_append, List.length_cons, List.length_nil]); omega)).mono ?_
  rintro e W1 ⟨rfl, v1, m1, n1, L, S⟩
  clear y0
  have K1 := hide' (K0.out.call L S)
  clear L S K0
  have b3 := K1.out.c 3 _ rfl
  go_wp2_with fail
  refine (llist_any names na nc K1.out.ld (H.out.2.1.2.old K1.out.old) H.out.2.1.1 (by have h0 := H.out.2.2.2; (try simp only [List.length_append, List.length_cons, List.length_nil]); omega)).mono ?_
  rintro e W2 ⟨N, ws, vv, v2, m2, n2, q2, rfl, row, hN, hNl, htx, L, S⟩
  clear b3
  obtain ⟨sa, sc, rfl⟩ := row_form row
  have K2 := hide' (K1.out.names L S row)
  have HN := hide' (And.intro hN (And.intro hNl htx))
  clear L S row hN hNl htx K1
  have y9 := K2.out.d 9 _ rfl
  have f9 := K2.out.f 9
  have b6 := (K2.out.set 9 (.slice sa ws.length sc)).c 6 _ rfl
  go_wp2_with fail
  refine (figure_any num _).mono ?_
  rintro e w1 ⟨x, lv, rfl, hv, hxs, hw1⟩
  replace hw1 := hw1.symm
  subst hw1
  have HV := hide' (And.intro hv hxs)
  clear hv hxs
  go_wp2_with fail
  refine (put_any 4 ⟨#[59]⟩ (K2.out.set 9 (.slice sa ws.length sc)).ld (by have h0 := H.out.2.2.2; have h1 := HN.out.2.1; (try simp only [List.length_append, List.length_cons, List.length_nil]); omega)).mono ?_
  rintro e W3 ⟨rfl, v3, m3, n3, L, S⟩
  clear y9 f9 b6
  have K3 := hide' ((K2.out.set 9 (.slice sa ws.length sc)).call L S)
  clear L S
  go_wp2_with (first | (refine wpList_load_row rfl 59 _ rfl g rfl 59 _ _ _ K3.out.cur Tryz.underlying59 rfl (by kernel_rfl) ?_) | (refine wpList_store_row rfl 59 _ _ rfl (w.heap.size + 1) _ rfl rfl 59 _ K3.out.res (by kernel_rfl) rfl (by simp [Value.oneCell']) ?_))
  obtain ⟨k1, r1, t1, o1⟩ := K3.out.fin
  refine bodyPost_ret_by (results_cell_row rfl _ _ (w.heap.size + 1) 59 _ _ _ rfl k1 Tryz.underlying59 rfl (by kernel_rfl)) rfl ?_
  unfold LaidIs
  have hsz := H.out.2.2.1
  simp only [List.append_assoc, List.cons_append, List.nil_append] at r1
  refine ⟨(1, ⟨#[103, 114, 111, 117, 112]⟩, ln, cl) :: (N ++ [(4, ⟨#[59]⟩, m2, n2)]), ⟨5, ln, cl, R.noWd, R.noWd, ws, false, 0, 0⟩, (.slice sa ws.length sc), _, _, _, _, rfl, o1, R.Lay.reads_plain (kw := (1, ⟨#[103, 114, 111, 117, 112]⟩, ln, cl)) (s := (4, ⟨#[59]⟩, m2, n2)) rfl (k := 5) (by kernel_rfl) (by omega) HN.out.1 (R.Lay.is_of 4 _ _ _ _ rfl), ?_, ?_, ?_, r1, t1⟩
  · intro y hy
    simp only [List.mem_append, List.mem_cons, List.not_mem_nil, or_false] at hy
    rcases hy with hy | hy | hy
    · subst hy; simp
    · exact nms_five HN.out.1 y hy
    · subst hy; simp
  · simp only [List.length_append, List.length_cons, List.length_nil]
    have := HN.out.2.1; omega
  · intro y hy
    simp only [List.mem_append, List.mem_cons, List.not_mem_nil, or_false] at hy
    rcases hy with hy | hy | hy
    · subst hy; exact of_decide_eq_true rfl
    · rcases HN.out.2.2 y hy with q | q; exact hsz.2.2.2.2 _ q; omega
    · subst hy; exact of_decide_eq_true rfl
end Go.Proofs.YtfgblchnnhdlnaaGreatDoor
set_option linter.unusedVariables false
set_option linter.unusedSimpArgs false
namespace Go.Proofs.YtfgblchnnhdlnaaGreatDoor
open Go.RowKit
variable {B b : Nat} {ts : List R.Tok} {v v' v'' : Value} {ln cl q : Int} {w w' w'' : World}
set_option maxRecDepth 100000 in
set_option maxHeartbeats 16000000 in
theorem laid2z {sh : Sh} (h : Ld B b ts v ln cl q w) (hin : sh.In B w) (hsm : sh.Small) (few : ts.length + 2 * sh.names.length + 10 ≤ R.lim) (hP : pik (wrap64 (sh.kind - 1)) 12 = 1) (hnum : sh.num.size = 0) :
    Calls Tryz.prog 22 #[.pointer (some ⟨b, 0, none⟩), .agg sh.cells.toArray] w fun e w' => LaidIs B b ts v sh.names.length w e w' := by
  obtain ⟨kind, head, on, na, names, nc, all, cond, num, quo, line, col⟩ := sh
  unfold Sh.Small at hsm
  unfold Sh.cells
  simp only at hP hsm few hnum ⊢
  have c3 := h.c3
  have lt := h.lt
  have f3 := h.f 3
  have HP := hide' (fun w => pick_any (wrap64 (kind - 1)) 12 w ⟨by decide, by decide⟩)
  rw [hP] at HP
  have hne : (num.toList == []) = true := empty_beq num hnum
  clear hnum
  have cal : ∀ o o', ((w.alloc o).alloc o').cell? ⟨b, 3, none⟩ = some (.int .i64 q) := fun o o' => (World.cell?_of_block (w := w) ((Below.heap_alloc _ _ _ (by simp; omega)).trans (Below.heap_alloc _ _ _ lt))).trans c3
  have fal : ∀ o o', ((w.alloc o).alloc o').frozen? ⟨b, 3, none⟩ = false := fun o o' => (World.frozen?_of_block (w := w) ((Below.heap_alloc _ _ _ (by simp; omega)).trans (Below.heap_alloc _ _ _ lt))).trans f3
  have H := hide' (And.intro h (And.intro hin (And.intro hsm few)))
  clear h hin hsm few hP c3 f3
  go_enter Tryz.func22, Tryz.ntmps22
  go_wp2_with fail
  refine (HP.out _).mono ?_
  rintro e w1 ⟨rfl, hw1⟩
  replace hw1 := hw1.symm
  subst hw1
  clear HP
  go_wp2_with fail
  have E0 := L0.start H.out.1 ⟨kind, head, on, na, names, nc, all, cond, num, quo, line, col⟩
  unfold Sh.cells dz kws at E0
  simp only at E0
  generalize ((((w.setCell ⟨b, 3, none⟩ (.int .i64 quo)).alloc (.cells #[.int .i64 kind, .string head, .string on, .slice na names.length nc, .bool all, .int .i64 cond, .string num, .int .i64 quo, .int .i64 line, .int .i64 col] 53)).alloc (.cells #[.int .i8 0, .int .i64 0, .int .i64 0, .string ⟨#[]⟩, .int .i64 0, .int .i64 0, .string ⟨#[]⟩, .int .i64 0, .int .i64 0, .slice none 0 0, .bool false, .int .i8 0, .float .f64 0] 59)).alloc (.cells #[.string ⟨#[97, 99, 116, 105, 111, 110]⟩, .string ⟨#[115, 117, 98, 106, 101, 99, 116]⟩, .string ⟨#[114, 111, 108, 101]⟩, .string ⟨#[111, 98, 106, 101, 99, 116]⟩, .string ⟨#[103, 114, 111, 117, 112]⟩, .string ⟨#[109, 101, 109, 98, 101, 114]⟩, .string ⟨#[105, 110, 104, 101, 114, 105, 116]⟩, .string ⟨#[112, 97, 114, 116]⟩, .string ⟨#[119, 105, 116, 104, 105, 110]⟩, .string ⟨#[97, 108, 108, 111, 119]⟩, .string ⟨#[100, 101, 110, 121]⟩, .string ⟨#[101, 120, 99, 101, 112, 116]⟩] 9)) = X at *
  have e1 := E0.ld.c1
  have e2 := E0.ld.c2
  have new1 := World.new_ne X ⟨b, 1, none⟩ e1
  have KX := hide' E0
  clear E0 cal fal
  have hst : (store ⟨X.heap.size, 12, none⟩ (.float .f64 0)).run Tryz.prog (X.alloc (.cells #[.int .i8 2, .int .i64 ln, .int .i64 cl, .string ⟨#[]⟩, .int .i64 0, .int .i64 0, .string ⟨#[]⟩, .int .i64 0, .int .i64 0, .slice none 0 0, .bool false, .int .i8 0, .float .f64 0] 59)).drew = .ok () ((X.alloc (.cells #[.int .i8 2, .int .i64 ln, .int .i64 cl, .string ⟨#[]⟩, .int .i64 0, .int .i64 0, .string ⟨#[]⟩, .int .i64 0, .int .i64 0, .slice none 0 0, .bool false, .int .i8 0, .float .f64 0] 59)).drew.setCell ⟨X.heap.size, 12, none⟩ (.float .f64 0)) := store_one (u := .float .f64 0) (by rw [Lib.cell_of_heap (w := (X.alloc (.cells #[.int .i8 2, .int .i64 ln, .int .i64 cl, .string ⟨#[]⟩, .int .i64 0, .int .i64 0, .string ⟨#[]⟩, .int .i64 0, .int .i64 0, .slice none 0 0, .bool false, .int .i8 0, .float .f64 0] 59)).drew) (heap_alloc_new X _)]; rfl) (Lib.frozen_of_heap (w := (X.alloc (.cells #[.int .i8 2, .int .i64 ln, .int .i64 cl, .string ⟨#[]⟩, .int .i64 0, .int .i64 0, .string ⟨#[]⟩, .int .i64 0, .int .i64 0, .slice none 0 0, .bool false, .int .i8 0, .float .f64 0] 59)).drew) (heap_alloc_new X _) 12) (by simp [Value.oneCell'])
  go_region_held3 (fun w' => w'.cell? ⟨b, 1, none⟩ = some (.int .i64 ln) ∧ w'.cell? ⟨b, 2, none⟩ = some (.int .i64 cl)) (first | go_keep) (fail)
  rename_i hHeld
  clear hHeld e1 e2 new1 hst
  have E1 := KX.out.go H.out.1 [.int .i8 2, .int .i64 ln, .int .i64 cl, .string ⟨#[]⟩, .int .i64 0, .int .i64 0, .string ⟨#[]⟩, .int .i64 0, .int .i64 0, .slice none 0 0, .bool false, .int .i8 0, .float .f64 0]
  generalize (X.alloc (.cells #[.int .i8 2, .int .i64 ln, .int .i64 cl, .string ⟨#[]⟩, .int .i64 0, .int .i64 0, .string ⟨#[]⟩, .int .i64 0, .int .i64 0, .slice none 0 0, .bool false, .int .i8 0, .float .f64 0] 59)).drew = W0 at *
  generalize X.heap.size = g at *
  have K0 := hide' E1
  clear E1 KX
  have y0 := K0.out.k 1 _ rfl
  go_wp2_with fail
  obtain ⟨m0, hm0⟩ : ∃ x, ln = x := ⟨_, rfl⟩
  obtain ⟨n0, hn0⟩ : ∃ x, cl = x := ⟨_, rfl⟩
  subst hm0 hn0
  refine (put_any 1 ⟨#[115, 117, 98, 106, 101, 99, 116]⟩ K0.out.ld (by have h0 := H.out.2.2.2; (try simp only [List.length_append, List.length_cons, List.length_nil]); omega)).mono ?_
  rintro e W1 ⟨rfl, v1, m1, n1, L, S⟩
  clear y0
  have K1 := hide' (K0.out.call L S)
  clear L S K0
  have b3 := K1.out.c 3 _ rfl
  go_wp2_with fail
  refine (llist_any names na nc K1.out.ld (H.out.2.1.2.old K1.out.old) H.out.2.1.1 (by have h0 := H.out.2.2.2; (try simp only [List.length_append, List.length_cons, List.length_nil]); omega)).mono ?_
  rintro e W2 ⟨N, ws, vv, v2, m2, n2, q2, rfl, row, hN, hNl, htx, L, S⟩
  clear b3
  obtain ⟨sa, sc, rfl⟩ := row_form row
  have K2 := hide' (K1.out.names L S row)
  have HN := hide' (And.intro hN (And.intro hNl htx))
  clear L S row hN hNl htx K1
  have y9 := K2.out.d 9 _ rfl
  have f9 := K2.out.f 9
  have b6 := (K2.out.set 9 (.slice sa ws.length sc)).c 6 _ rfl
  go_wp2_with fail
  refine (figure_any num _).mono ?_
  rintro e w1 ⟨x, lv, rfl, hv, hxs, hw1⟩
  replace hw1 := hw1.symm
  subst hw1
  have HV := hide' (And.intro hv hxs)
  clear hv hxs
  have s12 := store_one (v := .float .f64 4607182418800017408) ((K2.out.set 9 (.slice sa ws.length sc)).d 12 _ rfl) ((K2.out.set 9 (.slice sa ws.length sc)).f 12) (by simp [Value.oneCell'])
  go_wp2_with fail
  refine (put_any 4 ⟨#[59]⟩ ((K2.out.set 9 (.slice sa ws.length sc)).set 12 (.float .f64 4607182418800017408)).ld (by have h0 := H.out.2.2.2; have h1 := HN.out.2.1; (try simp only [List.length_append, List.length_cons, List.length_nil]); omega)).mono ?_
  rintro e W3 ⟨rfl, v3, m3, n3, L, S⟩
  clear y9 f9 b6 s12
  have K3 := hide' (((K2.out.set 9 (.slice sa ws.length sc)).set 12 (.float .f64 4607182418800017408)).call L S)
  clear L S
  go_wp2_with (first | (refine wpList_load_row rfl 59 _ rfl g rfl 59 _ _ _ K3.out.cur Tryz.underlying59 rfl (by kernel_rfl) ?_) | (refine wpList_store_row rfl 59 _ _ rfl (w.heap.size + 1) _ rfl rfl 59 _ K3.out.res (by kernel_rfl) rfl (by simp [Value.oneCell']) ?_))
  obtain ⟨k1, r1, t1, o1⟩ := K3.out.fin
  refine bodyPost_ret_by (results_cell_row rfl _ _ (w.heap.size + 1) 59 _ _ _ rfl k1 Tryz.underlying59 rfl (by kernel_rfl)) rfl ?_
  unfold LaidIs
  have hsz := H.out.2.2.1
  simp only [List.append_assoc, List.cons_append, List.nil_append] at r1
  refine ⟨(1, ⟨#[115, 117, 98, 106, 101, 99, 116]⟩, ln, cl) :: (N ++ [(4, ⟨#[59]⟩, m2, n2)]), ⟨2, ln, cl, R.noWd, R.noWd, ws, false, 0, 4607182418800017408⟩, (.slice sa ws.length sc), _, _, _, _, rfl, o1, R.Lay.reads_subject0 (kw := (1, ⟨#[115, 117, 98, 106, 101, 99, 116]⟩, ln, cl)) (s := (4, ⟨#[59]⟩, m2, n2)) rfl (by kernel_rfl) HN.out.1 (R.Lay.is_of 4 _ _ _ _ rfl), ?_, ?_, ?_, r1, t1⟩
  · intro y hy
    simp only [List.mem_append, List.mem_cons, List.not_mem_nil, or_false] at hy
    rcases hy with hy | hy | hy
    · subst hy; simp
    · exact nms_five HN.out.1 y hy
    · subst hy; simp
  · simp only [List.length_append, List.length_cons, List.length_nil]
    have := HN.out.2.1; omega
  · intro y hy
    simp only [List.mem_append, List.mem_cons, List.not_mem_nil, or_false] at hy
    rcases hy with hy | hy | hy
    · subst hy; exact of_decide_eq_true rfl
    · rcases HN.out.2.2 y hy with q | q; exact hsz.2.2.2.2 _ q; omega
    · subst hy; exact of_decide_eq_true rfl
set_option maxRecDepth 100000 in
set_option maxHeartbeats 16000000 in
theorem laid2x {sh : Sh} (h : Ld B b ts v ln cl q w) (hin : sh.In B w) (hsm : sh.Small) (few : ts.length + 2 * sh.names.length + 10 ≤ R.lim) (hP : pik (wrap64 (sh.kind - 1)) 12 = 1) (hnum : sh.num.size ≠ 0) :
    Calls Tryz.prog 22 #[.pointer (some ⟨b, 0, none⟩), .agg sh.cells.toArray] w fun e w' => LaidIs B b ts v sh.names.length w e w' := by
  obtain ⟨kind, head, on, na, names, nc, all, cond, num, quo, line, col⟩ := sh
  unfold Sh.Small at hsm
  unfold Sh.cells
  simp only at hP hsm few hnum ⊢
  have c3 := h.c3
  have lt := h.lt
  have f3 := h.f 3
  have HP := hide' (fun w => pick_any (wrap64 (kind - 1)) 12 w ⟨by decide, by decide⟩)
  rw [hP] at HP
  have hne : (num.toList == []) = false := nonempty_beq num hnum
  have Hnum := hide' hnum
  clear hnum
  have cal : ∀ o o', ((w.alloc o).alloc o').cell? ⟨b, 3, none⟩ = some (.int .i64 q) := fun o o' => (World.cell?_of_block (w := w) ((Below.heap_alloc _ _ _ (by simp; omega)).trans (Below.heap_alloc _ _ _ lt))).trans c3
  have fal : ∀ o o', ((w.alloc o).alloc o').frozen? ⟨b, 3, none⟩ = false := fun o o' => (World.frozen?_of_block (w := w) ((Below.heap_alloc _ _ _ (by simp; omega)).trans (Below.heap_alloc _ _ _ lt))).trans f3
  have H := hide' (And.intro h (And.intro hin (And.intro hsm few)))
  clear h hin hsm few hP c3 f3
  go_enter Tryz.func22, Tryz.ntmps22
  go_wp2_with fail
  refine (HP.out _).mono ?_
  rintro e w1 ⟨rfl, hw1⟩
  replace hw1 := hw1.symm
  subst hw1
  clear HP
  go_wp2_with fail
  have E0 := L0.start H.out.1 ⟨kind, head, on, na, names, nc, all, cond, num, quo, line, col⟩
  unfold Sh.cells dz kws at E0
  simp only at E0
  generalize ((((w.setCell ⟨b, 3, none⟩ (.int .i64 quo)).alloc (.cells #[.int .i64 kind, .string head, .string on, .slice na names.length nc, .bool all, .int .i64 cond, .string num, .int .i64 quo, .int .i64 line, .int .i64 col] 53)).alloc (.cells #[.int .i8 0, .int .i64 0, .int .i64 0, .string ⟨#[]⟩, .int .i64 0, .int .i64 0, .string ⟨#[]⟩, .int .i64 0, .int .i64 0, .slice none 0 0, .bool false, .int .i8 0, .float .f64 0] 59)).alloc (.cells #[.string ⟨#[97, 99, 116, 105, 111, 110]⟩, .string ⟨#[115, 117, 98, 106, 101, 99, 116]⟩, .string ⟨#[114, 111, 108, 101]⟩, .string ⟨#[111, 98, 106, 101, 99, 116]⟩, .string ⟨#[103, 114, 111, 117, 112]⟩, .string ⟨#[109, 101, 109, 98, 101, 114]⟩, .string ⟨#[105, 110, 104, 101, 114, 105, 116]⟩, .string ⟨#[112, 97, 114, 116]⟩, .string ⟨#[119, 105, 116, 104, 105, 110]⟩, .string ⟨#[97, 108, 108, 111, 119]⟩, .string ⟨#[100, 101, 110, 121]⟩, .string ⟨#[101, 120, 99, 101, 112, 116]⟩] 9)) = X at *
  have e1 := E0.ld.c1
  have e2 := E0.ld.c2
  have new1 := World.new_ne X ⟨b, 1, none⟩ e1
  have KX := hide' E0
  clear E0 cal fal
  have hst : (store ⟨X.heap.size, 12, none⟩ (.float .f64 0)).run Tryz.prog (X.alloc (.cells #[.int .i8 2, .int .i64 ln, .int .i64 cl, .string ⟨#[]⟩, .int .i64 0, .int .i64 0, .string ⟨#[]⟩, .int .i64 0, .int .i64 0, .slice none 0 0, .bool false, .int .i8 0, .float .f64 0] 59)).drew = .ok () ((X.alloc (.cells #[.int .i8 2, .int .i64 ln, .int .i64 cl, .string ⟨#[]⟩, .int .i64 0, .int .i64 0, .string ⟨#[]⟩, .int .i64 0, .int .i64 0, .slice none 0 0, .bool false, .int .i8 0, .float .f64 0] 59)).drew.setCell ⟨X.heap.size, 12, none⟩ (.float .f64 0)) := store_one (u := .float .f64 0) (by rw [Lib.cell_of_heap (w := (X.alloc (.cells #[.int .i8 2, .int .i64 ln, .int .i64 cl, .string ⟨#[]⟩, .int .i64 0, .int .i64 0, .string ⟨#[]⟩, .int .i64 0, .int .i64 0, .slice none 0 0, .bool false, .int .i8 0, .float .f64 0] 59)).drew) (heap_alloc_new X _)]; rfl) (Lib.frozen_of_heap (w := (X.alloc (.cells #[.int .i8 2, .int .i64 ln, .int .i64 cl, .string ⟨#[]⟩, .int .i64 0, .int .i64 0, .string ⟨#[]⟩, .int .i64 0, .int .i64 0, .slice none 0 0, .bool false, .int .i8 0, .float .f64 0] 59)).drew) (heap_alloc_new X _) 12) (by simp [Value.oneCell'])
  go_region_held3 (fun w' => w'.cell? ⟨b, 1, none⟩ = some (.int .i64 ln) ∧ w'.cell? ⟨b, 2, none⟩ = some (.int .i64 cl)) (first | go_keep) (fail)
  rename_i hHeld
  clear hHeld e1 e2 new1 hst
  have E1 := KX.out.go H.out.1 [.int .i8 2, .int .i64 ln, .int .i64 cl, .string ⟨#[]⟩, .int .i64 0, .int .i64 0, .string ⟨#[]⟩, .int .i64 0, .int .i64 0, .slice none 0 0, .bool false, .int .i8 0, .float .f64 0]
  generalize (X.alloc (.cells #[.int .i8 2, .int .i64 ln, .int .i64 cl, .string ⟨#[]⟩, .int .i64 0, .int .i64 0, .string ⟨#[]⟩, .int .i64 0, .int .i64 0, .slice none 0 0, .bool false, .int .i8 0, .float .f64 0] 59)).drew = W0 at *
  generalize X.heap.size = g at *
  have K0 := hide' E1
  clear E1 KX
  have y0 := K0.out.k 1 _ rfl
  go_wp2_with fail
  obtain ⟨m0, hm0⟩ : ∃ x, ln = x := ⟨_, rfl⟩
  obtain ⟨n0, hn0⟩ : ∃ x, cl = x := ⟨_, rfl⟩
  subst hm0 hn0
  refine (put_any 1 ⟨#[115, 117, 98, 106, 101, 99, 116]⟩ K0.out.ld (by have h0 := H.out.2.2.2; (try simp only [List.length_append, List.length_cons, List.length_nil]); omega)).mono ?_
  rintro e W1 ⟨rfl, v1, m1, n1, L, S⟩
  clear y0
  have K1 := hide' (K0.out.call L S)
  clear L S K0
  have b3 := K1.out.c 3 _ rfl
  go_wp2_with fail
  refine (llist_any names na nc K1.out.ld (H.out.2.1.2.old K1.out.old) H.out.2.1.1 (by have h0 := H.out.2.2.2; (try simp only [List.length_append, List.length_cons, List.length_nil]); omega)).mono ?_
  rintro e W2 ⟨N, ws, vv, v2, m2, n2, q2, rfl, row, hN, hNl, htx, L, S⟩
  clear b3
  obtain ⟨sa, sc, rfl⟩ := row_form row
  have K2 := hide' (K1.out.names L S row)
  have HN := hide' (And.intro hN (And.intro hNl htx))
  clear L S row hN hNl htx K1
  have y9 := K2.out.d 9 _ rfl
  have f9 := K2.out.f 9
  have b6 := (K2.out.set 9 (.slice sa ws.length sc)).c 6 _ rfl
  go_wp2_with fail
  refine (figure_any num _).mono ?_
  rintro e w1 ⟨x, lv, rfl, hv, hxs, hw1⟩
  replace hw1 := hw1.symm
  subst hw1
  have HV := hide' (And.intro hv hxs)
  clear hv hxs
  go_wp2_with fail
  refine (put_any 1 ⟨#[116, 114, 117, 115, 116]⟩ (K2.out.set 9 (.slice sa ws.length sc)).ld (by have h0 := H.out.2.2.2; have h1 := HN.out.2.1; (try simp only [List.length_append, List.length_cons, List.length_nil]); omega)).mono ?_
  rintro e W3 ⟨rfl, v3, m3, n3, L, S⟩
  clear y9 f9 b6
  have K3 := hide' ((K2.out.set 9 (.slice sa ws.length sc)).call L S)
  clear L S
  go_wp2_with fail
  refine (put_any 3 x K3.out.ld (by have h0 := H.out.2.2.2; have h1 := HN.out.2.1; (try simp only [List.length_append, List.length_cons, List.length_nil]); omega)).mono ?_
  rintro e W4 ⟨rfl, v4, m4, n4, L, S⟩
  have K4 := hide' (K3.out.call L S)
  clear L S K3
  have s12 := store_one (v := .float .f64 lv) (K4.out.d 12 _ rfl) (K4.out.f 12) (by simp [Value.oneCell'])
  go_wp2_with fail
  refine (put_any 4 ⟨#[59]⟩ (K4.out.set 12 (.float .f64 lv)).ld (by have h0 := H.out.2.2.2; have h1 := HN.out.2.1; (try simp only [List.length_append, List.length_cons, List.length_nil]); omega)).mono ?_
  rintro e W5 ⟨rfl, v5, m5, n5, L, S⟩
  clear s12
  have K5 := hide' ((K4.out.set 12 (.float .f64 lv)).call L S)
  clear L S
  go_wp2_with (first | (refine wpList_load_row rfl 59 _ rfl g rfl 59 _ _ _ K5.out.cur Tryz.underlying59 rfl (by kernel_rfl) ?_) | (refine wpList_store_row rfl 59 _ _ rfl (w.heap.size + 1) _ rfl rfl 59 _ K5.out.res (by kernel_rfl) rfl (by simp [Value.oneCell']) ?_))
  obtain ⟨k1, r1, t1, o1⟩ := K5.out.fin
  refine bodyPost_ret_by (results_cell_row rfl _ _ (w.heap.size + 1) 59 _ _ _ rfl k1 Tryz.underlying59 rfl (by kernel_rfl)) rfl ?_
  unfold LaidIs
  have hsz := H.out.2.2.1
  simp only [List.append_assoc, List.cons_append, List.nil_append] at r1
  refine ⟨(1, ⟨#[115, 117, 98, 106, 101, 99, 116]⟩, ln, cl) :: (N ++ [(1, ⟨#[116, 114, 117, 115, 116]⟩, m2, n2), (3, x, m3, n3), (4, ⟨#[59]⟩, m4, n4)]), ⟨2, ln, cl, R.noWd, R.noWd, ws, false, 0, lv⟩, (.slice sa ws.length sc), _, _, _, _, rfl, o1, (by have hv := HV.out.1 (by have := Hnum.out; omega); have := R.Lay.reads_subject (kw := (1, ⟨#[115, 117, 98, 106, 101, 99, 116]⟩, ln, cl)) (tr := (1, ⟨#[116, 114, 117, 115, 116]⟩, m2, n2)) (nu := (3, x, m3, n3)) (s := (4, ⟨#[59]⟩, m4, n4)) rfl (by kernel_rfl) HN.out.1 (R.Lay.is_of 1 _ _ _ _ rfl) rfl hv.1 (R.Lay.is_of 4 _ _ _ _ rfl); rw [hv.2] at this; exact this), ?_, ?_, ?_, r1, t1⟩
  · intro y hy
    simp only [List.mem_append, List.mem_cons, List.not_mem_nil, or_false] at hy
    rcases hy with hy | hy | hy | hy | hy
    · subst hy; simp
    · exact nms_five HN.out.1 y hy
    · subst hy; simp
    · subst hy; simp
    · subst hy; simp
  · simp only [List.length_append, List.length_cons, List.length_nil]
    have := HN.out.2.1; omega
  · intro y hy
    simp only [List.mem_append, List.mem_cons, List.not_mem_nil, or_false] at hy
    rcases hy with hy | hy | hy | hy | hy
    · subst hy; exact of_decide_eq_true rfl
    · rcases HN.out.2.2 y hy with q | q; exact hsz.2.2.2.2 _ q; omega
    · subst hy; exact of_decide_eq_true rfl
    · subst hy; have := HV.out.2; simp only; omega
    · subst hy; exact of_decide_eq_true rfl
end Go.Proofs.YtfgblchnnhdlnaaGreatDoor
set_option linter.unusedVariables false
set_option linter.unusedSimpArgs false
namespace Go.Proofs.YtfgblchnnhdlnaaGreatDoor
open Go.RowKit
variable {B b : Nat} {ts : List R.Tok} {v v' v'' : Value} {ln cl q : Int} {w w' w'' : World}
set_option maxRecDepth 100000 in
set_option maxHeartbeats 16000000 in
theorem laid6 {sh : Sh} (h : Ld B b ts v ln cl q w) (hin : sh.In B w) (hsm : sh.Small) (few : ts.length + 2 * sh.names.length + 10 ≤ R.lim) (hP : pik (wrap64 (sh.kind - 1)) 12 = 5) :
    Calls Tryz.prog 22 #[.pointer (some ⟨b, 0, none⟩), .agg sh.cells.toArray] w fun e w' => LaidIs B b ts v sh.names.length w e w' := by
  obtain ⟨kind, head, on, na, names, nc, all, cond, num, quo, line, col⟩ := sh
  unfold Sh.Small at hsm
  unfold Sh.cells
  simp only at hP hsm few ⊢
  have c3 := h.c3
  have lt := h.lt
  have f3 := h.f 3
  have HP := hide' (fun w => pick_any (wrap64 (kind - 1)) 12 w ⟨by decide, by decide⟩)
  rw [hP] at HP
  have cal : ∀ o o', ((w.alloc o).alloc o').cell? ⟨b, 3, none⟩ = some (.int .i64 q) := fun o o' => (World.cell?_of_block (w := w) ((Below.heap_alloc _ _ _ (by simp; omega)).trans (Below.heap_alloc _ _ _ lt))).trans c3
  have fal : ∀ o o', ((w.alloc o).alloc o').frozen? ⟨b, 3, none⟩ = false := fun o o' => (World.frozen?_of_block (w := w) ((Below.heap_alloc _ _ _ (by simp; omega)).trans (Below.heap_alloc _ _ _ lt))).trans f3
  have H := hide' (And.intro h (And.intro hin (And.intro hsm few)))
  clear h hin hsm few hP c3 f3
  go_enter Tryz.func22, Tryz.ntmps22
  go_wp2_with fail
  refine (HP.out _).mono ?_
  rintro e w1 ⟨rfl, hw1⟩
  replace hw1 := hw1.symm
  subst hw1
  clear HP
  go_wp2_with fail
  have E0 := L0.start H.out.1 ⟨kind, head, on, na, names, nc, all, cond, num, quo, line, col⟩
  unfold Sh.cells dz kws at E0
  simp only at E0
  generalize ((((w.setCell ⟨b, 3, none⟩ (.int .i64 quo)).alloc (.cells #[.int .i64 kind, .string head, .string on, .slice na names.length nc, .bool all, .int .i64 cond, .string num, .int .i64 quo, .int .i64 line, .int .i64 col] 53)).alloc (.cells #[.int .i8 0, .int .i64 0, .int .i64 0, .string ⟨#[]⟩, .int .i64 0, .int .i64 0, .string ⟨#[]⟩, .int .i64 0, .int .i64 0, .slice none 0 0, .bool false, .int .i8 0, .float .f64 0] 59)).alloc (.cells #[.string ⟨#[97, 99, 116, 105, 111, 110]⟩, .string ⟨#[115, 117, 98, 106, 101, 99, 116]⟩, .string ⟨#[114, 111, 108, 101]⟩, .string ⟨#[111, 98, 106, 101, 99, 116]⟩, .string ⟨#[103, 114, 111, 117, 112]⟩, .string ⟨#[109, 101, 109, 98, 101, 114]⟩, .string ⟨#[105, 110, 104, 101, 114, 105, 116]⟩, .string ⟨#[112, 97, 114, 116]⟩, .string ⟨#[119, 105, 116, 104, 105, 110]⟩, .string ⟨#[97, 108, 108, 111, 119]⟩, .string ⟨#[100, 101, 110, 121]⟩, .string ⟨#[101, 120, 99, 101, 112, 116]⟩] 9)) = X at *
  have e1 := E0.ld.c1
  have e2 := E0.ld.c2
  have new1 := World.new_ne X ⟨b, 1, none⟩ e1
  have KX := hide' E0
  clear E0 cal fal
  have hst : (store ⟨X.heap.size, 12, none⟩ (.float .f64 0)).run Tryz.prog (X.alloc (.cells #[.int .i8 6, .int .i64 ln, .int .i64 cl, .string ⟨#[]⟩, .int .i64 0, .int .i64 0, .string ⟨#[]⟩, .int .i64 0, .int .i64 0, .slice none 0 0, .bool false, .int .i8 0, .float .f64 0] 59)).drew = .ok () ((X.alloc (.cells #[.int .i8 6, .int .i64 ln, .int .i64 cl, .string ⟨#[]⟩, .int .i64 0, .int .i64 0, .string ⟨#[]⟩, .int .i64 0, .int .i64 0, .slice none 0 0, .bool false, .int .i8 0, .float .f64 0] 59)).drew.setCell ⟨X.heap.size, 12, none⟩ (.float .f64 0)) := store_one (u := .float .f64 0) (by rw [Lib.cell_of_heap (w := (X.alloc (.cells #[.int .i8 6, .int .i64 ln, .int .i64 cl, .string ⟨#[]⟩, .int .i64 0, .int .i64 0, .string ⟨#[]⟩, .int .i64 0, .int .i64 0, .slice none 0 0, .bool false, .int .i8 0, .float .f64 0] 59)).drew) (heap_alloc_new X _)]; rfl) (Lib.frozen_of_heap (w := (X.alloc (.cells #[.int .i8 6, .int .i64 ln, .int .i64 cl, .string ⟨#[]⟩, .int .i64 0, .int .i64 0, .string ⟨#[]⟩, .int .i64 0, .int .i64 0, .slice none 0 0, .bool false, .int .i8 0, .float .f64 0] 59)).drew) (heap_alloc_new X _) 12) (by simp [Value.oneCell'])
  go_region_held3 (fun w' => w'.cell? ⟨b, 1, none⟩ = some (.int .i64 ln) ∧ w'.cell? ⟨b, 2, none⟩ = some (.int .i64 cl)) (first | go_keep) (fail)
  rename_i hHeld
  clear hHeld e1 e2 new1 hst
  have E1 := KX.out.go H.out.1 [.int .i8 6, .int .i64 ln, .int .i64 cl, .string ⟨#[]⟩, .int .i64 0, .int .i64 0, .string ⟨#[]⟩, .int .i64 0, .int .i64 0, .slice none 0 0, .bool false, .int .i8 0, .float .f64 0]
  generalize (X.alloc (.cells #[.int .i8 6, .int .i64 ln, .int .i64 cl, .string ⟨#[]⟩, .int .i64 0, .int .i64 0, .string ⟨#[]⟩, .int .i64 0, .int .i64 0, .slice none 0 0, .bool false, .int .i8 0, .float .f64 0] 59)).drew = W0 at *
  generalize X.heap.size = g at *
  have K0 := hide' E1
  clear E1 KX
  have y0 := K0.out.k 5 _ rfl
  go_wp2_with fail
  obtain ⟨m0, hm0⟩ : ∃ x, ln = x := ⟨_, rfl⟩
  obtain ⟨n0, hn0⟩ : ∃ x, cl = x := ⟨_, rfl⟩
  subst hm0 hn0
  refine (put_any 1 ⟨#[109, 101, 109, 98, 101, 114]⟩ K0.out.ld (by have h0 := H.out.2.2.2; (try simp only [List.length_append, List.length_cons, List.length_nil]); omega)).mono ?_
  rintro e W1 ⟨rfl, v1, m1, n1, L, S⟩
  clear y0
  have K1 := hide' (K0.out.call L S)
  clear L S K0
  have b1 := K1.out.c 1 _ rfl
  go_wp2_with fail
  refine (lname_any head K1.out.ld (by have h0 := H.out.2.2.2; (try simp only [List.length_append, List.length_cons, List.length_nil]); omega)).mono ?_
  rintro e W2 ⟨⟨pk, pt, pl, pc⟩, v2, m2, n2, q2, rfl, ht, hn, L, S⟩
  unfold wv R.wdOf
  simp only at ht ⊢
  subst ht
  clear b1
  have K2 := hide' (K1.out.call L S)
  have Hp := hide' hn
  clear L S hn K1
  have y3 := K2.out.d 3 _ rfl
  have f3 := K2.out.f 3
  have y4 := K2.out.d 4 _ rfl
  have f4 := K2.out.f 4
  have y5 := K2.out.d 5 _ rfl
  have f5 := K2.out.f 5
  go_wp2_with fail
  refine (put_any 4 ⟨#[58]⟩ (((K2.out.set 3 (.string pt)).set 4 (.int .i64 pl)).set 5 (.int .i64 pc)).ld (by have h0 := H.out.2.2.2; (try simp only [List.length_append, List.length_cons, List.length_nil]); omega)).mono ?_
  rintro e W3 ⟨rfl, v3, m3, n3, L, S⟩
  clear y3 f3 y4 f4 y5 f5
  have K3 := hide' ((((K2.out.set 3 (.string pt)).set 4 (.int .i64 pl)).set 5 (.int .i64 pc)).call L S)
  clear L S
  have b3 := K3.out.c 3 _ rfl
  go_wp2_with fail
  refine (llist_any names na nc K3.out.ld (H.out.2.1.2.old K3.out.old) H.out.2.1.1 (by have h0 := H.out.2.2.2; (try simp only [List.length_append, List.length_cons, List.length_nil]); omega)).mono ?_
  rintro e W4 ⟨N, ws, vv, v4, m4, n4, q4, rfl, row, hN, hNl, htx, L, S⟩
  clear b3
  obtain ⟨sa, sc, rfl⟩ := row_form row
  have K4 := hide' (K3.out.names L S row)
  have HN := hide' (And.intro hN (And.intro hNl htx))
  clear L S row hN hNl htx K3
  have y9 := K4.out.d 9 _ rfl
  have f9 := K4.out.f 9
  have b6 := (K4.out.set 9 (.slice sa ws.length sc)).c 6 _ rfl
  go_wp2_with fail
  refine (figure_any num _).mono ?_
  rintro e w1 ⟨x, lv, rfl, hv, hxs, hw1⟩
  replace hw1 := hw1.symm
  subst hw1
  have HV := hide' (And.intro hv hxs)
  clear hv hxs
  go_wp2_with fail
  refine (put_any 4 ⟨#[59]⟩ (K4.out.set 9 (.slice sa ws.length sc)).ld (by have h0 := H.out.2.2.2; have h1 := HN.out.2.1; (try simp only [List.length_append, List.length_cons, List.length_nil]); omega)).mono ?_
  rintro e W5 ⟨rfl, v5, m5, n5, L, S⟩
  clear y9 f9 b6
  have K5 := hide' ((K4.out.set 9 (.slice sa ws.length sc)).call L S)
  clear L S
  go_wp2_with (first | (refine wpList_load_row rfl 59 _ rfl g rfl 59 _ _ _ K5.out.cur Tryz.underlying59 rfl (by kernel_rfl) ?_) | (refine wpList_store_row rfl 59 _ _ rfl (w.heap.size + 1) _ rfl rfl 59 _ K5.out.res (by kernel_rfl) rfl (by simp [Value.oneCell']) ?_))
  obtain ⟨k1, r1, t1, o1⟩ := K5.out.fin
  refine bodyPost_ret_by (results_cell_row rfl _ _ (w.heap.size + 1) 59 _ _ _ rfl k1 Tryz.underlying59 rfl (by kernel_rfl)) rfl ?_
  unfold LaidIs
  have hsz := H.out.2.2.1
  simp only [List.append_assoc, List.cons_append, List.nil_append] at r1
  refine ⟨(1, ⟨#[109, 101, 109, 98, 101, 114]⟩, ln, cl) :: (pk, pt, pl, pc) :: (4, ⟨#[58]⟩, m2, n2) :: (N ++ [(4, ⟨#[59]⟩, m4, n4)]), ⟨6, ln, cl, (pt, pl, pc), R.noWd, ws, false, 0, 0⟩, (.slice sa ws.length sc), _, _, _, _, rfl, o1, R.Lay.reads_pair (kw := (1, ⟨#[109, 101, 109, 98, 101, 114]⟩, ln, cl)) (a := (pk, pt, pl, pc)) (c := (4, ⟨#[58]⟩, m2, n2)) (s := (4, ⟨#[59]⟩, m4, n4)) rfl (k := 6) (by kernel_rfl) (by omega) Hp.out (R.Lay.is_of 4 _ _ _ _ rfl) HN.out.1 (R.Lay.is_of 4 _ _ _ _ rfl), ?_, ?_, ?_, r1, t1⟩
  · intro y hy
    simp only [List.mem_append, List.mem_cons, List.not_mem_nil, or_false] at hy
    rcases hy with hy | hy | hy | hy | hy
    · subst hy; simp
    · subst hy; exact nm_five Hp.out
    · subst hy; simp
    · exact nms_five HN.out.1 y hy
    · subst hy; simp
  · simp only [List.length_append, List.length_cons, List.length_nil]
    have := HN.out.2.1; omega
  · intro y hy
    simp only [List.mem_append, List.mem_cons, List.not_mem_nil, or_false] at hy
    rcases hy with hy | hy | hy | hy | hy
    · subst hy; exact of_decide_eq_true rfl
    · subst hy; exact hsz.1
    · subst hy; exact of_decide_eq_true rfl
    · rcases HN.out.2.2 y hy with q | q; exact hsz.2.2.2.2 _ q; omega
    · subst hy; exact of_decide_eq_true rfl
set_option maxRecDepth 100000 in
set_option maxHeartbeats 16000000 in
theorem laid7 {sh : Sh} (h : Ld B b ts v ln cl q w) (hin : sh.In B w) (hsm : sh.Small) (few : ts.length + 2 * sh.names.length + 10 ≤ R.lim) (hP : pik (wrap64 (sh.kind - 1)) 12 = 6) :
    Calls Tryz.prog 22 #[.pointer (some ⟨b, 0, none⟩), .agg sh.cells.toArray] w fun e w' => LaidIs B b ts v sh.names.length w e w' := by
  obtain ⟨kind, head, on, na, names, nc, all, cond, num, quo, line, col⟩ := sh
  unfold Sh.Small at hsm
  unfold Sh.cells
  simp only at hP hsm few ⊢
  have c3 := h.c3
  have lt := h.lt
  have f3 := h.f 3
  have HP := hide' (fun w => pick_any (wrap64 (kind - 1)) 12 w ⟨by decide, by decide⟩)
  rw [hP] at HP
  have cal : ∀ o o', ((w.alloc o).alloc o').cell? ⟨b, 3, none⟩ = some (.int .i64 q) := fun o o' => (World.cell?_of_block (w := w) ((Below.heap_alloc _ _ _ (by simp; omega)).trans (Below.heap_alloc _ _ _ lt))).trans c3
  have fal : ∀ o o', ((w.alloc o).alloc o').frozen? ⟨b, 3, none⟩ = false := fun o o' => (World.frozen?_of_block (w := w) ((Below.heap_alloc _ _ _ (by simp; omega)).trans (Below.heap_alloc _ _ _ lt))).trans f3
  have H := hide' (And.intro h (And.intro hin (And.intro hsm few)))
  clear h hin hsm few hP c3 f3
  go_enter Tryz.func22, Tryz.ntmps22
  go_wp2_with fail
  refine (HP.out _).mono ?_
  rintro e w1 ⟨rfl, hw1⟩
  replace hw1 := hw1.symm
  subst hw1
  clear HP
  go_wp2_with fail
  have E0 := L0.start H.out.1 ⟨kind, head, on, na, names, nc, all, cond, num, quo, line, col⟩
  unfold Sh.cells dz kws at E0
  simp only at E0
  generalize ((((w.setCell ⟨b, 3, none⟩ (.int .i64 quo)).alloc (.cells #[.int .i64 kind, .string head, .string on, .slice na names.length nc, .bool all, .int .i64 cond, .string num, .int .i64 quo, .int .i64 line, .int .i64 col] 53)).alloc (.cells #[.int .i8 0, .int .i64 0, .int .i64 0, .string ⟨#[]⟩, .int .i64 0, .int .i64 0, .string ⟨#[]⟩, .int .i64 0, .int .i64 0, .slice none 0 0, .bool false, .int .i8 0, .float .f64 0] 59)).alloc (.cells #[.string ⟨#[97, 99, 116, 105, 111, 110]⟩, .string ⟨#[115, 117, 98, 106, 101, 99, 116]⟩, .string ⟨#[114, 111, 108, 101]⟩, .string ⟨#[111, 98, 106, 101, 99, 116]⟩, .string ⟨#[103, 114, 111, 117, 112]⟩, .string ⟨#[109, 101, 109, 98, 101, 114]⟩, .string ⟨#[105, 110, 104, 101, 114, 105, 116]⟩, .string ⟨#[112, 97, 114, 116]⟩, .string ⟨#[119, 105, 116, 104, 105, 110]⟩, .string ⟨#[97, 108, 108, 111, 119]⟩, .string ⟨#[100, 101, 110, 121]⟩, .string ⟨#[101, 120, 99, 101, 112, 116]⟩] 9)) = X at *
  have e1 := E0.ld.c1
  have e2 := E0.ld.c2
  have new1 := World.new_ne X ⟨b, 1, none⟩ e1
  have KX := hide' E0
  clear E0 cal fal
  have hst : (store ⟨X.heap.size, 12, none⟩ (.float .f64 0)).run Tryz.prog (X.alloc (.cells #[.int .i8 7, .int .i64 ln, .int .i64 cl, .string ⟨#[]⟩, .int .i64 0, .int .i64 0, .string ⟨#[]⟩, .int .i64 0, .int .i64 0, .slice none 0 0, .bool false, .int .i8 0, .float .f64 0] 59)).drew = .ok () ((X.alloc (.cells #[.int .i8 7, .int .i64 ln, .int .i64 cl, .string ⟨#[]⟩, .int .i64 0, .int .i64 0, .string ⟨#[]⟩, .int .i64 0, .int .i64 0, .slice none 0 0, .bool false, .int .i8 0, .float .f64 0] 59)).drew.setCell ⟨X.heap.size, 12, none⟩ (.float .f64 0)) := store_one (u := .float .f64 0) (by rw [Lib.cell_of_heap (w := (X.alloc (.cells #[.int .i8 7, .int .i64 ln, .int .i64 cl, .string ⟨#[]⟩, .int .i64 0, .int .i64 0, .string ⟨#[]⟩, .int .i64 0, .int .i64 0, .slice none 0 0, .bool false, .int .i8 0, .float .f64 0] 59)).drew) (heap_alloc_new X _)]; rfl) (Lib.frozen_of_heap (w := (X.alloc (.cells #[.int .i8 7, .int .i64 ln, .int .i64 cl, .string ⟨#[]⟩, .int .i64 0, .int .i64 0, .string ⟨#[]⟩, .int .i64 0, .int .i64 0, .slice none 0 0, .bool false, .int .i8 0, .float .f64 0] 59)).drew) (heap_alloc_new X _) 12) (by simp [Value.oneCell'])
  go_region_held3 (fun w' => w'.cell? ⟨b, 1, none⟩ = some (.int .i64 ln) ∧ w'.cell? ⟨b, 2, none⟩ = some (.int .i64 cl)) (first | go_keep) (fail)
  rename_i hHeld
  clear hHeld e1 e2 new1 hst
  have E1 := KX.out.go H.out.1 [.int .i8 7, .int .i64 ln, .int .i64 cl, .string ⟨#[]⟩, .int .i64 0, .int .i64 0, .string ⟨#[]⟩, .int .i64 0, .int .i64 0, .slice none 0 0, .bool false, .int .i8 0, .float .f64 0]
  generalize (X.alloc (.cells #[.int .i8 7, .int .i64 ln, .int .i64 cl, .string ⟨#[]⟩, .int .i64 0, .int .i64 0, .string ⟨#[]⟩, .int .i64 0, .int .i64 0, .slice none 0 0, .bool false, .int .i8 0, .float .f64 0] 59)).drew = W0 at *
  generalize X.heap.size = g at *
  have K0 := hide' E1
  clear E1 KX
  have y0 := K0.out.k 6 _ rfl
  go_wp2_with fail
  obtain ⟨m0, hm0⟩ : ∃ x, ln = x := ⟨_, rfl⟩
  obtain ⟨n0, hn0⟩ : ∃ x, cl = x := ⟨_, rfl⟩
  subst hm0 hn0
  refine (put_any 1 ⟨#[105, 110, 104, 101, 114, 105, 116]⟩ K0.out.ld (by have h0 := H.out.2.2.2; (try simp only [List.length_append, List.length_cons, List.length_nil]); omega)).mono ?_
  rintro e W1 ⟨rfl, v1, m1, n1, L, S⟩
  clear y0
  have K1 := hide' (K0.out.call L S)
  clear L S K0
  have b1 := K1.out.c 1 _ rfl
  go_wp2_with fail
  refine (lname_any head K1.out.ld (by have h0 := H.out.2.2.2; (try simp only [List.length_append, List.length_cons, List.length_nil]); omega)).mono ?_
  rintro e W2 ⟨⟨pk, pt, pl, pc⟩, v2, m2, n2, q2, rfl, ht, hn, L, S⟩
  unfold wv R.wdOf
  simp only at ht ⊢
  subst ht
  clear b1
  have K2 := hide' (K1.out.call L S)
  have Hp := hide' hn
  clear L S hn K1
  have y3 := K2.out.d 3 _ rfl
  have f3 := K2.out.f 3
  have y4 := K2.out.d 4 _ rfl
  have f4 := K2.out.f 4
  have y5 := K2.out.d 5 _ rfl
  have f5 := K2.out.f 5
  go_wp2_with fail
  refine (put_any 4 ⟨#[58]⟩ (((K2.out.set 3 (.string pt)).set 4 (.int .i64 pl)).set 5 (.int .i64 pc)).ld (by have h0 := H.out.2.2.2; (try simp only [List.length_append, List.length_cons, List.length_nil]); omega)).mono ?_
  rintro e W3 ⟨rfl, v3, m3, n3, L, S⟩
  clear y3 f3 y4 f4 y5 f5
  have K3 := hide' ((((K2.out.set 3 (.string pt)).set 4 (.int .i64 pl)).set 5 (.int .i64 pc)).call L S)
  clear L S
  have b3 := K3.out.c 3 _ rfl
  go_wp2_with fail
  refine (llist_any names na nc K3.out.ld (H.out.2.1.2.old K3.out.old) H.out.2.1.1 (by have h0 := H.out.2.2.2; (try simp only [List.length_append, List.length_cons, List.length_nil]); omega)).mono ?_
  rintro e W4 ⟨N, ws, vv, v4, m4, n4, q4, rfl, row, hN, hNl, htx, L, S⟩
  clear b3
  obtain ⟨sa, sc, rfl⟩ := row_form row
  have K4 := hide' (K3.out.names L S row)
  have HN := hide' (And.intro hN (And.intro hNl htx))
  clear L S row hN hNl htx K3
  have y9 := K4.out.d 9 _ rfl
  have f9 := K4.out.f 9
  have b6 := (K4.out.set 9 (.slice sa ws.length sc)).c 6 _ rfl
  go_wp2_with fail
  refine (figure_any num _).mono ?_
  rintro e w1 ⟨x, lv, rfl, hv, hxs, hw1⟩
  replace hw1 := hw1.symm
  subst hw1
  have HV := hide' (And.intro hv hxs)
  clear hv hxs
  go_wp2_with fail
  refine (put_any 4 ⟨#[59]⟩ (K4.out.set 9 (.slice sa ws.length sc)).ld (by have h0 := H.out.2.2.2; have h1 := HN.out.2.1; (try simp only [List.length_append, List.length_cons, List.length_nil]); omega)).mono ?_
  rintro e W5 ⟨rfl, v5, m5, n5, L, S⟩
  clear y9 f9 b6
  have K5 := hide' ((K4.out.set 9 (.slice sa ws.length sc)).call L S)
  clear L S
  go_wp2_with (first | (refine wpList_load_row rfl 59 _ rfl g rfl 59 _ _ _ K5.out.cur Tryz.underlying59 rfl (by kernel_rfl) ?_) | (refine wpList_store_row rfl 59 _ _ rfl (w.heap.size + 1) _ rfl rfl 59 _ K5.out.res (by kernel_rfl) rfl (by simp [Value.oneCell']) ?_))
  obtain ⟨k1, r1, t1, o1⟩ := K5.out.fin
  refine bodyPost_ret_by (results_cell_row rfl _ _ (w.heap.size + 1) 59 _ _ _ rfl k1 Tryz.underlying59 rfl (by kernel_rfl)) rfl ?_
  unfold LaidIs
  have hsz := H.out.2.2.1
  simp only [List.append_assoc, List.cons_append, List.nil_append] at r1
  refine ⟨(1, ⟨#[105, 110, 104, 101, 114, 105, 116]⟩, ln, cl) :: (pk, pt, pl, pc) :: (4, ⟨#[58]⟩, m2, n2) :: (N ++ [(4, ⟨#[59]⟩, m4, n4)]), ⟨7, ln, cl, (pt, pl, pc), R.noWd, ws, false, 0, 0⟩, (.slice sa ws.length sc), _, _, _, _, rfl, o1, R.Lay.reads_pair (kw := (1, ⟨#[105, 110, 104, 101, 114, 105, 116]⟩, ln, cl)) (a := (pk, pt, pl, pc)) (c := (4, ⟨#[58]⟩, m2, n2)) (s := (4, ⟨#[59]⟩, m4, n4)) rfl (k := 7) (by kernel_rfl) (by omega) Hp.out (R.Lay.is_of 4 _ _ _ _ rfl) HN.out.1 (R.Lay.is_of 4 _ _ _ _ rfl), ?_, ?_, ?_, r1, t1⟩
  · intro y hy
    simp only [List.mem_append, List.mem_cons, List.not_mem_nil, or_false] at hy
    rcases hy with hy | hy | hy | hy | hy
    · subst hy; simp
    · subst hy; exact nm_five Hp.out
    · subst hy; simp
    · exact nms_five HN.out.1 y hy
    · subst hy; simp
  · simp only [List.length_append, List.length_cons, List.length_nil]
    have := HN.out.2.1; omega
  · intro y hy
    simp only [List.mem_append, List.mem_cons, List.not_mem_nil, or_false] at hy
    rcases hy with hy | hy | hy | hy | hy
    · subst hy; exact of_decide_eq_true rfl
    · subst hy; exact hsz.1
    · subst hy; exact of_decide_eq_true rfl
    · rcases HN.out.2.2 y hy with q | q; exact hsz.2.2.2.2 _ q; omega
    · subst hy; exact of_decide_eq_true rfl
set_option maxRecDepth 100000 in
set_option maxHeartbeats 16000000 in
theorem laid8 {sh : Sh} (h : Ld B b ts v ln cl q w) (hin : sh.In B w) (hsm : sh.Small) (few : ts.length + 2 * sh.names.length + 10 ≤ R.lim) (hP : pik (wrap64 (sh.kind - 1)) 12 = 7) :
    Calls Tryz.prog 22 #[.pointer (some ⟨b, 0, none⟩), .agg sh.cells.toArray] w fun e w' => LaidIs B b ts v sh.names.length w e w' := by
  obtain ⟨kind, head, on, na, names, nc, all, cond, num, quo, line, col⟩ := sh
  unfold Sh.Small at hsm
  unfold Sh.cells
  simp only at hP hsm few ⊢
  have c3 := h.c3
  have lt := h.lt
  have f3 := h.f 3
  have HP := hide' (fun w => pick_any (wrap64 (kind - 1)) 12 w ⟨by decide, by decide⟩)
  rw [hP] at HP
  have cal : ∀ o o', ((w.alloc o).alloc o').cell? ⟨b, 3, none⟩ = some (.int .i64 q) := fun o o' => (World.cell?_of_block (w := w) ((Below.heap_alloc _ _ _ (by simp; omega)).trans (Below.heap_alloc _ _ _ lt))).trans c3
  have fal : ∀ o o', ((w.alloc o).alloc o').frozen? ⟨b, 3, none⟩ = false := fun o o' => (World.frozen?_of_block (w := w) ((Below.heap_alloc _ _ _ (by simp; omega)).trans (Below.heap_alloc _ _ _ lt))).trans f3
  have H := hide' (And.intro h (And.intro hin (And.intro hsm few)))
  clear h hin hsm few hP c3 f3
  go_enter Tryz.func22, Tryz.ntmps22
  go_wp2_with fail
  refine (HP.out _).mono ?_
  rintro e w1 ⟨rfl, hw1⟩
  replace hw1 := hw1.symm
  subst hw1
  clear HP
  go_wp2_with fail
  have E0 := L0.start H.out.1 ⟨kind, head, on, na, names, nc, all, cond, num, quo, line, col⟩
  unfold Sh.cells dz kws at E0
  simp only at E0
  generalize ((((w.setCell ⟨b, 3, none⟩ (.int .i64 quo)).alloc (.cells #[.int .i64 kind, .string head, .string on, .slice na names.length nc, .bool all, .int .i64 cond, .string num, .int .i64 quo, .int .i64 line, .int .i64 col] 53)).alloc (.cells #[.int .i8 0, .int .i64 0, .int .i64 0, .string ⟨#[]⟩, .int .i64 0, .int .i64 0, .string ⟨#[]⟩, .int .i64 0, .int .i64 0, .slice none 0 0, .bool false, .int .i8 0, .float .f64 0] 59)).alloc (.cells #[.string ⟨#[97, 99, 116, 105, 111, 110]⟩, .string ⟨#[115, 117, 98, 106, 101, 99, 116]⟩, .string ⟨#[114, 111, 108, 101]⟩, .string ⟨#[111, 98, 106, 101, 99, 116]⟩, .string ⟨#[103, 114, 111, 117, 112]⟩, .string ⟨#[109, 101, 109, 98, 101, 114]⟩, .string ⟨#[105, 110, 104, 101, 114, 105, 116]⟩, .string ⟨#[112, 97, 114, 116]⟩, .string ⟨#[119, 105, 116, 104, 105, 110]⟩, .string ⟨#[97, 108, 108, 111, 119]⟩, .string ⟨#[100, 101, 110, 121]⟩, .string ⟨#[101, 120, 99, 101, 112, 116]⟩] 9)) = X at *
  have e1 := E0.ld.c1
  have e2 := E0.ld.c2
  have new1 := World.new_ne X ⟨b, 1, none⟩ e1
  have KX := hide' E0
  clear E0 cal fal
  have hst : (store ⟨X.heap.size, 12, none⟩ (.float .f64 0)).run Tryz.prog (X.alloc (.cells #[.int .i8 8, .int .i64 ln, .int .i64 cl, .string ⟨#[]⟩, .int .i64 0, .int .i64 0, .string ⟨#[]⟩, .int .i64 0, .int .i64 0, .slice none 0 0, .bool false, .int .i8 0, .float .f64 0] 59)).drew = .ok () ((X.alloc (.cells #[.int .i8 8, .int .i64 ln, .int .i64 cl, .string ⟨#[]⟩, .int .i64 0, .int .i64 0, .string ⟨#[]⟩, .int .i64 0, .int .i64 0, .slice none 0 0, .bool false, .int .i8 0, .float .f64 0] 59)).drew.setCell ⟨X.heap.size, 12, none⟩ (.float .f64 0)) := store_one (u := .float .f64 0) (by rw [Lib.cell_of_heap (w := (X.alloc (.cells #[.int .i8 8, .int .i64 ln, .int .i64 cl, .string ⟨#[]⟩, .int .i64 0, .int .i64 0, .string ⟨#[]⟩, .int .i64 0, .int .i64 0, .slice none 0 0, .bool false, .int .i8 0, .float .f64 0] 59)).drew) (heap_alloc_new X _)]; rfl) (Lib.frozen_of_heap (w := (X.alloc (.cells #[.int .i8 8, .int .i64 ln, .int .i64 cl, .string ⟨#[]⟩, .int .i64 0, .int .i64 0, .string ⟨#[]⟩, .int .i64 0, .int .i64 0, .slice none 0 0, .bool false, .int .i8 0, .float .f64 0] 59)).drew) (heap_alloc_new X _) 12) (by simp [Value.oneCell'])
  go_region_held3 (fun w' => w'.cell? ⟨b, 1, none⟩ = some (.int .i64 ln) ∧ w'.cell? ⟨b, 2, none⟩ = some (.int .i64 cl)) (first | go_keep) (fail)
  rename_i hHeld
  clear hHeld e1 e2 new1 hst
  have E1 := KX.out.go H.out.1 [.int .i8 8, .int .i64 ln, .int .i64 cl, .string ⟨#[]⟩, .int .i64 0, .int .i64 0, .string ⟨#[]⟩, .int .i64 0, .int .i64 0, .slice none 0 0, .bool false, .int .i8 0, .float .f64 0]
  generalize (X.alloc (.cells #[.int .i8 8, .int .i64 ln, .int .i64 cl, .string ⟨#[]⟩, .int .i64 0, .int .i64 0, .string ⟨#[]⟩, .int .i64 0, .int .i64 0, .slice none 0 0, .bool false, .int .i8 0, .float .f64 0] 59)).drew = W0 at *
  generalize X.heap.size = g at *
  have K0 := hide' E1
  clear E1 KX
  have y0 := K0.out.k 7 _ rfl
  go_wp2_with fail
  obtain ⟨m0, hm0⟩ : ∃ x, ln = x := ⟨_, rfl⟩
  obtain ⟨n0, hn0⟩ : ∃ x, cl = x := ⟨_, rfl⟩
  subst hm0 hn0
  refine (put_any 1 ⟨#[112, 97, 114, 116]⟩ K0.out.ld (by have h0 := H.out.2.2.2; (try simp only [List.length_append, List.length_cons, List.length_nil]); omega)).mono ?_
  rintro e W1 ⟨rfl, v1, m1, n1, L, S⟩
  clear y0
  have K1 := hide' (K0.out.call L S)
  clear L S K0
  have b1 := K1.out.c 1 _ rfl
  go_wp2_with fail
  refine (lname_any head K1.out.ld (by have h0 := H.out.2.2.2; (try simp only [List.length_append, List.length_cons, List.length_nil]); omega)).mono ?_
  rintro e W2 ⟨⟨pk, pt, pl, pc⟩, v2, m2, n2, q2, rfl, ht, hn, L, S⟩
  unfold wv R.wdOf
  simp only at ht ⊢
  subst ht
  clear b1
  have K2 := hide' (K1.out.call L S)
  have Hp := hide' hn
  clear L S hn K1
  have y3 := K2.out.d 3 _ rfl
  have f3 := K2.out.f 3
  have y4 := K2.out.d 4 _ rfl
  have f4 := K2.out.f 4
  have y5 := K2.out.d 5 _ rfl
  have f5 := K2.out.f 5
  go_wp2_with fail
  refine (put_any 4 ⟨#[58]⟩ (((K2.out.set 3 (.string pt)).set 4 (.int .i64 pl)).set 5 (.int .i64 pc)).ld (by have h0 := H.out.2.2.2; (try simp only [List.length_append, List.length_cons, List.length_nil]); omega)).mono ?_
  rintro e W3 ⟨rfl, v3, m3, n3, L, S⟩
  clear y3 f3 y4 f4 y5 f5
  have K3 := hide' ((((K2.out.set 3 (.string pt)).set 4 (.int .i64 pl)).set 5 (.int .i64 pc)).call L S)
  clear L S
  have b3 := K3.out.c 3 _ rfl
  go_wp2_with fail
  refine (llist_any names na nc K3.out.ld (H.out.2.1.2.old K3.out.old) H.out.2.1.1 (by have h0 := H.out.2.2.2; (try simp only [List.length_append, List.length_cons, List.length_nil]); omega)).mono ?_
  rintro e W4 ⟨N, ws, vv, v4, m4, n4, q4, rfl, row, hN, hNl, htx, L, S⟩
  clear b3
  obtain ⟨sa, sc, rfl⟩ := row_form row
  have K4 := hide' (K3.out.names L S row)
  have HN := hide' (And.intro hN (And.intro hNl htx))
  clear L S row hN hNl htx K3
  have y9 := K4.out.d 9 _ rfl
  have f9 := K4.out.f 9
  have b6 := (K4.out.set 9 (.slice sa ws.length sc)).c 6 _ rfl
  go_wp2_with fail
  refine (figure_any num _).mono ?_
  rintro e w1 ⟨x, lv, rfl, hv, hxs, hw1⟩
  replace hw1 := hw1.symm
  subst hw1
  have HV := hide' (And.intro hv hxs)
  clear hv hxs
  go_wp2_with fail
  refine (put_any 4 ⟨#[59]⟩ (K4.out.set 9 (.slice sa ws.length sc)).ld (by have h0 := H.out.2.2.2; have h1 := HN.out.2.1; (try simp only [List.length_append, List.length_cons, List.length_nil]); omega)).mono ?_
  rintro e W5 ⟨rfl, v5, m5, n5, L, S⟩
  clear y9 f9 b6
  have K5 := hide' ((K4.out.set 9 (.slice sa ws.length sc)).call L S)
  clear L S
  go_wp2_with (first | (refine wpList_load_row rfl 59 _ rfl g rfl 59 _ _ _ K5.out.cur Tryz.underlying59 rfl (by kernel_rfl) ?_) | (refine wpList_store_row rfl 59 _ _ rfl (w.heap.size + 1) _ rfl rfl 59 _ K5.out.res (by kernel_rfl) rfl (by simp [Value.oneCell']) ?_))
  obtain ⟨k1, r1, t1, o1⟩ := K5.out.fin
  refine bodyPost_ret_by (results_cell_row rfl _ _ (w.heap.size + 1) 59 _ _ _ rfl k1 Tryz.underlying59 rfl (by kernel_rfl)) rfl ?_
  unfold LaidIs
  have hsz := H.out.2.2.1
  simp only [List.append_assoc, List.cons_append, List.nil_append] at r1
  refine ⟨(1, ⟨#[112, 97, 114, 116]⟩, ln, cl) :: (pk, pt, pl, pc) :: (4, ⟨#[58]⟩, m2, n2) :: (N ++ [(4, ⟨#[59]⟩, m4, n4)]), ⟨8, ln, cl, (pt, pl, pc), R.noWd, ws, false, 0, 0⟩, (.slice sa ws.length sc), _, _, _, _, rfl, o1, R.Lay.reads_pair (kw := (1, ⟨#[112, 97, 114, 116]⟩, ln, cl)) (a := (pk, pt, pl, pc)) (c := (4, ⟨#[58]⟩, m2, n2)) (s := (4, ⟨#[59]⟩, m4, n4)) rfl (k := 8) (by kernel_rfl) (by omega) Hp.out (R.Lay.is_of 4 _ _ _ _ rfl) HN.out.1 (R.Lay.is_of 4 _ _ _ _ rfl), ?_, ?_, ?_, r1, t1⟩
  · intro y hy
    simp only [List.mem_append, List.mem_cons, List.not_mem_nil, or_false] at hy
    rcases hy with hy | hy | hy | hy | hy
    · subst hy; simp
    · subst hy; exact nm_five Hp.out
    · subst hy; simp
    · exact nms_five HN.out.1 y hy
    · subst hy; simp
  · simp only [List.length_append, List.length_cons, List.length_nil]
    have := HN.out.2.1; omega
  · intro y hy
    simp only [List.mem_append, List.mem_cons, List.not_mem_nil, or_false] at hy
    rcases hy with hy | hy | hy | hy | hy
    · subst hy; exact of_decide_eq_true rfl
    · subst hy; exact hsz.1
    · subst hy; exact of_decide_eq_true rfl
    · rcases HN.out.2.2 y hy with q | q; exact hsz.2.2.2.2 _ q; omega
    · subst hy; exact of_decide_eq_true rfl
set_option maxRecDepth 100000 in
set_option maxHeartbeats 16000000 in
theorem laid9 {sh : Sh} (h : Ld B b ts v ln cl q w) (hin : sh.In B w) (hsm : sh.Small) (few : ts.length + 2 * sh.names.length + 10 ≤ R.lim) (hP : pik (wrap64 (sh.kind - 1)) 12 = 8) :
    Calls Tryz.prog 22 #[.pointer (some ⟨b, 0, none⟩), .agg sh.cells.toArray] w fun e w' => LaidIs B b ts v sh.names.length w e w' := by
  obtain ⟨kind, head, on, na, names, nc, all, cond, num, quo, line, col⟩ := sh
  unfold Sh.Small at hsm
  unfold Sh.cells
  simp only at hP hsm few ⊢
  have c3 := h.c3
  have lt := h.lt
  have f3 := h.f 3
  have HP := hide' (fun w => pick_any (wrap64 (kind - 1)) 12 w ⟨by decide, by decide⟩)
  rw [hP] at HP
  have cal : ∀ o o', ((w.alloc o).alloc o').cell? ⟨b, 3, none⟩ = some (.int .i64 q) := fun o o' => (World.cell?_of_block (w := w) ((Below.heap_alloc _ _ _ (by simp; omega)).trans (Below.heap_alloc _ _ _ lt))).trans c3
  have fal : ∀ o o', ((w.alloc o).alloc o').frozen? ⟨b, 3, none⟩ = false := fun o o' => (World.frozen?_of_block (w := w) ((Below.heap_alloc _ _ _ (by simp; omega)).trans (Below.heap_alloc _ _ _ lt))).trans f3
  have H := hide' (And.intro h (And.intro hin (And.intro hsm few)))
  clear h hin hsm few hP c3 f3
  go_enter Tryz.func22, Tryz.ntmps22
  go_wp2_with fail
  refine (HP.out _).mono ?_
  rintro e w1 ⟨rfl, hw1⟩
  replace hw1 := hw1.symm
  subst hw1
  clear HP
  go_wp2_with fail
  have E0 := L0.start H.out.1 ⟨kind, head, on, na, names, nc, all, cond, num, quo, line, col⟩
  unfold Sh.cells dz kws at E0
  simp only at E0
  generalize ((((w.setCell ⟨b, 3, none⟩ (.int .i64 quo)).alloc (.cells #[.int .i64 kind, .string head, .string on, .slice na names.length nc, .bool all, .int .i64 cond, .string num, .int .i64 quo, .int .i64 line, .int .i64 col] 53)).alloc (.cells #[.int .i8 0, .int .i64 0, .int .i64 0, .string ⟨#[]⟩, .int .i64 0, .int .i64 0, .string ⟨#[]⟩, .int .i64 0, .int .i64 0, .slice none 0 0, .bool false, .int .i8 0, .float .f64 0] 59)).alloc (.cells #[.string ⟨#[97, 99, 116, 105, 111, 110]⟩, .string ⟨#[115, 117, 98, 106, 101, 99, 116]⟩, .string ⟨#[114, 111, 108, 101]⟩, .string ⟨#[111, 98, 106, 101, 99, 116]⟩, .string ⟨#[103, 114, 111, 117, 112]⟩, .string ⟨#[109, 101, 109, 98, 101, 114]⟩, .string ⟨#[105, 110, 104, 101, 114, 105, 116]⟩, .string ⟨#[112, 97, 114, 116]⟩, .string ⟨#[119, 105, 116, 104, 105, 110]⟩, .string ⟨#[97, 108, 108, 111, 119]⟩, .string ⟨#[100, 101, 110, 121]⟩, .string ⟨#[101, 120, 99, 101, 112, 116]⟩] 9)) = X at *
  have e1 := E0.ld.c1
  have e2 := E0.ld.c2
  have new1 := World.new_ne X ⟨b, 1, none⟩ e1
  have KX := hide' E0
  clear E0 cal fal
  have hst : (store ⟨X.heap.size, 12, none⟩ (.float .f64 0)).run Tryz.prog (X.alloc (.cells #[.int .i8 9, .int .i64 ln, .int .i64 cl, .string ⟨#[]⟩, .int .i64 0, .int .i64 0, .string ⟨#[]⟩, .int .i64 0, .int .i64 0, .slice none 0 0, .bool false, .int .i8 0, .float .f64 0] 59)).drew = .ok () ((X.alloc (.cells #[.int .i8 9, .int .i64 ln, .int .i64 cl, .string ⟨#[]⟩, .int .i64 0, .int .i64 0, .string ⟨#[]⟩, .int .i64 0, .int .i64 0, .slice none 0 0, .bool false, .int .i8 0, .float .f64 0] 59)).drew.setCell ⟨X.heap.size, 12, none⟩ (.float .f64 0)) := store_one (u := .float .f64 0) (by rw [Lib.cell_of_heap (w := (X.alloc (.cells #[.int .i8 9, .int .i64 ln, .int .i64 cl, .string ⟨#[]⟩, .int .i64 0, .int .i64 0, .string ⟨#[]⟩, .int .i64 0, .int .i64 0, .slice none 0 0, .bool false, .int .i8 0, .float .f64 0] 59)).drew) (heap_alloc_new X _)]; rfl) (Lib.frozen_of_heap (w := (X.alloc (.cells #[.int .i8 9, .int .i64 ln, .int .i64 cl, .string ⟨#[]⟩, .int .i64 0, .int .i64 0, .string ⟨#[]⟩, .int .i64 0, .int .i64 0, .slice none 0 0, .bool false, .int .i8 0, .float .f64 0] 59)).drew) (heap_alloc_new X _) 12) (by simp [Value.oneCell'])
  go_region_held3 (fun w' => w'.cell? ⟨b, 1, none⟩ = some (.int .i64 ln) ∧ w'.cell? ⟨b, 2, none⟩ = some (.int .i64 cl)) (first | go_keep) (fail)
  rename_i hHeld
  clear hHeld e1 e2 new1 hst
  have E1 := KX.out.go H.out.1 [.int .i8 9, .int .i64 ln, .int .i64 cl, .string ⟨#[]⟩, .int .i64 0, .int .i64 0, .string ⟨#[]⟩, .int .i64 0, .int .i64 0, .slice none 0 0, .bool false, .int .i8 0, .float .f64 0]
  generalize (X.alloc (.cells #[.int .i8 9, .int .i64 ln, .int .i64 cl, .string ⟨#[]⟩, .int .i64 0, .int .i64 0, .string ⟨#[]⟩, .int .i64 0, .int .i64 0, .slice none 0 0, .bool false, .int .i8 0, .float .f64 0] 59)).drew = W0 at *
  generalize X.heap.size = g at *
  have K0 := hide' E1
  clear E1 KX
  have y0 := K0.out.k 8 _ rfl
  go_wp2_with fail
  obtain ⟨m0, hm0⟩ : ∃ x, ln = x := ⟨_, rfl⟩
  obtain ⟨n0, hn0⟩ : ∃ x, cl = x := ⟨_, rfl⟩
  subst hm0 hn0
  refine (put_any 1 ⟨#[119, 105, 116, 104, 105, 110]⟩ K0.out.ld (by have h0 := H.out.2.2.2; (try simp only [List.length_append, List.length_cons, List.length_nil]); omega)).mono ?_
  rintro e W1 ⟨rfl, v1, m1, n1, L, S⟩
  clear y0
  have K1 := hide' (K0.out.call L S)
  clear L S K0
  have b1 := K1.out.c 1 _ rfl
  go_wp2_with fail
  refine (lname_any head K1.out.ld (by have h0 := H.out.2.2.2; (try simp only [List.length_append, List.length_cons, List.length_nil]); omega)).mono ?_
  rintro e W2 ⟨⟨pk, pt, pl, pc⟩, v2, m2, n2, q2, rfl, ht, hn, L, S⟩
  unfold wv R.wdOf
  simp only at ht ⊢
  subst ht
  clear b1
  have K2 := hide' (K1.out.call L S)
  have Hp := hide' hn
  clear L S hn K1
  have y3 := K2.out.d 3 _ rfl
  have f3 := K2.out.f 3
  have y4 := K2.out.d 4 _ rfl
  have f4 := K2.out.f 4
  have y5 := K2.out.d 5 _ rfl
  have f5 := K2.out.f 5
  go_wp2_with fail
  refine (put_any 4 ⟨#[58]⟩ (((K2.out.set 3 (.string pt)).set 4 (.int .i64 pl)).set 5 (.int .i64 pc)).ld (by have h0 := H.out.2.2.2; (try simp only [List.length_append, List.length_cons, List.length_nil]); omega)).mono ?_
  rintro e W3 ⟨rfl, v3, m3, n3, L, S⟩
  clear y3 f3 y4 f4 y5 f5
  have K3 := hide' ((((K2.out.set 3 (.string pt)).set 4 (.int .i64 pl)).set 5 (.int .i64 pc)).call L S)
  clear L S
  have b3 := K3.out.c 3 _ rfl
  go_wp2_with fail
  refine (llist_any names na nc K3.out.ld (H.out.2.1.2.old K3.out.old) H.out.2.1.1 (by have h0 := H.out.2.2.2; (try simp only [List.length_append, List.length_cons, List.length_nil]); omega)).mono ?_
  rintro e W4 ⟨N, ws, vv, v4, m4, n4, q4, rfl, row, hN, hNl, htx, L, S⟩
  clear b3
  obtain ⟨sa, sc, rfl⟩ := row_form row
  have K4 := hide' (K3.out.names L S row)
  have HN := hide' (And.intro hN (And.intro hNl htx))
  clear L S row hN hNl htx K3
  have y9 := K4.out.d 9 _ rfl
  have f9 := K4.out.f 9
  have b6 := (K4.out.set 9 (.slice sa ws.length sc)).c 6 _ rfl
  go_wp2_with fail
  refine (figure_any num _).mono ?_
  rintro e w1 ⟨x, lv, rfl, hv, hxs, hw1⟩
  replace hw1 := hw1.symm
  subst hw1
  have HV := hide' (And.intro hv hxs)
  clear hv hxs
  go_wp2_with fail
  refine (put_any 4 ⟨#[59]⟩ (K4.out.set 9 (.slice sa ws.length sc)).ld (by have h0 := H.out.2.2.2; have h1 := HN.out.2.1; (try simp only [List.length_append, List.length_cons, List.length_nil]); omega)).mono ?_
  rintro e W5 ⟨rfl, v5, m5, n5, L, S⟩
  clear y9 f9 b6
  have K5 := hide' ((K4.out.set 9 (.slice sa ws.length sc)).call L S)
  clear L S
  go_wp2_with (first | (refine wpList_load_row rfl 59 _ rfl g rfl 59 _ _ _ K5.out.cur Tryz.underlying59 rfl (by kernel_rfl) ?_) | (refine wpList_store_row rfl 59 _ _ rfl (w.heap.size + 1) _ rfl rfl 59 _ K5.out.res (by kernel_rfl) rfl (by simp [Value.oneCell']) ?_))
  obtain ⟨k1, r1, t1, o1⟩ := K5.out.fin
  refine bodyPost_ret_by (results_cell_row rfl _ _ (w.heap.size + 1) 59 _ _ _ rfl k1 Tryz.underlying59 rfl (by kernel_rfl)) rfl ?_
  unfold LaidIs
  have hsz := H.out.2.2.1
  simp only [List.append_assoc, List.cons_append, List.nil_append] at r1
  refine ⟨(1, ⟨#[119, 105, 116, 104, 105, 110]⟩, ln, cl) :: (pk, pt, pl, pc) :: (4, ⟨#[58]⟩, m2, n2) :: (N ++ [(4, ⟨#[59]⟩, m4, n4)]), ⟨9, ln, cl, (pt, pl, pc), R.noWd, ws, false, 0, 0⟩, (.slice sa ws.length sc), _, _, _, _, rfl, o1, R.Lay.reads_pair (kw := (1, ⟨#[119, 105, 116, 104, 105, 110]⟩, ln, cl)) (a := (pk, pt, pl, pc)) (c := (4, ⟨#[58]⟩, m2, n2)) (s := (4, ⟨#[59]⟩, m4, n4)) rfl (k := 9) (by kernel_rfl) (by omega) Hp.out (R.Lay.is_of 4 _ _ _ _ rfl) HN.out.1 (R.Lay.is_of 4 _ _ _ _ rfl), ?_, ?_, ?_, r1, t1⟩
  · intro y hy
    simp only [List.mem_append, List.mem_cons, List.not_mem_nil, or_false] at hy
    rcases hy with hy | hy | hy | hy | hy
    · subst hy; simp
    · subst hy; exact nm_five Hp.out
    · subst hy; simp
    · exact nms_five HN.out.1 y hy
    · subst hy; simp
  · simp only [List.length_append, List.length_cons, List.length_nil]
    have := HN.out.2.1; omega
  · intro y hy
    simp only [List.mem_append, List.mem_cons, List.not_mem_nil, or_false] at hy
    rcases hy with hy | hy | hy | hy | hy
    · subst hy; exact of_decide_eq_true rfl
    · subst hy; exact hsz.1
    · subst hy; exact of_decide_eq_true rfl
    · rcases HN.out.2.2 y hy with q | q; exact hsz.2.2.2.2 _ q; omega
    · subst hy; exact of_decide_eq_true rfl
end Go.Proofs.YtfgblchnnhdlnaaGreatDoor
set_option linter.unusedVariables false
set_option linter.unusedSimpArgs false
namespace Go.Proofs.YtfgblchnnhdlnaaGreatDoor
open Go.RowKit
variable {B b : Nat} {ts : List R.Tok} {v v' v'' : Value} {ln cl q : Int} {w w' w'' : World}
set_option maxRecDepth 100000 in
set_option maxHeartbeats 16000000 in
theorem laid12 {sh : Sh} (h : Ld B b ts v ln cl q w) (hin : sh.In B w) (hsm : sh.Small) (few : ts.length + 2 * sh.names.length + 10 ≤ R.lim) (hP : pik (wrap64 (sh.kind - 1)) 12 = 11) :
    Calls Tryz.prog 22 #[.pointer (some ⟨b, 0, none⟩), .agg sh.cells.toArray] w fun e w' => LaidIs B b ts v sh.names.length w e w' := by
  obtain ⟨kind, head, on, na, names, nc, all, cond, num, quo, line, col⟩ := sh
  unfold Sh.Small at hsm
  unfold Sh.cells
  simp only at hP hsm few ⊢
  have c3 := h.c3
  have lt := h.lt
  have f3 := h.f 3
  have HP := hide' (fun w => pick_any (wrap64 (kind - 1)) 12 w ⟨by decide, by decide⟩)
  rw [hP] at HP
  have cal : ∀ o o', ((w.alloc o).alloc o').cell? ⟨b, 3, none⟩ = some (.int .i64 q) := fun o o' => (World.cell?_of_block (w := w) ((Below.heap_alloc _ _ _ (by simp; omega)).trans (Below.heap_alloc _ _ _ lt))).trans c3
  have fal : ∀ o o', ((w.alloc o).alloc o').frozen? ⟨b, 3, none⟩ = false := fun o o' => (World.frozen?_of_block (w := w) ((Below.heap_alloc _ _ _ (by simp; omega)).trans (Below.heap_alloc _ _ _ lt))).trans f3
  have H := hide' (And.intro h (And.intro hin (And.intro hsm few)))
  clear h hin hsm few hP c3 f3
  go_enter Tryz.func22, Tryz.ntmps22
  go_wp2_with fail
  refine (HP.out _).mono ?_
  rintro e w1 ⟨rfl, hw1⟩
  replace hw1 := hw1.symm
  subst hw1
  clear HP
  go_wp2_with fail
  have E0 := L0.start H.out.1 ⟨kind, head, on, na, names, nc, all, cond, num, quo, line, col⟩
  unfold Sh.cells dz kws at E0
  simp only at E0
  generalize ((((w.setCell ⟨b, 3, none⟩ (.int .i64 quo)).alloc (.cells #[.int .i64 kind, .string head, .string on, .slice na names.length nc, .bool all, .int .i64 cond, .string num, .int .i64 quo, .int .i64 line, .int .i64 col] 53)).alloc (.cells #[.int .i8 0, .int .i64 0, .int .i64 0, .string ⟨#[]⟩, .int .i64 0, .int .i64 0, .string ⟨#[]⟩, .int .i64 0, .int .i64 0, .slice none 0 0, .bool false, .int .i8 0, .float .f64 0] 59)).alloc (.cells #[.string ⟨#[97, 99, 116, 105, 111, 110]⟩, .string ⟨#[115, 117, 98, 106, 101, 99, 116]⟩, .string ⟨#[114, 111, 108, 101]⟩, .string ⟨#[111, 98, 106, 101, 99, 116]⟩, .string ⟨#[103, 114, 111, 117, 112]⟩, .string ⟨#[109, 101, 109, 98, 101, 114]⟩, .string ⟨#[105, 110, 104, 101, 114, 105, 116]⟩, .string ⟨#[112, 97, 114, 116]⟩, .string ⟨#[119, 105, 116, 104, 105, 110]⟩, .string ⟨#[97, 108, 108, 111, 119]⟩, .string ⟨#[100, 101, 110, 121]⟩, .string ⟨#[101, 120, 99, 101, 112, 116]⟩] 9)) = X at *
  have e1 := E0.ld.c1
  have e2 := E0.ld.c2
  have new1 := World.new_ne X ⟨b, 1, none⟩ e1
  have KX := hide' E0
  clear E0 cal fal
  have hst : (store ⟨X.heap.size, 12, none⟩ (.float .f64 0)).run Tryz.prog (X.alloc (.cells #[.int .i8 12, .int .i64 ln, .int .i64 cl, .string ⟨#[]⟩, .int .i64 0, .int .i64 0, .string ⟨#[]⟩, .int .i64 0, .int .i64 0, .slice none 0 0, .bool false, .int .i8 0, .float .f64 0] 59)).drew = .ok () ((X.alloc (.cells #[.int .i8 12, .int .i64 ln, .int .i64 cl, .string ⟨#[]⟩, .int .i64 0, .int .i64 0, .string ⟨#[]⟩, .int .i64 0, .int .i64 0, .slice none 0 0, .bool false, .int .i8 0, .float .f64 0] 59)).drew.setCell ⟨X.heap.size, 12, none⟩ (.float .f64 0)) := store_one (u := .float .f64 0) (by rw [Lib.cell_of_heap (w := (X.alloc (.cells #[.int .i8 12, .int .i64 ln, .int .i64 cl, .string ⟨#[]⟩, .int .i64 0, .int .i64 0, .string ⟨#[]⟩, .int .i64 0, .int .i64 0, .slice none 0 0, .bool false, .int .i8 0, .float .f64 0] 59)).drew) (heap_alloc_new X _)]; rfl) (Lib.frozen_of_heap (w := (X.alloc (.cells #[.int .i8 12, .int .i64 ln, .int .i64 cl, .string ⟨#[]⟩, .int .i64 0, .int .i64 0, .string ⟨#[]⟩, .int .i64 0, .int .i64 0, .slice none 0 0, .bool false, .int .i8 0, .float .f64 0] 59)).drew) (heap_alloc_new X _) 12) (by simp [Value.oneCell'])
  go_region_held3 (fun w' => w'.cell? ⟨b, 1, none⟩ = some (.int .i64 ln) ∧ w'.cell? ⟨b, 2, none⟩ = some (.int .i64 cl)) (first | go_keep) (fail)
  rename_i hHeld
  clear hHeld e1 e2 new1 hst
  have E1 := KX.out.go H.out.1 [.int .i8 12, .int .i64 ln, .int .i64 cl, .string ⟨#[]⟩, .int .i64 0, .int .i64 0, .string ⟨#[]⟩, .int .i64 0, .int .i64 0, .slice none 0 0, .bool false, .int .i8 0, .float .f64 0]
  generalize (X.alloc (.cells #[.int .i8 12, .int .i64 ln, .int .i64 cl, .string ⟨#[]⟩, .int .i64 0, .int .i64 0, .string ⟨#[]⟩, .int .i64 0, .int .i64 0, .slice none 0 0, .bool false, .int .i8 0, .float .f64 0] 59)).drew = W0 at *
  generalize X.heap.size = g at *
  have K0 := hide' E1
  clear E1 KX
  have y0 := K0.out.k 11 _ rfl
  go_wp2_with fail
  obtain ⟨m0, hm0⟩ : ∃ x, ln = x := ⟨_, rfl⟩
  obtain ⟨n0, hn0⟩ : ∃ x, cl = x := ⟨_, rfl⟩
  subst hm0 hn0
  refine (put_any 1 ⟨#[101, 120, 99, 101, 112, 116]⟩ K0.out.ld (by have h0 := H.out.2.2.2; (try simp only [List.length_append, List.length_cons, List.length_nil]); omega)).mono ?_
  rintro e W1 ⟨rfl, v1, m1, n1, L, S⟩
  clear y0
  have K1 := hide' (K0.out.call L S)
  clear L S K0
  have b1 := K1.out.c 1 _ rfl
  go_wp2_with fail
  refine (lname_any head K1.out.ld (by have h0 := H.out.2.2.2; (try simp only [List.length_append, List.length_cons, List.length_nil]); omega)).mono ?_
  rintro e W2 ⟨⟨pk, pt, pl, pc⟩, v2, m2, n2, q2, rfl, ht, hn, L, S⟩
  unfold wv R.wdOf
  simp only at ht ⊢
  subst ht
  clear b1
  have K2 := hide' (K1.out.call L S)
  have Hp := hide' hn
  clear L S hn K1
  have y3 := K2.out.d 3 _ rfl
  have f3 := K2.out.f 3
  have y4 := K2.out.d 4 _ rfl
  have f4 := K2.out.f 4
  have y5 := K2.out.d 5 _ rfl
  have f5 := K2.out.f 5
  go_wp2_with fail
  refine (put_any 1 ⟨#[111, 110]⟩ (((K2.out.set 3 (.string pt)).set 4 (.int .i64 pl)).set 5 (.int .i64 pc)).ld (by have h0 := H.out.2.2.2; (try simp only [List.length_append, List.length_cons, List.length_nil]); omega)).mono ?_
  rintro e W3 ⟨rfl, v3, m3, n3, L, S⟩
  clear y3 f3 y4 f4 y5 f5
  have K3 := hide' ((((K2.out.set 3 (.string pt)).set 4 (.int .i64 pl)).set 5 (.int .i64 pc)).call L S)
  clear L S
  have b2 := K3.out.c 2 _ rfl
  go_wp2_with fail
  refine (lname_any on K3.out.ld (by have h0 := H.out.2.2.2; (try simp only [List.length_append, List.length_cons, List.length_nil]); omega)).mono ?_
  rintro e W4 ⟨⟨rk, rt, rl, rc⟩, v4, m4, n4, q4, rfl, ht, hn, L, S⟩
  unfold wv R.wdOf
  simp only at ht ⊢
  subst ht
  clear b2
  have K4 := hide' (K3.out.call L S)
  have Hr := hide' hn
  clear L S hn K3
  have y6 := K4.out.d 6 _ rfl
  have f6 := K4.out.f 6
  have y7 := K4.out.d 7 _ rfl
  have f7 := K4.out.f 7
  have y8 := K4.out.d 8 _ rfl
  have f8 := K4.out.f 8
  go_wp2_with fail
  refine (put_any 4 ⟨#[58]⟩ (((K4.out.set 6 (.string rt)).set 7 (.int .i64 rl)).set 8 (.int .i64 rc)).ld (by have h0 := H.out.2.2.2; (try simp only [List.length_append, List.length_cons, List.length_nil]); omega)).mono ?_
  rintro e W5 ⟨rfl, v5, m5, n5, L, S⟩
  clear y6 f6 y7 f7 y8 f8
  have K5 := hide' ((((K4.out.set 6 (.string rt)).set 7 (.int .i64 rl)).set 8 (.int .i64 rc)).call L S)
  clear L S
  have b3 := K5.out.c 3 _ rfl
  go_wp2_with fail
  refine (llist_any names na nc K5.out.ld (H.out.2.1.2.old K5.out.old) H.out.2.1.1 (by have h0 := H.out.2.2.2; (try simp only [List.length_append, List.length_cons, List.length_nil]); omega)).mono ?_
  rintro e W6 ⟨N, ws, vv, v6, m6, n6, q6, rfl, row, hN, hNl, htx, L, S⟩
  clear b3
  obtain ⟨sa, sc, rfl⟩ := row_form row
  have K6 := hide' (K5.out.names L S row)
  have HN := hide' (And.intro hN (And.intro hNl htx))
  clear L S row hN hNl htx K5
  have y9 := K6.out.d 9 _ rfl
  have f9 := K6.out.f 9
  have b6 := (K6.out.set 9 (.slice sa ws.length sc)).c 6 _ rfl
  go_wp2_with fail
  refine (figure_any num _).mono ?_
  rintro e w1 ⟨x, lv, rfl, hv, hxs, hw1⟩
  replace hw1 := hw1.symm
  subst hw1
  have HV := hide' (And.intro hv hxs)
  clear hv hxs
  go_wp2_with fail
  refine (put_any 4 ⟨#[59]⟩ (K6.out.set 9 (.slice sa ws.length sc)).ld (by have h0 := H.out.2.2.2; have h1 := HN.out.2.1; (try simp only [List.length_append, List.length_cons, List.length_nil]); omega)).mono ?_
  rintro e W7 ⟨rfl, v7, m7, n7, L, S⟩
  clear y9 f9 b6
  have K7 := hide' ((K6.out.set 9 (.slice sa ws.length sc)).call L S)
  clear L S
  go_wp2_with (first | (refine wpList_load_row rfl 59 _ rfl g rfl 59 _ _ _ K7.out.cur Tryz.underlying59 rfl (by kernel_rfl) ?_) | (refine wpList_store_row rfl 59 _ _ rfl (w.heap.size + 1) _ rfl rfl 59 _ K7.out.res (by kernel_rfl) rfl (by simp [Value.oneCell']) ?_))
  obtain ⟨k1, r1, t1, o1⟩ := K7.out.fin
  refine bodyPost_ret_by (results_cell_row rfl _ _ (w.heap.size + 1) 59 _ _ _ rfl k1 Tryz.underlying59 rfl (by kernel_rfl)) rfl ?_
  unfold LaidIs
  have hsz := H.out.2.2.1
  simp only [List.append_assoc, List.cons_append, List.nil_append] at r1
  refine ⟨(1, ⟨#[101, 120, 99, 101, 112, 116]⟩, ln, cl) :: (pk, pt, pl, pc) :: (1, ⟨#[111, 110]⟩, m2, n2) :: (rk, rt, rl, rc) :: (4, ⟨#[58]⟩, m4, n4) :: (N ++ [(4, ⟨#[59]⟩, m6, n6)]), ⟨12, ln, cl, (pt, pl, pc), (rt, rl, rc), ws, false, 0, 0⟩, (.slice sa ws.length sc), _, _, _, _, rfl, o1, R.Lay.reads_except (kw := (1, ⟨#[101, 120, 99, 101, 112, 116]⟩, ln, cl)) (a := (pk, pt, pl, pc)) (b := (1, ⟨#[111, 110]⟩, m2, n2)) (c := (rk, rt, rl, rc)) (d := (4, ⟨#[58]⟩, m4, n4)) (s := (4, ⟨#[59]⟩, m6, n6)) rfl (by kernel_rfl) Hp.out (R.Lay.is_of 1 _ _ _ _ rfl) Hr.out (R.Lay.is_of 4 _ _ _ _ rfl) HN.out.1 (R.Lay.is_of 4 _ _ _ _ rfl), ?_, ?_, ?_, r1, t1⟩
  · intro y hy
    simp only [List.mem_append, List.mem_cons, List.not_mem_nil, or_false] at hy
    rcases hy with hy | hy | hy | hy | hy | hy | hy
    · subst hy; simp
    · subst hy; exact nm_five Hp.out
    · subst hy; simp
    · subst hy; exact nm_five Hr.out
    · subst hy; simp
    · exact nms_five HN.out.1 y hy
    · subst hy; simp
  · simp only [List.length_append, List.length_cons, List.length_nil]
    have := HN.out.2.1; omega
  · intro y hy
    simp only [List.mem_append, List.mem_cons, List.not_mem_nil, or_false] at hy
    rcases hy with hy | hy | hy | hy | hy | hy | hy
    · subst hy; exact of_decide_eq_true rfl
    · subst hy; exact hsz.1
    · subst hy; exact of_decide_eq_true rfl
    · subst hy; exact hsz.2.1
    · subst hy; exact of_decide_eq_true rfl
    · rcases HN.out.2.2 y hy with q | q; exact hsz.2.2.2.2 _ q; omega
    · subst hy; exact of_decide_eq_true rfl
end Go.Proofs.YtfgblchnnhdlnaaGreatDoor
