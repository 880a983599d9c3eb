import Derived.Test.YtfgblchnnhdlnaaGreatDoorGrO
set_option linter.unusedVariables false
set_option linter.unusedSimpArgs false
namespace Go.Proofs.YtfgblchnnhdlnaaGreatDoor
open Go.RowKit
variable {B b : Nat} {ts : List R.Tok} {v v' v'' : Value} {ln cl q : Int} {w w' w'' : World}
set_option maxRecDepth 100000 in
set_option maxHeartbeats 16000000 in
theorem laid10az {sh : Sh} (h : Ld B b ts v ln cl q w) (hin : sh.In B w) (hsm : sh.Small) (few : ts.length + 2 * sh.names.length + 10 ≤ R.lim) (hP : pik (wrap64 (sh.kind - 1)) 12 = 9) (hall : sh.all = true) (hnum : sh.num.size = 0) :
    Calls Tryz.prog 22 #[.pointer (some ⟨b, 0, none⟩), .agg sh.cells.toArray] w fun e w' => LaidIs B b ts v sh.names.length w e w' := by
  obtain ⟨kind, head, on, na, names, nc, all, cond, num, quo, line, col⟩ := sh
  unfold Sh.Small at hsm
  unfold Sh.cells
  simp only at hP hsm few hall hnum ⊢
  subst hall
  have c3 := h.c3
  have lt := h.lt
  have f3 := h.f 3
  have HP := hide' (fun w => pick_any (wrap64 (kind - 1)) 12 w ⟨by decide, by decide⟩)
  rw [hP] at HP
  have hne : (num.toList == []) = true := empty_beq num hnum
  clear hnum
  have cal : ∀ o o', ((w.alloc o).alloc o').cell? ⟨b, 3, none⟩ = some (.int .i64 q) := fun o o' => (World.cell?_of_block (w := w) ((Below.heap_alloc _ _ _ (by simp; omega)).trans (Below.heap_alloc _ _ _ lt))).trans c3
  have fal : ∀ o o', ((w.alloc o).alloc o').frozen? ⟨b, 3, none⟩ = false := fun o o' => (World.frozen?_of_block (w := w) ((Below.heap_alloc _ _ _ (by simp; omega)).trans (Below.heap_alloc _ _ _ lt))).trans f3
  have H := hide' (And.intro h (And.intro hin (And.intro hsm few)))
  clear h hin hsm few hP c3 f3
  go_enter Tryz.func22, Tryz.ntmps22
  go_wp2_with fail
  refine (HP.out _).mono ?_
  rintro e w1 ⟨rfl, hw1⟩
  replace hw1 := hw1.symm
  subst hw1
  clear HP
  go_wp2_with fail
  have E0 := L0.start H.out.1 ⟨kind, head, on, na, names, nc, true, cond, num, quo, line, col⟩
  unfold Sh.cells dz kws at E0
  simp only at E0
  generalize ((((w.setCell ⟨b, 3, none⟩ (.int .i64 quo)).alloc (.cells #[.int .i64 kind, .string head, .string on, .slice na names.length nc, .bool true, .int .i64 cond, .string num, .int .i64 quo, .int .i64 line, .int .i64 col] 53)).alloc (.cells #[.int .i8 0, .int .i64 0, .int .i64 0, .string ⟨#[]⟩, .int .i64 0, .int .i64 0, .string ⟨#[]⟩, .int .i64 0, .int .i64 0, .slice none 0 0, .bool false, .int .i8 0, .float .f64 0] 59)).alloc (.cells #[.string ⟨#[97, 99, 116, 105, 111, 110]⟩, .string ⟨#[115, 117, 98, 106, 101, 99, 116]⟩, .string ⟨#[114, 111, 108, 101]⟩, .string ⟨#[111, 98, 106, 101, 99, 116]⟩, .string ⟨#[103, 114, 111, 117, 112]⟩, .string ⟨#[109, 101, 109, 98, 101, 114]⟩, .string ⟨#[105, 110, 104, 101, 114, 105, 116]⟩, .string ⟨#[112, 97, 114, 116]⟩, .string ⟨#[119, 105, 116, 104, 105, 110]⟩, .string ⟨#[97, 108, 108, 111, 119]⟩, .string ⟨#[100, 101, 110, 121]⟩, .string ⟨#[101, 120, 99, 101, 112, 116]⟩] 9)) = X at *
  have e1 := E0.ld.c1
  have e2 := E0.ld.c2
  have new1 := World.new_ne X ⟨b, 1, none⟩ e1
  have KX := hide' E0
  clear E0 cal fal
  have hst : (store ⟨X.heap.size, 12, none⟩ (.float .f64 0)).run Tryz.prog (X.alloc (.cells #[.int .i8 10, .int .i64 ln, .int .i64 cl, .string ⟨#[]⟩, .int .i64 0, .int .i64 0, .string ⟨#[]⟩, .int .i64 0, .int .i64 0, .slice none 0 0, .bool false, .int .i8 0, .float .f64 0] 59)).drew = .ok () ((X.alloc (.cells #[.int .i8 10, .int .i64 ln, .int .i64 cl, .string ⟨#[]⟩, .int .i64 0, .int .i64 0, .string ⟨#[]⟩, .int .i64 0, .int .i64 0, .slice none 0 0, .bool false, .int .i8 0, .float .f64 0] 59)).drew.setCell ⟨X.heap.size, 12, none⟩ (.float .f64 0)) := store_one (u := .float .f64 0) (by rw [Lib.cell_of_heap (w := (X.alloc (.cells #[.int .i8 10, .int .i64 ln, .int .i64 cl, .string ⟨#[]⟩, .int .i64 0, .int .i64 0, .string ⟨#[]⟩, .int .i64 0, .int .i64 0, .slice none 0 0, .bool false, .int .i8 0, .float .f64 0] 59)).drew) (heap_alloc_new X _)]; rfl) (Lib.frozen_of_heap (w := (X.alloc (.cells #[.int .i8 10, .int .i64 ln, .int .i64 cl, .string ⟨#[]⟩, .int .i64 0, .int .i64 0, .string ⟨#[]⟩, .int .i64 0, .int .i64 0, .slice none 0 0, .bool false, .int .i8 0, .float .f64 0] 59)).drew) (heap_alloc_new X _) 12) (by simp [Value.oneCell'])
  go_region_held3 (fun w' => w'.cell? ⟨b, 1, none⟩ = some (.int .i64 ln) ∧ w'.cell? ⟨b, 2, none⟩ = some (.int .i64 cl)) (first | go_keep) (fail)
  rename_i hHeld
  clear hHeld e1 e2 new1 hst
  have E1 := KX.out.go H.out.1 [.int .i8 10, .int .i64 ln, .int .i64 cl, .string ⟨#[]⟩, .int .i64 0, .int .i64 0, .string ⟨#[]⟩, .int .i64 0, .int .i64 0, .slice none 0 0, .bool false, .int .i8 0, .float .f64 0]
  generalize (X.alloc (.cells #[.int .i8 10, .int .i64 ln, .int .i64 cl, .string ⟨#[]⟩, .int .i64 0, .int .i64 0, .string ⟨#[]⟩, .int .i64 0, .int .i64 0, .slice none 0 0, .bool false, .int .i8 0, .float .f64 0] 59)).drew = W0 at *
  generalize X.heap.size = g at *
  have K0 := hide' E1
  clear E1 KX
  have y0 := K0.out.k 9 _ rfl
  go_wp2_with fail
  obtain ⟨m0, hm0⟩ : ∃ x, ln = x := ⟨_, rfl⟩
  obtain ⟨n0, hn0⟩ : ∃ x, cl = x := ⟨_, rfl⟩
  subst hm0 hn0
  refine (put_any 1 ⟨#[97, 108, 108, 111, 119]⟩ K0.out.ld (by have h0 := H.out.2.2.2; (try simp only [List.length_append, List.length_cons, List.length_nil]); omega)).mono ?_
  rintro e W1 ⟨rfl, v1, m1, n1, L, S⟩
  clear y0
  have K1 := hide' (K0.out.call L S)
  clear L S K0
  have b1 := K1.out.c 1 _ rfl
  go_wp2_with fail
  refine (lname_any head K1.out.ld (by have h0 := H.out.2.2.2; (try simp only [List.length_append, List.length_cons, List.length_nil]); omega)).mono ?_
  rintro e W2 ⟨⟨pk, pt, pl, pc⟩, v2, m2, n2, q2, rfl, ht, hn, L, S⟩
  unfold wv R.wdOf
  simp only at ht ⊢
  subst ht
  clear b1
  have K2 := hide' (K1.out.call L S)
  have Hp := hide' hn
  clear L S hn K1
  have y3 := K2.out.d 3 _ rfl
  have f3 := K2.out.f 3
  have y4 := K2.out.d 4 _ rfl
  have f4 := K2.out.f 4
  have y5 := K2.out.d 5 _ rfl
  have f5 := K2.out.f 5
  go_wp2_with fail
  refine (put_any 1 ⟨#[111, 110]⟩ (((K2.out.set 3 (.string pt)).set 4 (.int .i64 pl)).set 5 (.int .i64 pc)).ld (by have h0 := H.out.2.2.2; (try simp only [List.length_append, List.length_cons, List.length_nil]); omega)).mono ?_
  rintro e W3 ⟨rfl, v3, m3, n3, L, S⟩
  clear y3 f3 y4 f4 y5 f5
  have K3 := hide' ((((K2.out.set 3 (.string pt)).set 4 (.int .i64 pl)).set 5 (.int .i64 pc)).call L S)
  clear L S
  have b2 := K3.out.c 2 _ rfl
  go_wp2_with fail
  refine (lname_any on K3.out.ld (by have h0 := H.out.2.2.2; (try simp only [List.length_append, List.length_cons, List.length_nil]); omega)).mono ?_
  rintro e W4 ⟨⟨rk, rt, rl, rc⟩, v4, m4, n4, q4, rfl, ht, hn, L, S⟩
  unfold wv R.wdOf
  simp only at ht ⊢
  subst ht
  clear b2
  have K4 := hide' (K3.out.call L S)
  have Hr := hide' hn
  clear L S hn K3
  have y6 := K4.out.d 6 _ rfl
  have f6 := K4.out.f 6
  have y7 := K4.out.d 7 _ rfl
  have f7 := K4.out.f 7
  have y8 := K4.out.d 8 _ rfl
  have f8 := K4.out.f 8
  go_wp2_with fail
  refine (put_any 4 ⟨#[58]⟩ (((K4.out.set 6 (.string rt)).set 7 (.int .i64 rl)).set 8 (.int .i64 rc)).ld (by have h0 := H.out.2.2.2; (try simp only [List.length_append, List.length_cons, List.length_nil]); omega)).mono ?_
  rintro e W5 ⟨rfl, v5, m5, n5, L, S⟩
  clear y6 f6 y7 f7 y8 f8
  have K5 := hide' ((((K4.out.set 6 (.string rt)).set 7 (.int .i64 rl)).set 8 (.int .i64 rc)).call L S)
  clear L S
  have b4 := K5.out.c 4 _ rfl
  have y10 := K5.out.d 10 _ rfl
  have f10 := K5.out.f 10
  go_wp2_with fail
  refine (put_any 4 ⟨#[42]⟩ (K5.out.set 10 (.bool true)).ld (by have h0 := H.out.2.2.2; (try simp only [List.length_append, List.length_cons, List.length_nil]); omega)).mono ?_
  rintro e W6 ⟨rfl, v6, m6, n6, L, S⟩
  clear b4 y10 f10
  have K6 := hide' ((K5.out.set 10 (.bool true)).call L S)
  clear L S
  have b6 := K6.out.c 6 _ rfl
  go_wp2_with fail
  refine (figure_any num _).mono ?_
  rintro e w1 ⟨x, lv, rfl, hv, hxs, hw1⟩
  replace hw1 := hw1.symm
  subst hw1
  have HV := hide' (And.intro hv hxs)
  clear hv hxs
  go_wp2_with fail
  refine (put_any 4 ⟨#[59]⟩ K6.out.ld (by have h0 := H.out.2.2.2; (try simp only [List.length_append, List.length_cons, List.length_nil]); omega)).mono ?_
  rintro e W7 ⟨rfl, v7, m7, n7, L, S⟩
  clear b6
  have K7 := hide' (K6.out.call L S)
  clear L S K6
  go_wp2_with (first | (refine wpList_load_row rfl 59 _ rfl g rfl 59 _ _ _ K7.out.cur Tryz.underlying59 rfl (by kernel_rfl) ?_) | (refine wpList_store_row rfl 59 _ _ rfl (w.heap.size + 1) _ rfl rfl 59 _ K7.out.res (by kernel_rfl) rfl (by simp [Value.oneCell']) ?_))
  obtain ⟨k1, r1, t1, o1⟩ := K7.out.fin
  refine bodyPost_ret_by (results_cell_row rfl _ _ (w.heap.size + 1) 59 _ _ _ rfl k1 Tryz.underlying59 rfl (by kernel_rfl)) rfl ?_
  unfold LaidIs
  have hsz := H.out.2.2.1
  simp only [List.append_assoc, List.cons_append, List.nil_append] at r1
  refine ⟨[(1, ⟨#[97, 108, 108, 111, 119]⟩, ln, cl), (pk, pt, pl, pc), (1, ⟨#[111, 110]⟩, m2, n2), (rk, rt, rl, rc), (4, ⟨#[58]⟩, m4, n4), (4, ⟨#[42]⟩, m5, n5), (4, ⟨#[59]⟩, m6, n6)], ⟨10, ln, cl, (pt, pl, pc), (rt, rl, rc), [], true, 0, 0⟩, (.slice none 0 0), _, _, _, _, rfl, o1, R.Lay.reads_rule (kw := (1, ⟨#[97, 108, 108, 111, 119]⟩, ln, cl)) (a := (pk, pt, pl, pc)) (b := (1, ⟨#[111, 110]⟩, m2, n2)) (c := (rk, rt, rl, rc)) (d := (4, ⟨#[58]⟩, m4, n4)) (s := (4, ⟨#[59]⟩, m6, n6)) (A := [(4, ⟨#[42]⟩, m5, n5)]) (C := []) rfl (k := 10) (by kernel_rfl) (by omega) Hp.out (R.Lay.is_of 1 _ _ _ _ rfl) Hr.out (R.Lay.is_of 4 _ _ _ _ rfl) (rule_star _ (R.Lay.is_of 4 _ _ _ _ rfl)) (rule_none (R.Lay.is_of 4 _ _ _ _ rfl)) (fun t ht => by simp at ht; subst ht; exact R.Lay.semi_comma (R.Lay.is_of 4 _ _ _ _ rfl)) (R.Lay.is_of 4 _ _ _ _ rfl), ?_, ?_, ?_, r1, t1⟩
  · intro y hy
    simp only [List.mem_append, List.mem_cons, List.not_mem_nil, or_false] at hy
    rcases hy with hy | hy | hy | hy | hy | hy | hy
    · subst hy; simp
    · subst hy; exact nm_five Hp.out
    · subst hy; simp
    · subst hy; exact nm_five Hr.out
    · subst hy; simp
    · subst hy; simp
    · subst hy; simp
  · simp only [List.length_append, List.length_cons, List.length_nil]
    omega
  · intro y hy
    simp only [List.mem_append, List.mem_cons, List.not_mem_nil, or_false] at hy
    rcases hy with hy | hy | hy | hy | hy | hy | hy
    · subst hy; exact of_decide_eq_true rfl
    · subst hy; exact hsz.1
    · subst hy; exact of_decide_eq_true rfl
    · subst hy; exact hsz.2.1
    · subst hy; exact of_decide_eq_true rfl
    · subst hy; exact of_decide_eq_true rfl
    · subst hy; exact of_decide_eq_true rfl
set_option maxRecDepth 100000 in
set_option maxHeartbeats 16000000 in
theorem laid10nz {sh : Sh} (h : Ld B b ts v ln cl q w) (hin : sh.In B w) (hsm : sh.Small) (few : ts.length + 2 * sh.names.length + 10 ≤ R.lim) (hP : pik (wrap64 (sh.kind - 1)) 12 = 9) (hall : sh.all = false) (hnum : sh.num.size = 0) :
    Calls Tryz.prog 22 #[.pointer (some ⟨b, 0, none⟩), .agg sh.cells.toArray] w fun e w' => LaidIs B b ts v sh.names.length w e w' := by
  obtain ⟨kind, head, on, na, names, nc, all, cond, num, quo, line, col⟩ := sh
  unfold Sh.Small at hsm
  unfold Sh.cells
  simp only at hP hsm few hall hnum ⊢
  subst hall
  have c3 := h.c3
  have lt := h.lt
  have f3 := h.f 3
  have HP := hide' (fun w => pick_any (wrap64 (kind - 1)) 12 w ⟨by decide, by decide⟩)
  rw [hP] at HP
  have hne : (num.toList == []) = true := empty_beq num hnum
  clear hnum
  have cal : ∀ o o', ((w.alloc o).alloc o').cell? ⟨b, 3, none⟩ = some (.int .i64 q) := fun o o' => (World.cell?_of_block (w := w) ((Below.heap_alloc _ _ _ (by simp; omega)).trans (Below.heap_alloc _ _ _ lt))).trans c3
  have fal : ∀ o o', ((w.alloc o).alloc o').frozen? ⟨b, 3, none⟩ = false := fun o o' => (World.frozen?_of_block (w := w) ((Below.heap_alloc _ _ _ (by simp; omega)).trans (Below.heap_alloc _ _ _ lt))).trans f3
  have H := hide' (And.intro h (And.intro hin (And.intro hsm few)))
  clear h hin hsm few hP c3 f3
  go_enter Tryz.func22, Tryz.ntmps22
  go_wp2_with fail
  refine (HP.out _).mono ?_
  rintro e w1 ⟨rfl, hw1⟩
  replace hw1 := hw1.symm
  subst hw1
  clear HP
  go_wp2_with fail
  have E0 := L0.start H.out.1 ⟨kind, head, on, na, names, nc, false, cond, num, quo, line, col⟩
  unfold Sh.cells dz kws at E0
  simp only at E0
  generalize ((((w.setCell ⟨b, 3, none⟩ (.int .i64 quo)).alloc (.cells #[.int .i64 kind, .string head, .string on, .slice na names.length nc, .bool false, .int .i64 cond, .string num, .int .i64 quo, .int .i64 line, .int .i64 col] 53)).alloc (.cells #[.int .i8 0, .int .i64 0, .int .i64 0, .string ⟨#[]⟩, .int .i64 0, .int .i64 0, .string ⟨#[]⟩, .int .i64 0, .int .i64 0, .slice none 0 0, .bool false, .int .i8 0, .float .f64 0] 59)).alloc (.cells #[.string ⟨#[97, 99, 116, 105, 111, 110]⟩, .string ⟨#[115, 117, 98, 106, 101, 99, 116]⟩, .string ⟨#[114, 111, 108, 101]⟩, .string ⟨#[111, 98, 106, 101, 99, 116]⟩, .string ⟨#[103, 114, 111, 117, 112]⟩, .string ⟨#[109, 101, 109, 98, 101, 114]⟩, .string ⟨#[105, 110, 104, 101, 114, 105, 116]⟩, .string ⟨#[112, 97, 114, 116]⟩, .string ⟨#[119, 105, 116, 104, 105, 110]⟩, .string ⟨#[97, 108, 108, 111, 119]⟩, .string ⟨#[100, 101, 110, 121]⟩, .string ⟨#[101, 120, 99, 101, 112, 116]⟩] 9)) = X at *
  have e1 := E0.ld.c1
  have e2 := E0.ld.c2
  have new1 := World.new_ne X ⟨b, 1, none⟩ e1
  have KX := hide' E0
  clear E0 cal fal
  have hst : (store ⟨X.heap.size, 12, none⟩ (.float .f64 0)).run Tryz.prog (X.alloc (.cells #[.int .i8 10, .int .i64 ln, .int .i64 cl, .string ⟨#[]⟩, .int .i64 0, .int .i64 0, .string ⟨#[]⟩, .int .i64 0, .int .i64 0, .slice none 0 0, .bool false, .int .i8 0, .float .f64 0] 59)).drew = .ok () ((X.alloc (.cells #[.int .i8 10, .int .i64 ln, .int .i64 cl, .string ⟨#[]⟩, .int .i64 0, .int .i64 0, .string ⟨#[]⟩, .int .i64 0, .int .i64 0, .slice none 0 0, .bool false, .int .i8 0, .float .f64 0] 59)).drew.setCell ⟨X.heap.size, 12, none⟩ (.float .f64 0)) := store_one (u := .float .f64 0) (by rw [Lib.cell_of_heap (w := (X.alloc (.cells #[.int .i8 10, .int .i64 ln, .int .i64 cl, .string ⟨#[]⟩, .int .i64 0, .int .i64 0, .string ⟨#[]⟩, .int .i64 0, .int .i64 0, .slice none 0 0, .bool false, .int .i8 0, .float .f64 0] 59)).drew) (heap_alloc_new X _)]; rfl) (Lib.frozen_of_heap (w := (X.alloc (.cells #[.int .i8 10, .int .i64 ln, .int .i64 cl, .string ⟨#[]⟩, .int .i64 0, .int .i64 0, .string ⟨#[]⟩, .int .i64 0, .int .i64 0, .slice none 0 0, .bool false, .int .i8 0, .float .f64 0] 59)).drew) (heap_alloc_new X _) 12) (by simp [Value.oneCell'])
  go_region_held3 (fun w' => w'.cell? ⟨b, 1, none⟩ = some (.int .i64 ln) ∧ w'.cell? ⟨b, 2, none⟩ = some (.int .i64 cl)) (first | go_keep) (fail)
  rename_i hHeld
  clear hHeld e1 e2 new1 hst
  have E1 := KX.out.go H.out.1 [.int .i8 10, .int .i64 ln, .int .i64 cl, .string ⟨#[]⟩, .int .i64 0, .int .i64 0, .string ⟨#[]⟩, .int .i64 0, .int .i64 0, .slice none 0 0, .bool false, .int .i8 0, .float .f64 0]
  generalize (X.alloc (.cells #[.int .i8 10, .int .i64 ln, .int .i64 cl, .string ⟨#[]⟩, .int .i64 0, .int .i64 0, .string ⟨#[]⟩, .int .i64 0, .int .i64 0, .slice none 0 0, .bool false, .int .i8 0, .float .f64 0] 59)).drew = W0 at *
  generalize X.heap.size = g at *
  have K0 := hide' E1
  clear E1 KX
  have y0 := K0.out.k 9 _ rfl
  go_wp2_with fail
  obtain ⟨m0, hm0⟩ : ∃ x, ln = x := ⟨_, rfl⟩
  obtain ⟨n0, hn0⟩ : ∃ x, cl = x := ⟨_, rfl⟩
  subst hm0 hn0
  refine (put_any 1 ⟨#[97, 108, 108, 111, 119]⟩ K0.out.ld (by have h0 := H.out.2.2.2; (try simp only [List.length_append, List.length_cons, List.length_nil]); omega)).mono ?_
  rintro e W1 ⟨rfl, v1, m1, n1, L, S⟩
  clear y0
  have K1 := hide' (K0.out.call L S)
  clear L S K0
  have b1 := K1.out.c 1 _ rfl
  go_wp2_with fail
  refine (lname_any head K1.out.ld (by have h0 := H.out.2.2.2; (try simp only [List.length_append, List.length_cons, List.length_nil]); omega)).mono ?_
  rintro e W2 ⟨⟨pk, pt, pl, pc⟩, v2, m2, n2, q2, rfl, ht, hn, L, S⟩
  unfold wv R.wdOf
  simp only at ht ⊢
  subst ht
  clear b1
  have K2 := hide' (K1.out.call L S)
  have Hp := hide' hn
  clear L S hn K1
  have y3 := K2.out.d 3 _ rfl
  have f3 := K2.out.f 3
  have y4 := K2.out.d 4 _ rfl
  have f4 := K2.out.f 4
  have y5 := K2.out.d 5 _ rfl
  have f5 := K2.out.f 5
  go_wp2_with fail
  refine (put_any 1 ⟨#[111, 110]⟩ (((K2.out.set 3 (.string pt)).set 4 (.int .i64 pl)).set 5 (.int .i64 pc)).ld (by have h0 := H.out.2.2.2; (try simp only [List.length_append, List.length_cons, List.length_nil]); omega)).mono ?_
  rintro e W3 ⟨rfl, v3, m3, n3, L, S⟩
  clear y3 f3 y4 f4 y5 f5
  have K3 := hide' ((((K2.out.set 3 (.string pt)).set 4 (.int .i64 pl)).set 5 (.int .i64 pc)).call L S)
  clear L S
  have b2 := K3.out.c 2 _ rfl
  go_wp2_with fail
  refine (lname_any on K3.out.ld (by have h0 := H.out.2.2.2; (try simp only [List.length_append, List.length_cons, List.length_nil]); omega)).mono ?_
  rintro e W4 ⟨⟨rk, rt, rl, rc⟩, v4, m4, n4, q4, rfl, ht, hn, L, S⟩
  unfold wv R.wdOf
  simp only at ht ⊢
  subst ht
  clear b2
  have K4 := hide' (K3.out.call L S)
  have Hr := hide' hn
  clear L S hn K3
  have y6 := K4.out.d 6 _ rfl
  have f6 := K4.out.f 6
  have y7 := K4.out.d 7 _ rfl
  have f7 := K4.out.f 7
  have y8 := K4.out.d 8 _ rfl
  have f8 := K4.out.f 8
  go_wp2_with fail
  refine (put_any 4 ⟨#[58]⟩ (((K4.out.set 6 (.string rt)).set 7 (.int .i64 rl)).set 8 (.int .i64 rc)).ld (by have h0 := H.out.2.2.2; (try simp only [List.length_append, List.length_cons, List.length_nil]); omega)).mono ?_
  rintro e W5 ⟨rfl, v5, m5, n5, L, S⟩
  clear y6 f6 y7 f7 y8 f8
  have K5 := hide' ((((K4.out.set 6 (.string rt)).set 7 (.int .i64 rl)).set 8 (.int .i64 rc)).call L S)
  clear L S
  have b4 := K5.out.c 4 _ rfl
  have b3 := K5.out.c 3 _ rfl
  go_wp2_with fail
  refine (llist_any names na nc K5.out.ld (H.out.2.1.2.old K5.out.old) H.out.2.1.1 (by have h0 := H.out.2.2.2; (try simp only [List.length_append, List.length_cons, List.length_nil]); omega)).mono ?_
  rintro e W6 ⟨N, ws, vv, v6, m6, n6, q6, rfl, row, hN, hNl, htx, L, S⟩
  clear b4 b3
  obtain ⟨sa, sc, rfl⟩ := row_form row
  have K6 := hide' (K5.out.names L S row)
  have HN := hide' (And.intro hN (And.intro hNl htx))
  clear L S row hN hNl htx K5
  have y9 := K6.out.d 9 _ rfl
  have f9 := K6.out.f 9
  have b6 := (K6.out.set 9 (.slice sa ws.length sc)).c 6 _ rfl
  go_wp2_with fail
  refine (figure_any num _).mono ?_
  rintro e w1 ⟨x, lv, rfl, hv, hxs, hw1⟩
  replace hw1 := hw1.symm
  subst hw1
  have HV := hide' (And.intro hv hxs)
  clear hv hxs
  go_wp2_with fail
  refine (put_any 4 ⟨#[59]⟩ (K6.out.set 9 (.slice sa ws.length sc)).ld (by have h0 := H.out.2.2.2; have h1 := HN.out.2.1; (try simp only [List.length_append, List.length_cons, List.length_nil]); omega)).mono ?_
  rintro e W7 ⟨rfl, v7, m7, n7, L, S⟩
  clear y9 f9 b6
  have K7 := hide' ((K6.out.set 9 (.slice sa ws.length sc)).call L S)
  clear L S
  go_wp2_with (first | (refine wpList_load_row rfl 59 _ rfl g rfl 59 _ _ _ K7.out.cur Tryz.underlying59 rfl (by kernel_rfl) ?_) | (refine wpList_store_row rfl 59 _ _ rfl (w.heap.size + 1) _ rfl rfl 59 _ K7.out.res (by kernel_rfl) rfl (by simp [Value.oneCell']) ?_))
  obtain ⟨k1, r1, t1, o1⟩ := K7.out.fin
  refine bodyPost_ret_by (results_cell_row rfl _ _ (w.heap.size + 1) 59 _ _ _ rfl k1 Tryz.underlying59 rfl (by kernel_rfl)) rfl ?_
  unfold LaidIs
  have hsz := H.out.2.2.1
  simp only [List.append_assoc, List.cons_append, List.nil_append] at r1
  refine ⟨(1, ⟨#[97, 108, 108, 111, 119]⟩, ln, cl) :: (pk, pt, pl, pc) :: (1, ⟨#[111, 110]⟩, m2, n2) :: (rk, rt, rl, rc) :: (4, ⟨#[58]⟩, m4, n4) :: (N ++ [(4, ⟨#[59]⟩, m6, n6)]), ⟨10, ln, cl, (pt, pl, pc), (rt, rl, rc), ws, false, 0, 0⟩, (.slice sa ws.length sc), _, _, _, _, rfl, o1, R.Lay.reads_rule (kw := (1, ⟨#[97, 108, 108, 111, 119]⟩, ln, cl)) (a := (pk, pt, pl, pc)) (b := (1, ⟨#[111, 110]⟩, m2, n2)) (c := (rk, rt, rl, rc)) (d := (4, ⟨#[58]⟩, m4, n4)) (s := (4, ⟨#[59]⟩, m6, n6)) (A := N) (C := []) rfl (k := 10) (by kernel_rfl) (by omega) Hp.out (R.Lay.is_of 1 _ _ _ _ rfl) Hr.out (R.Lay.is_of 4 _ _ _ _ rfl) (rule_names HN.out.1) (rule_none (R.Lay.is_of 4 _ _ _ _ rfl)) (fun t ht => by simp at ht; subst ht; exact R.Lay.semi_comma (R.Lay.is_of 4 _ _ _ _ rfl)) (R.Lay.is_of 4 _ _ _ _ rfl), ?_, ?_, ?_, r1, t1⟩
  · intro y hy
    simp only [List.mem_append, List.mem_cons, List.not_mem_nil, or_false] at hy
    rcases hy with hy | hy | hy | hy | hy | hy | hy
    · subst hy; simp
    · subst hy; exact nm_five Hp.out
    · subst hy; simp
    · subst hy; exact nm_five Hr.out
    · subst hy; simp
    · exact nms_five HN.out.1 y hy
    · subst hy; simp
  · simp only [List.length_append, List.length_cons, List.length_nil]
    have := HN.out.2.1; omega
  · intro y hy
    simp only [List.mem_append, List.mem_cons, List.not_mem_nil, or_false] at hy
    rcases hy with hy | hy | hy | hy | hy | hy | hy
    · subst hy; exact of_decide_eq_true rfl
    · subst hy; exact hsz.1
    · subst hy; exact of_decide_eq_true rfl
    · subst hy; exact hsz.2.1
    · subst hy; exact of_decide_eq_true rfl
    · rcases HN.out.2.2 y hy with q | q; exact hsz.2.2.2.2 _ q; omega
    · subst hy; exact of_decide_eq_true rfl
set_option maxRecDepth 100000 in
set_option maxHeartbeats 16000000 in
theorem laid11az {sh : Sh} (h : Ld B b ts v ln cl q w) (hin : sh.In B w) (hsm : sh.Small) (few : ts.length + 2 * sh.names.length + 10 ≤ R.lim) (hP : pik (wrap64 (sh.kind - 1)) 12 = 10) (hall : sh.all = true) (hnum : sh.num.size = 0) :
    Calls Tryz.prog 22 #[.pointer (some ⟨b, 0, none⟩), .agg sh.cells.toArray] w fun e w' => LaidIs B b ts v sh.names.length w e w' := by
  obtain ⟨kind, head, on, na, names, nc, all, cond, num, quo, line, col⟩ := sh
  unfold Sh.Small at hsm
  unfold Sh.cells
  simp only at hP hsm few hall hnum ⊢
  subst hall
  have c3 := h.c3
  have lt := h.lt
  have f3 := h.f 3
  have HP := hide' (fun w => pick_any (wrap64 (kind - 1)) 12 w ⟨by decide, by decide⟩)
  rw [hP] at HP
  have hne : (num.toList == []) = true := empty_beq num hnum
  clear hnum
  have cal : ∀ o o', ((w.alloc o).alloc o').cell? ⟨b, 3, none⟩ = some (.int .i64 q) := fun o o' => (World.cell?_of_block (w := w) ((Below.heap_alloc _ _ _ (by simp; omega)).trans (Below.heap_alloc _ _ _ lt))).trans c3
  have fal : ∀ o o', ((w.alloc o).alloc o').frozen? ⟨b, 3, none⟩ = false := fun o o' => (World.frozen?_of_block (w := w) ((Below.heap_alloc _ _ _ (by simp; omega)).trans (Below.heap_alloc _ _ _ lt))).trans f3
  have H := hide' (And.intro h (And.intro hin (And.intro hsm few)))
  clear h hin hsm few hP c3 f3
  go_enter Tryz.func22, Tryz.ntmps22
  go_wp2_with fail
  refine (HP.out _).mono ?_
  rintro e w1 ⟨rfl, hw1⟩
  replace hw1 := hw1.symm
  subst hw1
  clear HP
  go_wp2_with fail
  have E0 := L0.start H.out.1 ⟨kind, head, on, na, names, nc, true, cond, num, quo, line, col⟩
  unfold Sh.cells dz kws at E0
  simp only at E0
  generalize ((((w.setCell ⟨b, 3, none⟩ (.int .i64 quo)).alloc (.cells #[.int .i64 kind, .string head, .string on, .slice na names.length nc, .bool true, .int .i64 cond, .string num, .int .i64 quo, .int .i64 line, .int .i64 col] 53)).alloc (.cells #[.int .i8 0, .int .i64 0, .int .i64 0, .string ⟨#[]⟩, .int .i64 0, .int .i64 0, .string ⟨#[]⟩, .int .i64 0, .int .i64 0, .slice none 0 0, .bool false, .int .i8 0, .float .f64 0] 59)).alloc (.cells #[.string ⟨#[97, 99, 116, 105, 111, 110]⟩, .string ⟨#[115, 117, 98, 106, 101, 99, 116]⟩, .string ⟨#[114, 111, 108, 101]⟩, .string ⟨#[111, 98, 106, 101, 99, 116]⟩, .string ⟨#[103, 114, 111, 117, 112]⟩, .string ⟨#[109, 101, 109, 98, 101, 114]⟩, .string ⟨#[105, 110, 104, 101, 114, 105, 116]⟩, .string ⟨#[112, 97, 114, 116]⟩, .string ⟨#[119, 105, 116, 104, 105, 110]⟩, .string ⟨#[97, 108, 108, 111, 119]⟩, .string ⟨#[100, 101, 110, 121]⟩, .string ⟨#[101, 120, 99, 101, 112, 116]⟩] 9)) = X at *
  have e1 := E0.ld.c1
  have e2 := E0.ld.c2
  have new1 := World.new_ne X ⟨b, 1, none⟩ e1
  have KX := hide' E0
  clear E0 cal fal
  have hst : (store ⟨X.heap.size, 12, none⟩ (.float .f64 0)).run Tryz.prog (X.alloc (.cells #[.int .i8 11, .int .i64 ln, .int .i64 cl, .string ⟨#[]⟩, .int .i64 0, .int .i64 0, .string ⟨#[]⟩, .int .i64 0, .int .i64 0, .slice none 0 0, .bool false, .int .i8 0, .float .f64 0] 59)).drew = .ok () ((X.alloc (.cells #[.int .i8 11, .int .i64 ln, .int .i64 cl, .string ⟨#[]⟩, .int .i64 0, .int .i64 0, .string ⟨#[]⟩, .int .i64 0, .int .i64 0, .slice none 0 0, .bool false, .int .i8 0, .float .f64 0] 59)).drew.setCell ⟨X.heap.size, 12, none⟩ (.float .f64 0)) := store_one (u := .float .f64 0) (by rw [Lib.cell_of_heap (w := (X.alloc (.cells #[.int .i8 11, .int .i64 ln, .int .i64 cl, .string ⟨#[]⟩, .int .i64 0, .int .i64 0, .string ⟨#[]⟩, .int .i64 0, .int .i64 0, .slice none 0 0, .bool false, .int .i8 0, .float .f64 0] 59)).drew) (heap_alloc_new X _)]; rfl) (Lib.frozen_of_heap (w := (X.alloc (.cells #[.int .i8 11, .int .i64 ln, .int .i64 cl, .string ⟨#[]⟩, .int .i64 0, .int .i64 0, .string ⟨#[]⟩, .int .i64 0, .int .i64 0, .slice none 0 0, .bool false, .int .i8 0, .float .f64 0] 59)).drew) (heap_alloc_new X _) 12) (by simp [Value.oneCell'])
  go_region_held3 (fun w' => w'.cell? ⟨b, 1, none⟩ = some (.int .i64 ln) ∧ w'.cell? ⟨b, 2, none⟩ = some (.int .i64 cl)) (first | go_keep) (fail)
  rename_i hHeld
  clear hHeld e1 e2 new1 hst
  have E1 := KX.out.go H.out.1 [.int .i8 11, .int .i64 ln, .int .i64 cl, .string ⟨#[]⟩, .int .i64 0, .int .i64 0, .string ⟨#[]⟩, .int .i64 0, .int .i64 0, .slice none 0 0, .bool false, .int .i8 0, .float .f64 0]
  generalize (X.alloc (.cells #[.int .i8 11, .int .i64 ln, .int .i64 cl, .string ⟨#[]⟩, .int .i64 0, .int .i64 0, .string ⟨#[]⟩, .int .i64 0, .int .i64 0, .slice none 0 0, .bool false, .int .i8 0, .float .f64 0] 59)).drew = W0 at *
  generalize X.heap.size = g at *
  have K0 := hide' E1
  clear E1 KX
  have y0 := K0.out.k 10 _ rfl
  go_wp2_with fail
  obtain ⟨m0, hm0⟩ : ∃ x, ln = x := ⟨_, rfl⟩
  obtain ⟨n0, hn0⟩ : ∃ x, cl = x := ⟨_, rfl⟩
  subst hm0 hn0
  refine (put_any 1 ⟨#[100, 101, 110, 121]⟩ K0.out.ld (by have h0 := H.out.2.2.2; (try simp only [List.length_append, List.length_cons, List.length_nil]); omega)).mono ?_
  rintro e W1 ⟨rfl, v1, m1, n1, L, S⟩
  clear y0
  have K1 := hide' (K0.out.call L S)
  clear L S K0
  have b1 := K1.out.c 1 _ rfl
  go_wp2_with fail
  refine (lname_any head K1.out.ld (by have h0 := H.out.2.2.2; (try simp only [List.length_append, List.length_cons, List.length_nil]); omega)).mono ?_
  rintro e W2 ⟨⟨pk, pt, pl, pc⟩, v2, m2, n2, q2, rfl, ht, hn, L, S⟩
  unfold wv R.wdOf
  simp only at ht ⊢
  subst ht
  clear b1
  have K2 := hide' (K1.out.call L S)
  have Hp := hide' hn
  clear L S hn K1
  have y3 := K2.out.d 3 _ rfl
  have f3 := K2.out.f 3
  have y4 := K2.out.d 4 _ rfl
  have f4 := K2.out.f 4
  have y5 := K2.out.d 5 _ rfl
  have f5 := K2.out.f 5
  go_wp2_with fail
  refine (put_any 1 ⟨#[111, 110]⟩ (((K2.out.set 3 (.string pt)).set 4 (.int .i64 pl)).set 5 (.int .i64 pc)).ld (by have h0 := H.out.2.2.2; (try simp only [List.length_append, List.length_cons, List.length_nil]); omega)).mono ?_
  rintro e W3 ⟨rfl, v3, m3, n3, L, S⟩
  clear y3 f3 y4 f4 y5 f5
  have K3 := hide' ((((K2.out.set 3 (.string pt)).set 4 (.int .i64 pl)).set 5 (.int .i64 pc)).call L S)
  clear L S
  have b2 := K3.out.c 2 _ rfl
  go_wp2_with fail
  refine (lname_any on K3.out.ld (by have h0 := H.out.2.2.2; (try simp only [List.length_append, List.length_cons, List.length_nil]); omega)).mono ?_
  rintro e W4 ⟨⟨rk, rt, rl, rc⟩, v4, m4, n4, q4, rfl, ht, hn, L, S⟩
  unfold wv R.wdOf
  simp only at ht ⊢
  subst ht
  clear b2
  have K4 := hide' (K3.out.call L S)
  have Hr := hide' hn
  clear L S hn K3
  have y6 := K4.out.d 6 _ rfl
  have f6 := K4.out.f 6
  have y7 := K4.out.d 7 _ rfl
  have f7 := K4.out.f 7
  have y8 := K4.out.d 8 _ rfl
  have f8 := K4.out.f 8
  go_wp2_with fail
  refine (put_any 4 ⟨#[58]⟩ (((K4.out.set 6 (.string rt)).set 7 (.int .i64 rl)).set 8 (.int .i64 rc)).ld (by have h0 := H.out.2.2.2; (try simp only [List.length_append, List.length_cons, List.length_nil]); omega)).mono ?_
  rintro e W5 ⟨rfl, v5, m5, n5, L, S⟩
  clear y6 f6 y7 f7 y8 f8
  have K5 := hide' ((((K4.out.set 6 (.string rt)).set 7 (.int .i64 rl)).set 8 (.int .i64 rc)).call L S)
  clear L S
  have b4 := K5.out.c 4 _ rfl
  have y10 := K5.out.d 10 _ rfl
  have f10 := K5.out.f 10
  go_wp2_with fail
  refine (put_any 4 ⟨#[42]⟩ (K5.out.set 10 (.bool true)).ld (by have h0 := H.out.2.2.2; (try simp only [List.length_append, List.length_cons, List.length_nil]); omega)).mono ?_
  rintro e W6 ⟨rfl, v6, m6, n6, L, S⟩
  clear b4 y10 f10
  have K6 := hide' ((K5.out.set 10 (.bool true)).call L S)
  clear L S
  have b6 := K6.out.c 6 _ rfl
  go_wp2_with fail
  refine (figure_any num _).mono ?_
  rintro e w1 ⟨x, lv, rfl, hv, hxs, hw1⟩
  replace hw1 := hw1.symm
  subst hw1
  have HV := hide' (And.intro hv hxs)
  clear hv hxs
  go_wp2_with fail
  refine (put_any 4 ⟨#[59]⟩ K6.out.ld (by have h0 := H.out.2.2.2; (try simp only [List.length_append, List.length_cons, List.length_nil]); omega)).mono ?_
  rintro e W7 ⟨rfl, v7, m7, n7, L, S⟩
  clear b6
  have K7 := hide' (K6.out.call L S)
  clear L S K6
  go_wp2_with (first | (refine wpList_load_row rfl 59 _ rfl g rfl 59 _ _ _ K7.out.cur Tryz.underlying59 rfl (by kernel_rfl) ?_) | (refine wpList_store_row rfl 59 _ _ rfl (w.heap.size + 1) _ rfl rfl 59 _ K7.out.res (by kernel_rfl) rfl (by simp [Value.oneCell']) ?_))
  obtain ⟨k1, r1, t1, o1⟩ := K7.out.fin
  refine bodyPost_ret_by (results_cell_row rfl _ _ (w.heap.size + 1) 59 _ _ _ rfl k1 Tryz.underlying59 rfl (by kernel_rfl)) rfl ?_
  unfold LaidIs
  have hsz := H.out.2.2.1
  simp only [List.append_assoc, List.cons_append, List.nil_append] at r1
  refine ⟨[(1, ⟨#[100, 101, 110, 121]⟩, ln, cl), (pk, pt, pl, pc), (1, ⟨#[111, 110]⟩, m2, n2), (rk, rt, rl, rc), (4, ⟨#[58]⟩, m4, n4), (4, ⟨#[42]⟩, m5, n5), (4, ⟨#[59]⟩, m6, n6)], ⟨11, ln, cl, (pt, pl, pc), (rt, rl, rc), [], true, 0, 0⟩, (.slice none 0 0), _, _, _, _, rfl, o1, R.Lay.reads_rule (kw := (1, ⟨#[100, 101, 110, 121]⟩, ln, cl)) (a := (pk, pt, pl, pc)) (b := (1, ⟨#[111, 110]⟩, m2, n2)) (c := (rk, rt, rl, rc)) (d := (4, ⟨#[58]⟩, m4, n4)) (s := (4, ⟨#[59]⟩, m6, n6)) (A := [(4, ⟨#[42]⟩, m5, n5)]) (C := []) rfl (k := 11) (by kernel_rfl) (by omega) Hp.out (R.Lay.is_of 1 _ _ _ _ rfl) Hr.out (R.Lay.is_of 4 _ _ _ _ rfl) (rule_star _ (R.Lay.is_of 4 _ _ _ _ rfl)) (rule_none (R.Lay.is_of 4 _ _ _ _ rfl)) (fun t ht => by simp at ht; subst ht; exact R.Lay.semi_comma (R.Lay.is_of 4 _ _ _ _ rfl)) (R.Lay.is_of 4 _ _ _ _ rfl), ?_, ?_, ?_, r1, t1⟩
  · intro y hy
    simp only [List.mem_append, List.mem_cons, List.not_mem_nil, or_false] at hy
    rcases hy with hy | hy | hy | hy | hy | hy | hy
    · subst hy; simp
    · subst hy; exact nm_five Hp.out
    · subst hy; simp
    · subst hy; exact nm_five Hr.out
    · subst hy; simp
    · subst hy; simp
    · subst hy; simp
  · simp only [List.length_append, List.length_cons, List.length_nil]
    omega
  · intro y hy
    simp only [List.mem_append, List.mem_cons, List.not_mem_nil, or_false] at hy
    rcases hy with hy | hy | hy | hy | hy | hy | hy
    · subst hy; exact of_decide_eq_true rfl
    · subst hy; exact hsz.1
    · subst hy; exact of_decide_eq_true rfl
    · subst hy; exact hsz.2.1
    · subst hy; exact of_decide_eq_true rfl
    · subst hy; exact of_decide_eq_true rfl
    · subst hy; exact of_decide_eq_true rfl
set_option maxRecDepth 100000 in
set_option maxHeartbeats 16000000 in
theorem laid11nz {sh : Sh} (h : Ld B b ts v ln cl q w) (hin : sh.In B w) (hsm : sh.Small) (few : ts.length + 2 * sh.names.length + 10 ≤ R.lim) (hP : pik (wrap64 (sh.kind - 1)) 12 = 10) (hall : sh.all = false) (hnum : sh.num.size = 0) :
    Calls Tryz.prog 22 #[.pointer (some ⟨b, 0, none⟩), .agg sh.cells.toArray] w fun e w' => LaidIs B b ts v sh.names.length w e w' := by
  obtain ⟨kind, head, on, na, names, nc, all, cond, num, quo, line, col⟩ := sh
  unfold Sh.Small at hsm
  unfold Sh.cells
  simp only at hP hsm few hall hnum ⊢
  subst hall
  have c3 := h.c3
  have lt := h.lt
  have f3 := h.f 3
  have HP := hide' (fun w => pick_any (wrap64 (kind - 1)) 12 w ⟨by decide, by decide⟩)
  rw [hP] at HP
  have hne : (num.toList == []) = true := empty_beq num hnum
  clear hnum
  have cal : ∀ o o', ((w.alloc o).alloc o').cell? ⟨b, 3, none⟩ = some (.int .i64 q) := fun o o' => (World.cell?_of_block (w := w) ((Below.heap_alloc _ _ _ (by simp; omega)).trans (Below.heap_alloc _ _ _ lt))).trans c3
  have fal : ∀ o o', ((w.alloc o).alloc o').frozen? ⟨b, 3, none⟩ = false := fun o o' => (World.frozen?_of_block (w := w) ((Below.heap_alloc _ _ _ (by simp; omega)).trans (Below.heap_alloc _ _ _ lt))).trans f3
  have H := hide' (And.intro h (And.intro hin (And.intro hsm few)))
  clear h hin hsm few hP c3 f3
  go_enter Tryz.func22, Tryz.ntmps22
  go_wp2_with fail
  refine (HP.out _).mono ?_
  rintro e w1 ⟨rfl, hw1⟩
  replace hw1 := hw1.symm
  subst hw1
  clear HP
  go_wp2_with fail
  have E0 := L0.start H.out.1 ⟨kind, head, on, na, names, nc, false, cond, num, quo, line, col⟩
  unfold Sh.cells dz kws at E0
  simp only at E0
  generalize ((((w.setCell ⟨b, 3, none⟩ (.int .i64 quo)).alloc (.cells #[.int .i64 kind, .string head, .string on, .slice na names.length nc, .bool false, .int .i64 cond, .string num, .int .i64 quo, .int .i64 line, .int .i64 col] 53)).alloc (.cells #[.int .i8 0, .int .i64 0, .int .i64 0, .string ⟨#[]⟩, .int .i64 0, .int .i64 0, .string ⟨#[]⟩, .int .i64 0, .int .i64 0, .slice none 0 0, .bool false, .int .i8 0, .float .f64 0] 59)).alloc (.cells #[.string ⟨#[97, 99, 116, 105, 111, 110]⟩, .string ⟨#[115, 117, 98, 106, 101, 99, 116]⟩, .string ⟨#[114, 111, 108, 101]⟩, .string ⟨#[111, 98, 106, 101, 99, 116]⟩, .string ⟨#[103, 114, 111, 117, 112]⟩, .string ⟨#[109, 101, 109, 98, 101, 114]⟩, .string ⟨#[105, 110, 104, 101, 114, 105, 116]⟩, .string ⟨#[112, 97, 114, 116]⟩, .string ⟨#[119, 105, 116, 104, 105, 110]⟩, .string ⟨#[97, 108, 108, 111, 119]⟩, .string ⟨#[100, 101, 110, 121]⟩, .string ⟨#[101, 120, 99, 101, 112, 116]⟩] 9)) = X at *
  have e1 := E0.ld.c1
  have e2 := E0.ld.c2
  have new1 := World.new_ne X ⟨b, 1, none⟩ e1
  have KX := hide' E0
  clear E0 cal fal
  have hst : (store ⟨X.heap.size, 12, none⟩ (.float .f64 0)).run Tryz.prog (X.alloc (.cells #[.int .i8 11, .int .i64 ln, .int .i64 cl, .string ⟨#[]⟩, .int .i64 0, .int .i64 0, .string ⟨#[]⟩, .int .i64 0, .int .i64 0, .slice none 0 0, .bool false, .int .i8 0, .float .f64 0] 59)).drew = .ok () ((X.alloc (.cells #[.int .i8 11, .int .i64 ln, .int .i64 cl, .string ⟨#[]⟩, .int .i64 0, .int .i64 0, .string ⟨#[]⟩, .int .i64 0, .int .i64 0, .slice none 0 0, .bool false, .int .i8 0, .float .f64 0] 59)).drew.setCell ⟨X.heap.size, 12, none⟩ (.float .f64 0)) := store_one (u := .float .f64 0) (by rw [Lib.cell_of_heap (w := (X.alloc (.cells #[.int .i8 11, .int .i64 ln, .int .i64 cl, .string ⟨#[]⟩, .int .i64 0, .int .i64 0, .string ⟨#[]⟩, .int .i64 0, .int .i64 0, .slice none 0 0, .bool false, .int .i8 0, .float .f64 0] 59)).drew) (heap_alloc_new X _)]; rfl) (Lib.frozen_of_heap (w := (X.alloc (.cells #[.int .i8 11, .int .i64 ln, .int .i64 cl, .string ⟨#[]⟩, .int .i64 0, .int .i64 0, .string ⟨#[]⟩, .int .i64 0, .int .i64 0, .slice none 0 0, .bool false, .int .i8 0, .float .f64 0] 59)).drew) (heap_alloc_new X _) 12) (by simp [Value.oneCell'])
  go_region_held3 (fun w' => w'.cell? ⟨b, 1, none⟩ = some (.int .i64 ln) ∧ w'.cell? ⟨b, 2, none⟩ = some (.int .i64 cl)) (first | go_keep) (fail)
  rename_i hHeld
  clear hHeld e1 e2 new1 hst
  have E1 := KX.out.go H.out.1 [.int .i8 11, .int .i64 ln, .int .i64 cl, .string ⟨#[]⟩, .int .i64 0, .int .i64 0, .string ⟨#[]⟩, .int .i64 0, .int .i64 0, .slice none 0 0, .bool false, .int .i8 0, .float .f64 0]
  generalize (X.alloc (.cells #[.int .i8 11, .int .i64 ln, .int .i64 cl, .string ⟨#[]⟩, .int .i64 0, .int .i64 0, .string ⟨#[]⟩, .int .i64 0, .int .i64 0, .slice none 0 0, .bool false, .int .i8 0, .float .f64 0] 59)).drew = W0 at *
  generalize X.heap.size = g at *
  have K0 := hide' E1
  clear E1 KX
  have y0 := K0.out.k 10 _ rfl
  go_wp2_with fail
  obtain ⟨m0, hm0⟩ : ∃ x, ln = x := ⟨_, rfl⟩
  obtain ⟨n0, hn0⟩ : ∃ x, cl = x := ⟨_, rfl⟩
  subst hm0 hn0
  refine (put_any 1 ⟨#[100, 101, 110, 121]⟩ K0.out.ld (by have h0 := H.out.2.2.2; (try simp only [List.length_append, List.length_cons, List.length_nil]); omega)).mono ?_
  rintro e W1 ⟨rfl, v1, m1, n1, L, S⟩
  clear y0
  have K1 := hide' (K0.out.call L S)
  clear L S K0
  have b1 := K1.out.c 1 _ rfl
  go_wp2_with fail
  refine (lname_any head K1.out.ld (by have h0 := H.out.2.2.2; (try simp only [List.length_append, List.length_cons, List.length_nil]); omega)).mono ?_
  rintro e W2 ⟨⟨pk, pt, pl, pc⟩, v2, m2, n2, q2, rfl, ht, hn, L, S⟩
  unfold wv R.wdOf
  simp only at ht ⊢
  subst ht
  clear b1
  have K2 := hide' (K1.out.call L S)
  have Hp := hide' hn
  clear L S hn K1
  have y3 := K2.out.d 3 _ rfl
  have f3 := K2.out.f 3
  have y4 := K2.out.d 4 _ rfl
  have f4 := K2.out.f 4
  have y5 := K2.out.d 5 _ rfl
  have f5 := K2.out.f 5
  go_wp2_with fail
  refine (put_any 1 ⟨#[111, 110]⟩ (((K2.out.set 3 (.string pt)).set 4 (.int .i64 pl)).set 5 (.int .i64 pc)).ld (by have h0 := H.out.2.2.2; (try simp only [List.length_append, List.length_cons, List.length_nil]); omega)).mono ?_
  rintro e W3 ⟨rfl, v3, m3, n3, L, S⟩
  clear y3 f3 y4 f4 y5 f5
  have K3 := hide' ((((K2.out.set 3 (.string pt)).set 4 (.int .i64 pl)).set 5 (.int .i64 pc)).call L S)
  clear L S
  have b2 := K3.out.c 2 _ rfl
  go_wp2_with fail
  refine (lname_any on K3.out.ld (by have h0 := H.out.2.2.2; (try simp only [List.length_append, List.length_cons, List.length_nil]); omega)).mono ?_
  rintro e W4 ⟨⟨rk, rt, rl, rc⟩, v4, m4, n4, q4, rfl, ht, hn, L, S⟩
  unfold wv R.wdOf
  simp only at ht ⊢
  subst ht
  clear b2
  have K4 := hide' (K3.out.call L S)
  have Hr := hide' hn
  clear L S hn K3
  have y6 := K4.out.d 6 _ rfl
  have f6 := K4.out.f 6
  have y7 := K4.out.d 7 _ rfl
  have f7 := K4.out.f 7
  have y8 := K4.out.d 8 _ rfl
  have f8 := K4.out.f 8
  go_wp2_with fail
  refine (put_any 4 ⟨#[58]⟩ (((K4.out.set 6 (.string rt)).set 7 (.int .i64 rl)).set 8 (.int .i64 rc)).ld (by have h0 := H.out.2.2.2; (try simp only [List.length_append, List.length_cons, List.length_nil]); omega)).mono ?_
  rintro e W5 ⟨rfl, v5, m5, n5, L, S⟩
  clear y6 f6 y7 f7 y8 f8
  have K5 := hide' ((((K4.out.set 6 (.string rt)).set 7 (.int .i64 rl)).set 8 (.int .i64 rc)).call L S)
  clear L S
  have b4 := K5.out.c 4 _ rfl
  have b3 := K5.out.c 3 _ rfl
  go_wp2_with fail
  refine (llist_any names na nc K5.out.ld (H.out.2.1.2.old K5.out.old) H.out.2.1.1 (by have h0 := H.out.2.2.2; (try simp only [List.length_append, List.length_cons, List.length_nil]); omega)).mono ?_
  rintro e W6 ⟨N, ws, vv, v6, m6, n6, q6, rfl, row, hN, hNl, htx, L, S⟩
  clear b4 b3
  obtain ⟨sa, sc, rfl⟩ := row_form row
  have K6 := hide' (K5.out.names L S row)
  have HN := hide' (And.intro hN (And.intro hNl htx))
  clear L S row hN hNl htx K5
  have y9 := K6.out.d 9 _ rfl
  have f9 := K6.out.f 9
  have b6 := (K6.out.set 9 (.slice sa ws.length sc)).c 6 _ rfl
  go_wp2_with fail
  refine (figure_any num _).mono ?_
  rintro e w1 ⟨x, lv, rfl, hv, hxs, hw1⟩
  replace hw1 := hw1.symm
  subst hw1
  have HV := hide' (And.intro hv hxs)
  clear hv hxs
  go_wp2_with fail
  refine (put_any 4 ⟨#[59]⟩ (K6.out.set 9 (.slice sa ws.length sc)).ld (by have h0 := H.out.2.2.2; have h1 := HN.out.2.1; (try simp only [List.length_append, List.length_cons, List.length_nil]); omega)).mono ?_
  rintro e W7 ⟨rfl, v7, m7, n7, L, S⟩
  clear y9 f9 b6
  have K7 := hide' ((K6.out.set 9 (.slice sa ws.length sc)).call L S)
  clear L S
  go_wp2_with (first | (refine wpList_load_row rfl 59 _ rfl g rfl 59 _ _ _ K7.out.cur Tryz.underlying59 rfl (by kernel_rfl) ?_) | (refine wpList_store_row rfl 59 _ _ rfl (w.heap.size + 1) _ rfl rfl 59 _ K7.out.res (by kernel_rfl) rfl (by simp [Value.oneCell']) ?_))
  obtain ⟨k1, r1, t1, o1⟩ := K7.out.fin
  refine bodyPost_ret_by (results_cell_row rfl _ _ (w.heap.size + 1) 59 _ _ _ rfl k1 Tryz.underlying59 rfl (by kernel_rfl)) rfl ?_
  unfold LaidIs
  have hsz := H.out.2.2.1
  simp only [List.append_assoc, List.cons_append, List.nil_append] at r1
  refine ⟨(1, ⟨#[100, 101, 110, 121]⟩, ln, cl) :: (pk, pt, pl, pc) :: (1, ⟨#[111, 110]⟩, m2, n2) :: (rk, rt, rl, rc) :: (4, ⟨#[58]⟩, m4, n4) :: (N ++ [(4, ⟨#[59]⟩, m6, n6)]), ⟨11, ln, cl, (pt, pl, pc), (rt, rl, rc), ws, false, 0, 0⟩, (.slice sa ws.length sc), _, _, _, _, rfl, o1, R.Lay.reads_rule (kw := (1, ⟨#[100, 101, 110, 121]⟩, ln, cl)) (a := (pk, pt, pl, pc)) (b := (1, ⟨#[111, 110]⟩, m2, n2)) (c := (rk, rt, rl, rc)) (d := (4, ⟨#[58]⟩, m4, n4)) (s := (4, ⟨#[59]⟩, m6, n6)) (A := N) (C := []) rfl (k := 11) (by kernel_rfl) (by omega) Hp.out (R.Lay.is_of 1 _ _ _ _ rfl) Hr.out (R.Lay.is_of 4 _ _ _ _ rfl) (rule_names HN.out.1) (rule_none (R.Lay.is_of 4 _ _ _ _ rfl)) (fun t ht => by simp at ht; subst ht; exact R.Lay.semi_comma (R.Lay.is_of 4 _ _ _ _ rfl)) (R.Lay.is_of 4 _ _ _ _ rfl), ?_, ?_, ?_, r1, t1⟩
  · intro y hy
    simp only [List.mem_append, List.mem_cons, List.not_mem_nil, or_false] at hy
    rcases hy with hy | hy | hy | hy | hy | hy | hy
    · subst hy; simp
    · subst hy; exact nm_five Hp.out
    · subst hy; simp
    · subst hy; exact nm_five Hr.out
    · subst hy; simp
    · exact nms_five HN.out.1 y hy
    · subst hy; simp
  · simp only [List.length_append, List.length_cons, List.length_nil]
    have := HN.out.2.1; omega
  · intro y hy
    simp only [List.mem_append, List.mem_cons, List.not_mem_nil, or_false] at hy
    rcases hy with hy | hy | hy | hy | hy | hy | hy
    · subst hy; exact of_decide_eq_true rfl
    · subst hy; exact hsz.1
    · subst hy; exact of_decide_eq_true rfl
    · subst hy; exact hsz.2.1
    · subst hy; exact of_decide_eq_true rfl
    · rcases HN.out.2.2 y hy with q | q; exact hsz.2.2.2.2 _ q; omega
    · subst hy; exact of_decide_eq_true rfl
end Go.Proofs.YtfgblchnnhdlnaaGreatDoor
set_option linter.unusedVariables false
set_option linter.unusedSimpArgs false
namespace Go.Proofs.YtfgblchnnhdlnaaGreatDoor
open Go.RowKit
variable {B b : Nat} {ts : List R.Tok} {v v' v'' : Value} {ln cl q : Int} {w w' w'' : World}
set_option maxRecDepth 100000 in
set_option maxHeartbeats 16000000 in
theorem laid10ax0 {sh : Sh} (h : Ld B b ts v ln cl q w) (hin : sh.In B w) (hsm : sh.Small) (few : ts.length + 2 * sh.names.length + 10 ≤ R.lim) (hP : pik (wrap64 (sh.kind - 1)) 12 = 9) (hall : sh.all = true) (hnum : sh.num.size ≠ 0) (hcond : pik sh.cond 2 = 0) :
    Calls Tryz.prog 22 #[.pointer (some ⟨b, 0, none⟩), .agg sh.cells.toArray] w fun e w' => LaidIs B b ts v sh.names.length w e w' := by
  obtain ⟨kind, head, on, na, names, nc, all, cond, num, quo, line, col⟩ := sh
  unfold Sh.Small at hsm
  unfold Sh.cells
  simp only at hP hsm few hall hnum hcond ⊢
  subst hall
  have c3 := h.c3
  have lt := h.lt
  have f3 := h.f 3
  have HP := hide' (fun w => pick_any (wrap64 (kind - 1)) 12 w ⟨by decide, by decide⟩)
  rw [hP] at HP
  have HC := hide' (fun w => pick_any cond 2 w ⟨by decide, by decide⟩)
  rw [hcond] at HC
  clear hcond
  have hne : (num.toList == []) = false := nonempty_beq num hnum
  have Hnum := hide' hnum
  clear hnum
  have cal : ∀ o o', ((w.alloc o).alloc o').cell? ⟨b, 3, none⟩ = some (.int .i64 q) := fun o o' => (World.cell?_of_block (w := w) ((Below.heap_alloc _ _ _ (by simp; omega)).trans (Below.heap_alloc _ _ _ lt))).trans c3
  have fal : ∀ o o', ((w.alloc o).alloc o').frozen? ⟨b, 3, none⟩ = false := fun o o' => (World.frozen?_of_block (w := w) ((Below.heap_alloc _ _ _ (by simp; omega)).trans (Below.heap_alloc _ _ _ lt))).trans f3
  have H := hide' (And.intro h (And.intro hin (And.intro hsm few)))
  clear h hin hsm few hP c3 f3
  go_enter Tryz.func22, Tryz.ntmps22
  go_wp2_with fail
  refine (HP.out _).mono ?_
  rintro e w1 ⟨rfl, hw1⟩
  replace hw1 := hw1.symm
  subst hw1
  clear HP
  go_wp2_with fail
  have E0 := L0.start H.out.1 ⟨kind, head, on, na, names, nc, true, cond, num, quo, line, col⟩
  unfold Sh.cells dz kws at E0
  simp only at E0
  generalize ((((w.setCell ⟨b, 3, none⟩ (.int .i64 quo)).alloc (.cells #[.int .i64 kind, .string head, .string on, .slice na names.length nc, .bool true, .int .i64 cond, .string num, .int .i64 quo, .int .i64 line, .int .i64 col] 53)).alloc (.cells #[.int .i8 0, .int .i64 0, .int .i64 0, .string ⟨#[]⟩, .int .i64 0, .int .i64 0, .string ⟨#[]⟩, .int .i64 0, .int .i64 0, .slice none 0 0, .bool false, .int .i8 0, .float .f64 0] 59)).alloc (.cells #[.string ⟨#[97, 99, 116, 105, 111, 110]⟩, .string ⟨#[115, 117, 98, 106, 101, 99, 116]⟩, .string ⟨#[114, 111, 108, 101]⟩, .string ⟨#[111, 98, 106, 101, 99, 116]⟩, .string ⟨#[103, 114, 111, 117, 112]⟩, .string ⟨#[109, 101, 109, 98, 101, 114]⟩, .string ⟨#[105, 110, 104, 101, 114, 105, 116]⟩, .string ⟨#[112, 97, 114, 116]⟩, .string ⟨#[119, 105, 116, 104, 105, 110]⟩, .string ⟨#[97, 108, 108, 111, 119]⟩, .string ⟨#[100, 101, 110, 121]⟩, .string ⟨#[101, 120, 99, 101, 112, 116]⟩] 9)) = X at *
  have e1 := E0.ld.c1
  have e2 := E0.ld.c2
  have new1 := World.new_ne X ⟨b, 1, none⟩ e1
  have KX := hide' E0
  clear E0 cal fal
  have hst : (store ⟨X.heap.size, 12, none⟩ (.float .f64 0)).run Tryz.prog (X.alloc (.cells #[.int .i8 10, .int .i64 ln, .int .i64 cl, .string ⟨#[]⟩, .int .i64 0, .int .i64 0, .string ⟨#[]⟩, .int .i64 0, .int .i64 0, .slice none 0 0, .bool false, .int .i8 0, .float .f64 0] 59)).drew = .ok () ((X.alloc (.cells #[.int .i8 10, .int .i64 ln, .int .i64 cl, .string ⟨#[]⟩, .int .i64 0, .int .i64 0, .string ⟨#[]⟩, .int .i64 0, .int .i64 0, .slice none 0 0, .bool false, .int .i8 0, .float .f64 0] 59)).drew.setCell ⟨X.heap.size, 12, none⟩ (.float .f64 0)) := store_one (u := .float .f64 0) (by rw [Lib.cell_of_heap (w := (X.alloc (.cells #[.int .i8 10, .int .i64 ln, .int .i64 cl, .string ⟨#[]⟩, .int .i64 0, .int .i64 0, .string ⟨#[]⟩, .int .i64 0, .int .i64 0, .slice none 0 0, .bool false, .int .i8 0, .float .f64 0] 59)).drew) (heap_alloc_new X _)]; rfl) (Lib.frozen_of_heap (w := (X.alloc (.cells #[.int .i8 10, .int .i64 ln, .int .i64 cl, .string ⟨#[]⟩, .int .i64 0, .int .i64 0, .string ⟨#[]⟩, .int .i64 0, .int .i64 0, .slice none 0 0, .bool false, .int .i8 0, .float .f64 0] 59)).drew) (heap_alloc_new X _) 12) (by simp [Value.oneCell'])
  go_region_held3 (fun w' => w'.cell? ⟨b, 1, none⟩ = some (.int .i64 ln) ∧ w'.cell? ⟨b, 2, none⟩ = some (.int .i64 cl)) (first | go_keep) (fail)
  rename_i hHeld
  clear hHeld e1 e2 new1 hst
  have E1 := KX.out.go H.out.1 [.int .i8 10, .int .i64 ln, .int .i64 cl, .string ⟨#[]⟩, .int .i64 0, .int .i64 0, .string ⟨#[]⟩, .int .i64 0, .int .i64 0, .slice none 0 0, .bool false, .int .i8 0, .float .f64 0]
  generalize (X.alloc (.cells #[.int .i8 10, .int .i64 ln, .int .i64 cl, .string ⟨#[]⟩, .int .i64 0, .int .i64 0, .string ⟨#[]⟩, .int .i64 0, .int .i64 0, .slice none 0 0, .bool false, .int .i8 0, .float .f64 0] 59)).drew = W0 at *
  generalize X.heap.size = g at *
  have K0 := hide' E1
  clear E1 KX
  have y0 := K0.out.k 9 _ rfl
  go_wp2_with fail
  obtain ⟨m0, hm0⟩ : ∃ x, ln = x := ⟨_, rfl⟩
  obtain ⟨n0, hn0⟩ : ∃ x, cl = x := ⟨_, rfl⟩
  subst hm0 hn0
  refine (put_any 1 ⟨#[97, 108, 108, 111, 119]⟩ K0.out.ld (by have h0 := H.out.2.2.2; (try simp only [List.length_append, List.length_cons, List.length_nil]); omega)).mono ?_
  rintro e W1 ⟨rfl, v1, m1, n1, L, S⟩
  clear y0
  have K1 := hide' (K0.out.call L S)
  clear L S K0
  have b1 := K1.out.c 1 _ rfl
  go_wp2_with fail
  refine (lname_any head K1.out.ld (by have h0 := H.out.2.2.2; (try simp only [List.length_append, List.length_cons, List.length_nil]); omega)).mono ?_
  rintro e W2 ⟨⟨pk, pt, pl, pc⟩, v2, m2, n2, q2, rfl, ht, hn, L, S⟩
  unfold wv R.wdOf
  simp only at ht ⊢
  subst ht
  clear b1
  have K2 := hide' (K1.out.call L S)
  have Hp := hide' hn
  clear L S hn K1
  have y3 := K2.out.d 3 _ rfl
  have f3 := K2.out.f 3
  have y4 := K2.out.d 4 _ rfl
  have f4 := K2.out.f 4
  have y5 := K2.out.d 5 _ rfl
  have f5 := K2.out.f 5
  go_wp2_with fail
  refine (put_any 1 ⟨#[111, 110]⟩ (((K2.out.set 3 (.string pt)).set 4 (.int .i64 pl)).set 5 (.int .i64 pc)).ld (by have h0 := H.out.2.2.2; (try simp only [List.length_append, List.length_cons, List.length_nil]); omega)).mono ?_
  rintro e W3 ⟨rfl, v3, m3, n3, L, S⟩
  clear y3 f3 y4 f4 y5 f5
  have K3 := hide' ((((K2.out.set 3 (.string pt)).set 4 (.int .i64 pl)).set 5 (.int .i64 pc)).call L S)
  clear L S
  have b2 := K3.out.c 2 _ rfl
  go_wp2_with fail
  refine (lname_any on K3.out.ld (by have h0 := H.out.2.2.2; (try simp only [List.length_append, List.length_cons, List.length_nil]); omega)).mono ?_
  rintro e W4 ⟨⟨rk, rt, rl, rc⟩, v4, m4, n4, q4, rfl, ht, hn, L, S⟩
  unfold wv R.wdOf
  simp only at ht ⊢
  subst ht
  clear b2
  have K4 := hide' (K3.out.call L S)
  have Hr := hide' hn
  clear L S hn K3
  have y6 := K4.out.d 6 _ rfl
  have f6 := K4.out.f 6
  have y7 := K4.out.d 7 _ rfl
  have f7 := K4.out.f 7
  have y8 := K4.out.d 8 _ rfl
  have f8 := K4.out.f 8
  go_wp2_with fail
  refine (put_any 4 ⟨#[58]⟩ (((K4.out.set 6 (.string rt)).set 7 (.int .i64 rl)).set 8 (.int .i64 rc)).ld (by have h0 := H.out.2.2.2; (try simp only [List.length_append, List.length_cons, List.length_nil]); omega)).mono ?_
  rintro e W5 ⟨rfl, v5, m5, n5, L, S⟩
  clear y6 f6 y7 f7 y8 f8
  have K5 := hide' ((((K4.out.set 6 (.string rt)).set 7 (.int .i64 rl)).set 8 (.int .i64 rc)).call L S)
  clear L S
  have b4 := K5.out.c 4 _ rfl
  have y10 := K5.out.d 10 _ rfl
  have f10 := K5.out.f 10
  go_wp2_with fail
  refine (put_any 4 ⟨#[42]⟩ (K5.out.set 10 (.bool true)).ld (by have h0 := H.out.2.2.2; (try simp only [List.length_append, List.length_cons, List.length_nil]); omega)).mono ?_
  rintro e W6 ⟨rfl, v6, m6, n6, L, S⟩
  clear b4 y10 f10
  have K6 := hide' ((K5.out.set 10 (.bool true)).call L S)
  clear L S
  have b6 := K6.out.c 6 _ rfl
  go_wp2_with fail
  refine (figure_any num _).mono ?_
  rintro e w1 ⟨x, lv, rfl, hv, hxs, hw1⟩
  replace hw1 := hw1.symm
  subst hw1
  have HV := hide' (And.intro hv hxs)
  clear hv hxs
  have b5 := K6.out.c 5 _ rfl
  go_wp2_with fail
  refine (HC.out _).mono ?_
  rintro e w1 ⟨rfl, hw1⟩
  replace hw1 := hw1.symm
  subst hw1
  have y11 := K6.out.d 11 _ rfl
  have f11 := K6.out.f 11
  have a11 := fun o => ((K6.out.set 11 (.int .i8 1)).quiet ((Below.refl _ _).alloc (Nat.le_refl _) o)).d 11 _ rfl
  go_wp2_with fail
  refine (put_any 1 ⟨#[97, 98, 111, 118, 101]⟩ ((K6.out.set 11 (.int .i8 1)).quiet ((Below.refl _ _).alloc (Nat.le_refl _) (.cells #[.string ⟨#[97, 98, 111, 118, 101]⟩, .string ⟨#[98, 101, 108, 111, 119]⟩] 9))).ld (by have h0 := H.out.2.2.2; (try simp only [List.length_append, List.length_cons, List.length_nil]); omega)).mono ?_
  rintro e W7 ⟨rfl, v7, m7, n7, L, S⟩
  clear b6 b5 y11 f11 a11
  have K7 := hide' (((K6.out.set 11 (.int .i8 1)).quiet ((Below.refl _ _).alloc (Nat.le_refl _) (.cells #[.string ⟨#[97, 98, 111, 118, 101]⟩, .string ⟨#[98, 101, 108, 111, 119]⟩] 9))).call L S)
  clear L S
  go_wp2_with fail
  refine (put_any 3 x K7.out.ld (by have h0 := H.out.2.2.2; (try simp only [List.length_append, List.length_cons, List.length_nil]); omega)).mono ?_
  rintro e W8 ⟨rfl, v8, m8, n8, L, S⟩
  have K8 := hide' (K7.out.call L S)
  clear L S K7
  have s12 := store_one (v := .float .f64 lv) (K8.out.d 12 _ rfl) (K8.out.f 12) (by simp [Value.oneCell'])
  go_wp2_with fail
  refine (put_any 4 ⟨#[59]⟩ (K8.out.set 12 (.float .f64 lv)).ld (by have h0 := H.out.2.2.2; (try simp only [List.length_append, List.length_cons, List.length_nil]); omega)).mono ?_
  rintro e W9 ⟨rfl, v9, m9, n9, L, S⟩
  clear s12
  have K9 := hide' ((K8.out.set 12 (.float .f64 lv)).call L S)
  clear L S
  go_wp2_with (first | (refine wpList_load_row rfl 59 _ rfl g rfl 59 _ _ _ K9.out.cur Tryz.underlying59 rfl (by kernel_rfl) ?_) | (refine wpList_store_row rfl 59 _ _ rfl (w.heap.size + 1) _ rfl rfl 59 _ K9.out.res (by kernel_rfl) rfl (by simp [Value.oneCell']) ?_))
  obtain ⟨k1, r1, t1, o1⟩ := K9.out.fin
  refine bodyPost_ret_by (results_cell_row rfl _ _ (w.heap.size + 1) 59 _ _ _ rfl k1 Tryz.underlying59 rfl (by kernel_rfl)) rfl ?_
  unfold LaidIs
  have hsz := H.out.2.2.1
  simp only [List.append_assoc, List.cons_append, List.nil_append] at r1
  refine ⟨[(1, ⟨#[97, 108, 108, 111, 119]⟩, ln, cl), (pk, pt, pl, pc), (1, ⟨#[111, 110]⟩, m2, n2), (rk, rt, rl, rc), (4, ⟨#[58]⟩, m4, n4), (4, ⟨#[42]⟩, m5, n5), (1, ⟨#[97, 98, 111, 118, 101]⟩, m6, n6), (3, x, m7, n7), (4, ⟨#[59]⟩, m8, n8)], ⟨10, ln, cl, (pt, pl, pc), (rt, rl, rc), [], true, 1, lv⟩, (.slice none 0 0), _, _, _, _, rfl, o1, (by have hv := HV.out.1 (by have := Hnum.out; omega); have := R.Lay.reads_rule (kw := (1, ⟨#[97, 108, 108, 111, 119]⟩, ln, cl)) (a := (pk, pt, pl, pc)) (b := (1, ⟨#[111, 110]⟩, m2, n2)) (c := (rk, rt, rl, rc)) (d := (4, ⟨#[58]⟩, m4, n4)) (s := (4, ⟨#[59]⟩, m8, n8)) (A := [(4, ⟨#[42]⟩, m5, n5)]) (C := [(1, ⟨#[97, 98, 111, 118, 101]⟩, m6, n6), (3, x, m7, n7)]) rfl (k := 10) (by kernel_rfl) (by omega) Hp.out (R.Lay.is_of 1 _ _ _ _ rfl) Hr.out (R.Lay.is_of 4 _ _ _ _ rfl) (rule_star _ (R.Lay.is_of 4 _ _ _ _ rfl)) (rule_cond1 (R.Lay.is_of 1 _ _ _ _ rfl) rfl hv.1) (fun t ht => by simp at ht; subst ht; exact R.Lay.word_comma (R.Lay.is_of 1 _ _ _ _ rfl)) (R.Lay.is_of 4 _ _ _ _ rfl); rw [hv.2] at this; exact this), ?_, ?_, ?_, r1, t1⟩
  · intro y hy
    simp only [List.mem_append, List.mem_cons, List.not_mem_nil, or_false] at hy
    rcases hy with hy | hy | hy | hy | hy | hy | hy | hy | hy
    · subst hy; simp
    · subst hy; exact nm_five Hp.out
    · subst hy; simp
    · subst hy; exact nm_five Hr.out
    · subst hy; simp
    · subst hy; simp
    · subst hy; simp
    · subst hy; simp
    · subst hy; simp
  · simp only [List.length_append, List.length_cons, List.length_nil]
    omega
  · intro y hy
    simp only [List.mem_append, List.mem_cons, List.not_mem_nil, or_false] at hy
    rcases hy with hy | hy | hy | hy | hy | hy | hy | hy | hy
    · subst hy; exact of_decide_eq_true rfl
    · subst hy; exact hsz.1
    · subst hy; exact of_decide_eq_true rfl
    · subst hy; exact hsz.2.1
    · subst hy; exact of_decide_eq_true rfl
    · subst hy; exact of_decide_eq_true rfl
    · subst hy; exact of_decide_eq_true rfl
    · subst hy; have := HV.out.2; simp only; omega
    · subst hy; exact of_decide_eq_true rfl
set_option maxRecDepth 100000 in
set_option maxHeartbeats 16000000 in
theorem laid10ax1 {sh : Sh} (h : Ld B b ts v ln cl q w) (hin : sh.In B w) (hsm : sh.Small) (few : ts.length + 2 * sh.names.length + 10 ≤ R.lim) (hP : pik (wrap64 (sh.kind - 1)) 12 = 9) (hall : sh.all = true) (hnum : sh.num.size ≠ 0) (hcond : pik sh.cond 2 = 1) :
    Calls Tryz.prog 22 #[.pointer (some ⟨b, 0, none⟩), .agg sh.cells.toArray] w fun e w' => LaidIs B b ts v sh.names.length w e w' := by
  obtain ⟨kind, head, on, na, names, nc, all, cond, num, quo, line, col⟩ := sh
  unfold Sh.Small at hsm
  unfold Sh.cells
  simp only at hP hsm few hall hnum hcond ⊢
  subst hall
  have c3 := h.c3
  have lt := h.lt
  have f3 := h.f 3
  have HP := hide' (fun w => pick_any (wrap64 (kind - 1)) 12 w ⟨by decide, by decide⟩)
  rw [hP] at HP
  have HC := hide' (fun w => pick_any cond 2 w ⟨by decide, by decide⟩)
  rw [hcond] at HC
  clear hcond
  have hne : (num.toList == []) = false := nonempty_beq num hnum
  have Hnum := hide' hnum
  clear hnum
  have cal : ∀ o o', ((w.alloc o).alloc o').cell? ⟨b, 3, none⟩ = some (.int .i64 q) := fun o o' => (World.cell?_of_block (w := w) ((Below.heap_alloc _ _ _ (by simp; omega)).trans (Below.heap_alloc _ _ _ lt))).trans c3
  have fal : ∀ o o', ((w.alloc o).alloc o').frozen? ⟨b, 3, none⟩ = false := fun o o' => (World.frozen?_of_block (w := w) ((Below.heap_alloc _ _ _ (by simp; omega)).trans (Below.heap_alloc _ _ _ lt))).trans f3
  have H := hide' (And.intro h (And.intro hin (And.intro hsm few)))
  clear h hin hsm few hP c3 f3
  go_enter Tryz.func22, Tryz.ntmps22
  go_wp2_with fail
  refine (HP.out _).mono ?_
  rintro e w1 ⟨rfl, hw1⟩
  replace hw1 := hw1.symm
  subst hw1
  clear HP
  go_wp2_with fail
  have E0 := L0.start H.out.1 ⟨kind, head, on, na, names, nc, true, cond, num, quo, line, col⟩
  unfold Sh.cells dz kws at E0
  simp only at E0
  generalize ((((w.setCell ⟨b, 3, none⟩ (.int .i64 quo)).alloc (.cells #[.int .i64 kind, .string head, .string on, .slice na names.length nc, .bool true, .int .i64 cond, .string num, .int .i64 quo, .int .i64 line, .int .i64 col] 53)).alloc (.cells #[.int .i8 0, .int .i64 0, .int .i64 0, .string ⟨#[]⟩, .int .i64 0, .int .i64 0, .string ⟨#[]⟩, .int .i64 0, .int .i64 0, .slice none 0 0, .bool false, .int .i8 0, .float .f64 0] 59)).alloc (.cells #[.string ⟨#[97, 99, 116, 105, 111, 110]⟩, .string ⟨#[115, 117, 98, 106, 101, 99, 116]⟩, .string ⟨#[114, 111, 108, 101]⟩, .string ⟨#[111, 98, 106, 101, 99, 116]⟩, .string ⟨#[103, 114, 111, 117, 112]⟩, .string ⟨#[109, 101, 109, 98, 101, 114]⟩, .string ⟨#[105, 110, 104, 101, 114, 105, 116]⟩, .string ⟨#[112, 97, 114, 116]⟩, .string ⟨#[119, 105, 116, 104, 105, 110]⟩, .string ⟨#[97, 108, 108, 111, 119]⟩, .string ⟨#[100, 101, 110, 121]⟩, .string ⟨#[101, 120, 99, 101, 112, 116]⟩] 9)) = X at *
  have e1 := E0.ld.c1
  have e2 := E0.ld.c2
  have new1 := World.new_ne X ⟨b, 1, none⟩ e1
  have KX := hide' E0
  clear E0 cal fal
  have hst : (store ⟨X.heap.size, 12, none⟩ (.float .f64 0)).run Tryz.prog (X.alloc (.cells #[.int .i8 10, .int .i64 ln, .int .i64 cl, .string ⟨#[]⟩, .int .i64 0, .int .i64 0, .string ⟨#[]⟩, .int .i64 0, .int .i64 0, .slice none 0 0, .bool false, .int .i8 0, .float .f64 0] 59)).drew = .ok () ((X.alloc (.cells #[.int .i8 10, .int .i64 ln, .int .i64 cl, .string ⟨#[]⟩, .int .i64 0, .int .i64 0, .string ⟨#[]⟩, .int .i64 0, .int .i64 0, .slice none 0 0, .bool false, .int .i8 0, .float .f64 0] 59)).drew.setCell ⟨X.heap.size, 12, none⟩ (.float .f64 0)) := store_one (u := .float .f64 0) (by rw [Lib.cell_of_heap (w := (X.alloc (.cells #[.int .i8 10, .int .i64 ln, .int .i64 cl, .string ⟨#[]⟩, .int .i64 0, .int .i64 0, .string ⟨#[]⟩, .int .i64 0, .int .i64 0, .slice none 0 0, .bool false, .int .i8 0, .float .f64 0] 59)).drew) (heap_alloc_new X _)]; rfl) (Lib.frozen_of_heap (w := (X.alloc (.cells #[.int .i8 10, .int .i64 ln, .int .i64 cl, .string ⟨#[]⟩, .int .i64 0, .int .i64 0, .string ⟨#[]⟩, .int .i64 0, .int .i64 0, .slice none 0 0, .bool false, .int .i8 0, .float .f64 0] 59)).drew) (heap_alloc_new X _) 12) (by simp [Value.oneCell'])
  go_region_held3 (fun w' => w'.cell? ⟨b, 1, none⟩ = some (.int .i64 ln) ∧ w'.cell? ⟨b, 2, none⟩ = some (.int .i64 cl)) (first | go_keep) (fail)
  rename_i hHeld
  clear hHeld e1 e2 new1 hst
  have E1 := KX.out.go H.out.1 [.int .i8 10, .int .i64 ln, .int .i64 cl, .string ⟨#[]⟩, .int .i64 0, .int .i64 0, .string ⟨#[]⟩, .int .i64 0, .int .i64 0, .slice none 0 0, .bool false, .int .i8 0, .float .f64 0]
  generalize (X.alloc (.cells #[.int .i8 10, .int .i64 ln, .int .i64 cl, .string ⟨#[]⟩, .int .i64 0, .int .i64 0, .string ⟨#[]⟩, .int .i64 0, .int .i64 0, .slice none 0 0, .bool false, .int .i8 0, .float .f64 0] 59)).drew = W0 at *
  generalize X.heap.size = g at *
  have K0 := hide' E1
  clear E1 KX
  have y0 := K0.out.k 9 _ rfl
  go_wp2_with fail
  obtain ⟨m0, hm0⟩ : ∃ x, ln = x := ⟨_, rfl⟩
  obtain ⟨n0, hn0⟩ : ∃ x, cl = x := ⟨_, rfl⟩
  subst hm0 hn0
  refine (put_any 1 ⟨#[97, 108, 108, 111, 119]⟩ K0.out.ld (by have h0 := H.out.2.2.2; (try simp only [List.length_append, List.length_cons, List.length_nil]); omega)).mono ?_
  rintro e W1 ⟨rfl, v1, m1, n1, L, S⟩
  clear y0
  have K1 := hide' (K0.out.call L S)
  clear L S K0
  have b1 := K1.out.c 1 _ rfl
  go_wp2_with fail
  refine (lname_any head K1.out.ld (by have h0 := H.out.2.2.2; (try simp only [List.length_append, List.length_cons, List.length_nil]); omega)).mono ?_
  rintro e W2 ⟨⟨pk, pt, pl, pc⟩, v2, m2, n2, q2, rfl, ht, hn, L, S⟩
  unfold wv R.wdOf
  simp only at ht ⊢
  subst ht
  clear b1
  have K2 := hide' (K1.out.call L S)
  have Hp := hide' hn
  clear L S hn K1
  have y3 := K2.out.d 3 _ rfl
  have f3 := K2.out.f 3
  have y4 := K2.out.d 4 _ rfl
  have f4 := K2.out.f 4
  have y5 := K2.out.d 5 _ rfl
  have f5 := K2.out.f 5
  go_wp2_with fail
  refine (put_any 1 ⟨#[111, 110]⟩ (((K2.out.set 3 (.string pt)).set 4 (.int .i64 pl)).set 5 (.int .i64 pc)).ld (by have h0 := H.out.2.2.2; (try simp only [List.length_append, List.length_cons, List.length_nil]); omega)).mono ?_
  rintro e W3 ⟨rfl, v3, m3, n3, L, S⟩
  clear y3 f3 y4 f4 y5 f5
  have K3 := hide' ((((K2.out.set 3 (.string pt)).set 4 (.int .i64 pl)).set 5 (.int .i64 pc)).call L S)
  clear L S
  have b2 := K3.out.c 2 _ rfl
  go_wp2_with fail
  refine (lname_any on K3.out.ld (by have h0 := H.out.2.2.2; (try simp only [List.length_append, List.length_cons, List.length_nil]); omega)).mono ?_
  rintro e W4 ⟨⟨rk, rt, rl, rc⟩, v4, m4, n4, q4, rfl, ht, hn, L, S⟩
  unfold wv R.wdOf
  simp only at ht ⊢
  subst ht
  clear b2
  have K4 := hide' (K3.out.call L S)
  have Hr := hide' hn
  clear L S hn K3
  have y6 := K4.out.d 6 _ rfl
  have f6 := K4.out.f 6
  have y7 := K4.out.d 7 _ rfl
  have f7 := K4.out.f 7
  have y8 := K4.out.d 8 _ rfl
  have f8 := K4.out.f 8
  go_wp2_with fail
  refine (put_any 4 ⟨#[58]⟩ (((K4.out.set 6 (.string rt)).set 7 (.int .i64 rl)).set 8 (.int .i64 rc)).ld (by have h0 := H.out.2.2.2; (try simp only [List.length_append, List.length_cons, List.length_nil]); omega)).mono ?_
  rintro e W5 ⟨rfl, v5, m5, n5, L, S⟩
  clear y6 f6 y7 f7 y8 f8
  have K5 := hide' ((((K4.out.set 6 (.string rt)).set 7 (.int .i64 rl)).set 8 (.int .i64 rc)).call L S)
  clear L S
  have b4 := K5.out.c 4 _ rfl
  have y10 := K5.out.d 10 _ rfl
  have f10 := K5.out.f 10
  go_wp2_with fail
  refine (put_any 4 ⟨#[42]⟩ (K5.out.set 10 (.bool true)).ld (by have h0 := H.out.2.2.2; (try simp only [List.length_append, List.length_cons, List.length_nil]); omega)).mono ?_
  rintro e W6 ⟨rfl, v6, m6, n6, L, S⟩
  clear b4 y10 f10
  have K6 := hide' ((K5.out.set 10 (.bool true)).call L S)
  clear L S
  have b6 := K6.out.c 6 _ rfl
  go_wp2_with fail
  refine (figure_any num _).mono ?_
  rintro e w1 ⟨x, lv, rfl, hv, hxs, hw1⟩
  replace hw1 := hw1.symm
  subst hw1
  have HV := hide' (And.intro hv hxs)
  clear hv hxs
  have b5 := K6.out.c 5 _ rfl
  go_wp2_with fail
  refine (HC.out _).mono ?_
  rintro e w1 ⟨rfl, hw1⟩
  replace hw1 := hw1.symm
  subst hw1
  have y11 := K6.out.d 11 _ rfl
  have f11 := K6.out.f 11
  have a11 := fun o => ((K6.out.set 11 (.int .i8 2)).quiet ((Below.refl _ _).alloc (Nat.le_refl _) o)).d 11 _ rfl
  go_wp2_with fail
  refine (put_any 1 ⟨#[98, 101, 108, 111, 119]⟩ ((K6.out.set 11 (.int .i8 2)).quiet ((Below.refl _ _).alloc (Nat.le_refl _) (.cells #[.string ⟨#[97, 98, 111, 118, 101]⟩, .string ⟨#[98, 101, 108, 111, 119]⟩] 9))).ld (by have h0 := H.out.2.2.2; (try simp only [List.length_append, List.length_cons, List.length_nil]); omega)).mono ?_
  rintro e W7 ⟨rfl, v7, m7, n7, L, S⟩
  clear b6 b5 y11 f11 a11
  have K7 := hide' (((K6.out.set 11 (.int .i8 2)).quiet ((Below.refl _ _).alloc (Nat.le_refl _) (.cells #[.string ⟨#[97, 98, 111, 118, 101]⟩, .string ⟨#[98, 101, 108, 111, 119]⟩] 9))).call L S)
  clear L S
  go_wp2_with fail
  refine (put_any 3 x K7.out.ld (by have h0 := H.out.2.2.2; (try simp only [List.length_append, List.length_cons, List.length_nil]); omega)).mono ?_
  rintro e W8 ⟨rfl, v8, m8, n8, L, S⟩
  have K8 := hide' (K7.out.call L S)
  clear L S K7
  have s12 := store_one (v := .float .f64 lv) (K8.out.d 12 _ rfl) (K8.out.f 12) (by simp [Value.oneCell'])
  go_wp2_with fail
  refine (put_any 4 ⟨#[59]⟩ (K8.out.set 12 (.float .f64 lv)).ld (by have h0 := H.out.2.2.2; (try simp only [List.length_append, List.length_cons, List.length_nil]); omega)).mono ?_
  rintro e W9 ⟨rfl, v9, m9, n9, L, S⟩
  clear s12
  have K9 := hide' ((K8.out.set 12 (.float .f64 lv)).call L S)
  clear L S
  go_wp2_with (first | (refine wpList_load_row rfl 59 _ rfl g rfl 59 _ _ _ K9.out.cur Tryz.underlying59 rfl (by kernel_rfl) ?_) | (refine wpList_store_row rfl 59 _ _ rfl (w.heap.size + 1) _ rfl rfl 59 _ K9.out.res (by kernel_rfl) rfl (by simp [Value.oneCell']) ?_))
  obtain ⟨k1, r1, t1, o1⟩ := K9.out.fin
  refine bodyPost_ret_by (results_cell_row rfl _ _ (w.heap.size + 1) 59 _ _ _ rfl k1 Tryz.underlying59 rfl (by kernel_rfl)) rfl ?_
  unfold LaidIs
  have hsz := H.out.2.2.1
  simp only [List.append_assoc, List.cons_append, List.nil_append] at r1
  refine ⟨[(1, ⟨#[97, 108, 108, 111, 119]⟩, ln, cl), (pk, pt, pl, pc), (1, ⟨#[111, 110]⟩, m2, n2), (rk, rt, rl, rc), (4, ⟨#[58]⟩, m4, n4), (4, ⟨#[42]⟩, m5, n5), (1, ⟨#[98, 101, 108, 111, 119]⟩, m6, n6), (3, x, m7, n7), (4, ⟨#[59]⟩, m8, n8)], ⟨10, ln, cl, (pt, pl, pc), (rt, rl, rc), [], true, 2, lv⟩, (.slice none 0 0), _, _, _, _, rfl, o1, (by have hv := HV.out.1 (by have := Hnum.out; omega); have := R.Lay.reads_rule (kw := (1, ⟨#[97, 108, 108, 111, 119]⟩, ln, cl)) (a := (pk, pt, pl, pc)) (b := (1, ⟨#[111, 110]⟩, m2, n2)) (c := (rk, rt, rl, rc)) (d := (4, ⟨#[58]⟩, m4, n4)) (s := (4, ⟨#[59]⟩, m8, n8)) (A := [(4, ⟨#[42]⟩, m5, n5)]) (C := [(1, ⟨#[98, 101, 108, 111, 119]⟩, m6, n6), (3, x, m7, n7)]) rfl (k := 10) (by kernel_rfl) (by omega) Hp.out (R.Lay.is_of 1 _ _ _ _ rfl) Hr.out (R.Lay.is_of 4 _ _ _ _ rfl) (rule_star _ (R.Lay.is_of 4 _ _ _ _ rfl)) (rule_cond2 (R.Lay.is_of 1 _ _ _ _ rfl) rfl hv.1) (fun t ht => by simp at ht; subst ht; exact R.Lay.word_comma (R.Lay.is_of 1 _ _ _ _ rfl)) (R.Lay.is_of 4 _ _ _ _ rfl); rw [hv.2] at this; exact this), ?_, ?_, ?_, r1, t1⟩
  · intro y hy
    simp only [List.mem_append, List.mem_cons, List.not_mem_nil, or_false] at hy
    rcases hy with hy | hy | hy | hy | hy | hy | hy | hy | hy
    · subst hy; simp
    · subst hy; exact nm_five Hp.out
    · subst hy; simp
    · subst hy; exact nm_five Hr.out
    · subst hy; simp
    · subst hy; simp
    · subst hy; simp
    · subst hy; simp
    · subst hy; simp
  · simp only [List.length_append, List.length_cons, List.length_nil]
    omega
  · intro y hy
    simp only [List.mem_append, List.mem_cons, List.not_mem_nil, or_false] at hy
    rcases hy with hy | hy | hy | hy | hy | hy | hy | hy | hy
    · subst hy; exact of_decide_eq_true rfl
    · subst hy; exact hsz.1
    · subst hy; exact of_decide_eq_true rfl
    · subst hy; exact hsz.2.1
    · subst hy; exact of_decide_eq_true rfl
    · subst hy; exact of_decide_eq_true rfl
    · subst hy; exact of_decide_eq_true rfl
    · subst hy; have := HV.out.2; simp only; omega
    · subst hy; exact of_decide_eq_true rfl
set_option maxRecDepth 100000 in
set_option maxHeartbeats 16000000 in
theorem laid10nx0 {sh : Sh} (h : Ld B b ts v ln cl q w) (hin : sh.In B w) (hsm : sh.Small) (few : ts.length + 2 * sh.names.length + 10 ≤ R.lim) (hP : pik (wrap64 (sh.kind - 1)) 12 = 9) (hall : sh.all = false) (hnum : sh.num.size ≠ 0) (hcond : pik sh.cond 2 = 0) :
    Calls Tryz.prog 22 #[.pointer (some ⟨b, 0, none⟩), .agg sh.cells.toArray] w fun e w' => LaidIs B b ts v sh.names.length w e w' := by
  obtain ⟨kind, head, on, na, names, nc, all, cond, num, quo, line, col⟩ := sh
  unfold Sh.Small at hsm
  unfold Sh.cells
  simp only at hP hsm few hall hnum hcond ⊢
  subst hall
  have c3 := h.c3
  have lt := h.lt
  have f3 := h.f 3
  have HP := hide' (fun w => pick_any (wrap64 (kind - 1)) 12 w ⟨by decide, by decide⟩)
  rw [hP] at HP
  have HC := hide' (fun w => pick_any cond 2 w ⟨by decide, by decide⟩)
  rw [hcond] at HC
  clear hcond
  have hne : (num.toList == []) = false := nonempty_beq num hnum
  have Hnum := hide' hnum
  clear hnum
  have cal : ∀ o o', ((w.alloc o).alloc o').cell? ⟨b, 3, none⟩ = some (.int .i64 q) := fun o o' => (World.cell?_of_block (w := w) ((Below.heap_alloc _ _ _ (by simp; omega)).trans (Below.heap_alloc _ _ _ lt))).trans c3
  have fal : ∀ o o', ((w.alloc o).alloc o').frozen? ⟨b, 3, none⟩ = false := fun o o' => (World.frozen?_of_block (w := w) ((Below.heap_alloc _ _ _ (by simp; omega)).trans (Below.heap_alloc _ _ _ lt))).trans f3
  have H := hide' (And.intro h (And.intro hin (And.intro hsm few)))
  clear h hin hsm few hP c3 f3
  go_enter Tryz.func22, Tryz.ntmps22
  go_wp2_with fail
  refine (HP.out _).mono ?_
  rintro e w1 ⟨rfl, hw1⟩
  replace hw1 := hw1.symm
  subst hw1
  clear HP
  go_wp2_with fail
  have E0 := L0.start H.out.1 ⟨kind, head, on, na, names, nc, false, cond, num, quo, line, col⟩
  unfold Sh.cells dz kws at E0
  simp only at E0
  generalize ((((w.setCell ⟨b, 3, none⟩ (.int .i64 quo)).alloc (.cells #[.int .i64 kind, .string head, .string on, .slice na names.length nc, .bool false, .int .i64 cond, .string num, .int .i64 quo, .int .i64 line, .int .i64 col] 53)).alloc (.cells #[.int .i8 0, .int .i64 0, .int .i64 0, .string ⟨#[]⟩, .int .i64 0, .int .i64 0, .string ⟨#[]⟩, .int .i64 0, .int .i64 0, .slice none 0 0, .bool false, .int .i8 0, .float .f64 0] 59)).alloc (.cells #[.string ⟨#[97, 99, 116, 105, 111, 110]⟩, .string ⟨#[115, 117, 98, 106, 101, 99, 116]⟩, .string ⟨#[114, 111, 108, 101]⟩, .string ⟨#[111, 98, 106, 101, 99, 116]⟩, .string ⟨#[103, 114, 111, 117, 112]⟩, .string ⟨#[109, 101, 109, 98, 101, 114]⟩, .string ⟨#[105, 110, 104, 101, 114, 105, 116]⟩, .string ⟨#[112, 97, 114, 116]⟩, .string ⟨#[119, 105, 116, 104, 105, 110]⟩, .string ⟨#[97, 108, 108, 111, 119]⟩, .string ⟨#[100, 101, 110, 121]⟩, .string ⟨#[101, 120, 99, 101, 112, 116]⟩] 9)) = X at *
  have e1 := E0.ld.c1
  have e2 := E0.ld.c2
  have new1 := World.new_ne X ⟨b, 1, none⟩ e1
  have KX := hide' E0
  clear E0 cal fal
  have hst : (store ⟨X.heap.size, 12, none⟩ (.float .f64 0)).run Tryz.prog (X.alloc (.cells #[.int .i8 10, .int .i64 ln, .int .i64 cl, .string ⟨#[]⟩, .int .i64 0, .int .i64 0, .string ⟨#[]⟩, .int .i64 0, .int .i64 0, .slice none 0 0, .bool false, .int .i8 0, .float .f64 0] 59)).drew = .ok () ((X.alloc (.cells #[.int .i8 10, .int .i64 ln, .int .i64 cl, .string ⟨#[]⟩, .int .i64 0, .int .i64 0, .string ⟨#[]⟩, .int .i64 0, .int .i64 0, .slice none 0 0, .bool false, .int .i8 0, .float .f64 0] 59)).drew.setCell ⟨X.heap.size, 12, none⟩ (.float .f64 0)) := store_one (u := .float .f64 0) (by rw [Lib.cell_of_heap (w := (X.alloc (.cells #[.int .i8 10, .int .i64 ln, .int .i64 cl, .string ⟨#[]⟩, .int .i64 0, .int .i64 0, .string ⟨#[]⟩, .int .i64 0, .int .i64 0, .slice none 0 0, .bool false, .int .i8 0, .float .f64 0] 59)).drew) (heap_alloc_new X _)]; rfl) (Lib.frozen_of_heap (w := (X.alloc (.cells #[.int .i8 10, .int .i64 ln, .int .i64 cl, .string ⟨#[]⟩, .int .i64 0, .int .i64 0, .string ⟨#[]⟩, .int .i64 0, .int .i64 0, .slice none 0 0, .bool false, .int .i8 0, .float .f64 0] 59)).drew) (heap_alloc_new X _) 12) (by simp [Value.oneCell'])
  go_region_held3 (fun w' => w'.cell? ⟨b, 1, none⟩ = some (.int .i64 ln) ∧ w'.cell? ⟨b, 2, none⟩ = some (.int .i64 cl)) (first | go_keep) (fail)
  rename_i hHeld
  clear hHeld e1 e2 new1 hst
  have E1 := KX.out.go H.out.1 [.int .i8 10, .int .i64 ln, .int .i64 cl, .string ⟨#[]⟩, .int .i64 0, .int .i64 0, .string ⟨#[]⟩, .int .i64 0, .int .i64 0, .slice none 0 0, .bool false, .int .i8 0, .float .f64 0]
  generalize (X.alloc (.cells #[.int .i8 10, .int .i64 ln, .int .i64 cl, .string ⟨#[]⟩, .int .i64 0, .int .i64 0, .string ⟨#[]⟩, .int .i64 0, .int .i64 0, .slice none 0 0, .bool false, .int .i8 0, .float .f64 0] 59)).drew = W0 at *
  generalize X.heap.size = g at *
  have K0 := hide' E1
  clear E1 KX
  have y0 := K0.out.k 9 _ rfl
  go_wp2_with fail
  obtain ⟨m0, hm0⟩ : ∃ x, ln = x := ⟨_, rfl⟩
  obtain ⟨n0, hn0⟩ : ∃ x, cl = x := ⟨_, rfl⟩
  subst hm0 hn0
  refine (put_any 1 ⟨#[97, 108, 108, 111, 119]⟩ K0.out.ld (by have h0 := H.out.2.2.2; (try simp only [List.length_append, List.length_cons, List.length_nil]); omega)).mono ?_
  rintro e W1 ⟨rfl, v1, m1, n1, L, S⟩
  clear y0
  have K1 := hide' (K0.out.call L S)
  clear L S K0
  have b1 := K1.out.c 1 _ rfl
  go_wp2_with fail
  refine (lname_any head K1.out.ld (by have h0 := H.out.2.2.2; (try simp only [List.length_append, List.length_cons, List.length_nil]); omega)).mono ?_
  rintro e W2 ⟨⟨pk, pt, pl, pc⟩, v2, m2, n2, q2, rfl, ht, hn, L, S⟩
  unfold wv R.wdOf
  simp only at ht ⊢
  subst ht
  clear b1
  have K2 := hide' (K1.out.call L S)
  have Hp := hide' hn
  clear L S hn K1
  have y3 := K2.out.d 3 _ rfl
  have f3 := K2.out.f 3
  have y4 := K2.out.d 4 _ rfl
  have f4 := K2.out.f 4
  have y5 := K2.out.d 5 _ rfl
  have f5 := K2.out.f 5
  go_wp2_with fail
  refine (put_any 1 ⟨#[111, 110]⟩ (((K2.out.set 3 (.string pt)).set 4 (.int .i64 pl)).set 5 (.int .i64 pc)).ld (by have h0 := H.out.2.2.2; (try simp only [List.length_append, List.length_cons, List.length_nil]); omega)).mono ?_
  rintro e W3 ⟨rfl, v3, m3, n3, L, S⟩
  clear y3 f3 y4 f4 y5 f5
  have K3 := hide' ((((K2.out.set 3 (.string pt)).set 4 (.int .i64 pl)).set 5 (.int .i64 pc)).call L S)
  clear L S
  have b2 := K3.out.c 2 _ rfl
  go_wp2_with fail
  refine (lname_any on K3.out.ld (by have h0 := H.out.2.2.2; (try simp only [List.length_append, List.length_cons, List.length_nil]); omega)).mono ?_
  rintro e W4 ⟨⟨rk, rt, rl, rc⟩, v4, m4, n4, q4, rfl, ht, hn, L, S⟩
  unfold wv R.wdOf
  simp only at ht ⊢
  subst ht
  clear b2
  have K4 := hide' (K3.out.call L S)
  have Hr := hide' hn
  clear L S hn K3
  have y6 := K4.out.d 6 _ rfl
  have f6 := K4.out.f 6
  have y7 := K4.out.d 7 _ rfl
  have f7 := K4.out.f 7
  have y8 := K4.out.d 8 _ rfl
  have f8 := K4.out.f 8
  go_wp2_with fail
  refine (put_any 4 ⟨#[58]⟩ (((K4.out.set 6 (.string rt)).set 7 (.int .i64 rl)).set 8 (.int .i64 rc)).ld (by have h0 := H.out.2.2.2; (try simp only [List.length_append, List.length_cons, List.length_nil]); omega)).mono ?_
  rintro e W5 ⟨rfl, v5, m5, n5, L, S⟩
  clear y6 f6 y7 f7 y8 f8
  have K5 := hide' ((((K4.out.set 6 (.string rt)).set 7 (.int .i64 rl)).set 8 (.int .i64 rc)).call L S)
  clear L S
  have b4 := K5.out.c 4 _ rfl
  have b3 := K5.out.c 3 _ rfl
  go_wp2_with fail
  refine (llist_any names na nc K5.out.ld (H.out.2.1.2.old K5.out.old) H.out.2.1.1 (by have h0 := H.out.2.2.2; (try simp only [List.length_append, List.length_cons, List.length_nil]); omega)).mono ?_
  rintro e W6 ⟨N, ws, vv, v6, m6, n6, q6, rfl, row, hN, hNl, htx, L, S⟩
  clear b4 b3
  obtain ⟨sa, sc, rfl⟩ := row_form row
  have K6 := hide' (K5.out.names L S row)
  have HN := hide' (And.intro hN (And.intro hNl htx))
  clear L S row hN hNl htx K5
  have y9 := K6.out.d 9 _ rfl
  have f9 := K6.out.f 9
  have b6 := (K6.out.set 9 (.slice sa ws.length sc)).c 6 _ rfl
  go_wp2_with fail
  refine (figure_any num _).mono ?_
  rintro e w1 ⟨x, lv, rfl, hv, hxs, hw1⟩
  replace hw1 := hw1.symm
  subst hw1
  have HV := hide' (And.intro hv hxs)
  clear hv hxs
  have b5 := (K6.out.set 9 (.slice sa ws.length sc)).c 5 _ rfl
  go_wp2_with fail
  refine (HC.out _).mono ?_
  rintro e w1 ⟨rfl, hw1⟩
  replace hw1 := hw1.symm
  subst hw1
  have y11 := (K6.out.set 9 (.slice sa ws.length sc)).d 11 _ rfl
  have f11 := (K6.out.set 9 (.slice sa ws.length sc)).f 11
  have a11 := fun o => (((K6.out.set 9 (.slice sa ws.length sc)).set 11 (.int .i8 1)).quiet ((Below.refl _ _).alloc (Nat.le_refl _) o)).d 11 _ rfl
  go_wp2_with fail
  refine (put_any 1 ⟨#[97, 98, 111, 118, 101]⟩ (((K6.out.set 9 (.slice sa ws.length sc)).set 11 (.int .i8 1)).quiet ((Below.refl _ _).alloc (Nat.le_refl _) (.cells #[.string ⟨#[97, 98, 111, 118, 101]⟩, .string ⟨#[98, 101, 108, 111, 119]⟩] 9))).ld (by have h0 := H.out.2.2.2; have h1 := HN.out.2.1; (try simp only [List.length_append, List.length_cons, List.length_nil]); omega)).mono ?_
  rintro e W7 ⟨rfl, v7, m7, n7, L, S⟩
  clear y9 f9 b6 b5 y11 f11 a11
  have K7 := hide' ((((K6.out.set 9 (.slice sa ws.length sc)).set 11 (.int .i8 1)).quiet ((Below.refl _ _).alloc (Nat.le_refl _) (.cells #[.string ⟨#[97, 98, 111, 118, 101]⟩, .string ⟨#[98, 101, 108, 111, 119]⟩] 9))).call L S)
  clear L S
  go_wp2_with fail
  refine (put_any 3 x K7.out.ld (by have h0 := H.out.2.2.2; have h1 := HN.out.2.1; (try simp only [List.length_append, List.length_cons, List.length_nil]); omega)).mono ?_
  rintro e W8 ⟨rfl, v8, m8, n8, L, S⟩
  have K8 := hide' (K7.out.call L S)
  clear L S K7
  have s12 := store_one (v := .float .f64 lv) (K8.out.d 12 _ rfl) (K8.out.f 12) (by simp [Value.oneCell'])
  go_wp2_with fail
  refine (put_any 4 ⟨#[59]⟩ (K8.out.set 12 (.float .f64 lv)).ld (by have h0 := H.out.2.2.2; have h1 := HN.out.2.1; (try simp only [List.length_append, List.length_cons, List.length_nil]); omega)).mono ?_
  rintro e W9 ⟨rfl, v9, m9, n9, L, S⟩
  clear s12
  have K9 := hide' ((K8.out.set 12 (.float .f64 lv)).call L S)
  clear L S
  go_wp2_with (first | (refine wpList_load_row rfl 59 _ rfl g rfl 59 _ _ _ K9.out.cur Tryz.underlying59 rfl (by kernel_rfl) ?_) | (refine wpList_store_row rfl 59 _ _ rfl (w.heap.size + 1) _ rfl rfl 59 _ K9.out.res (by kernel_rfl) rfl (by simp [Value.oneCell']) ?_))
  obtain ⟨k1, r1, t1, o1⟩ := K9.out.fin
  refine bodyPost_ret_by (results_cell_row rfl _ _ (w.heap.size + 1) 59 _ _ _ rfl k1 Tryz.underlying59 rfl (by kernel_rfl)) rfl ?_
  unfold LaidIs
  have hsz := H.out.2.2.1
  simp only [List.append_assoc, List.cons_append, List.nil_append] at r1
  refine ⟨(1, ⟨#[97, 108, 108, 111, 119]⟩, ln, cl) :: (pk, pt, pl, pc) :: (1, ⟨#[111, 110]⟩, m2, n2) :: (rk, rt, rl, rc) :: (4, ⟨#[58]⟩, m4, n4) :: (N ++ [(1, ⟨#[97, 98, 111, 118, 101]⟩, m6, n6), (3, x, m7, n7), (4, ⟨#[59]⟩, m8, n8)]), ⟨10, ln, cl, (pt, pl, pc), (rt, rl, rc), ws, false, 1, lv⟩, (.slice sa ws.length sc), _, _, _, _, rfl, o1, (by have hv := HV.out.1 (by have := Hnum.out; omega); have := R.Lay.reads_rule (kw := (1, ⟨#[97, 108, 108, 111, 119]⟩, ln, cl)) (a := (pk, pt, pl, pc)) (b := (1, ⟨#[111, 110]⟩, m2, n2)) (c := (rk, rt, rl, rc)) (d := (4, ⟨#[58]⟩, m4, n4)) (s := (4, ⟨#[59]⟩, m8, n8)) (A := N) (C := [(1, ⟨#[97, 98, 111, 118, 101]⟩, m6, n6), (3, x, m7, n7)]) rfl (k := 10) (by kernel_rfl) (by omega) Hp.out (R.Lay.is_of 1 _ _ _ _ rfl) Hr.out (R.Lay.is_of 4 _ _ _ _ rfl) (rule_names HN.out.1) (rule_cond1 (R.Lay.is_of 1 _ _ _ _ rfl) rfl hv.1) (fun t ht => by simp at ht; subst ht; exact R.Lay.word_comma (R.Lay.is_of 1 _ _ _ _ rfl)) (R.Lay.is_of 4 _ _ _ _ rfl); rw [hv.2] at this; exact this), ?_, ?_, ?_, r1, t1⟩
  · intro y hy
    simp only [List.mem_append, List.mem_cons, List.not_mem_nil, or_false] at hy
    rcases hy with hy | hy | hy | hy | hy | hy | hy | hy | hy
    · subst hy; simp
    · subst hy; exact nm_five Hp.out
    · subst hy; simp
    · subst hy; exact nm_five Hr.out
    · subst hy; simp
    · exact nms_five HN.out.1 y hy
    · subst hy; simp
    · subst hy; simp
    · subst hy; simp
  · simp only [List.length_append, List.length_cons, List.length_nil]
    have := HN.out.2.1; omega
  · intro y hy
    simp only [List.mem_append, List.mem_cons, List.not_mem_nil, or_false] at hy
    rcases hy with hy | hy | hy | hy | hy | hy | hy | hy | hy
    · subst hy; exact of_decide_eq_true rfl
    · subst hy; exact hsz.1
    · subst hy; exact of_decide_eq_true rfl
    · subst hy; exact hsz.2.1
    · subst hy; exact of_decide_eq_true rfl
    · rcases HN.out.2.2 y hy with q | q; exact hsz.2.2.2.2 _ q; omega
    · subst hy; exact of_decide_eq_true rfl
    · subst hy; have := HV.out.2; simp only; omega
    · subst hy; exact of_decide_eq_true rfl
set_option maxRecDepth 100000 in
set_option maxHeartbeats 16000000 in
theorem laid10nx1 {sh : Sh} (h : Ld B b ts v ln cl q w) (hin : sh.In B w) (hsm : sh.Small) (few : ts.length + 2 * sh.names.length + 10 ≤ R.lim) (hP : pik (wrap64 (sh.kind - 1)) 12 = 9) (hall : sh.all = false) (hnum : sh.num.size ≠ 0) (hcond : pik sh.cond 2 = 1) :
    Calls Tryz.prog 22 #[.pointer (some ⟨b, 0, none⟩), .agg sh.cells.toArray] w fun e w' => LaidIs B b ts v sh.names.length w e w' := by
  obtain ⟨kind, head, on, na, names, nc, all, cond, num, quo, line, col⟩ := sh
  unfold Sh.Small at hsm
  unfold Sh.cells
  simp only at hP hsm few hall hnum hcond ⊢
  subst hall
  have c3 := h.c3
  have lt := h.lt
  have f3 := h.f 3
  have HP := hide' (fun w => pick_any (wrap64 (kind - 1)) 12 w ⟨by decide, by decide⟩)
  rw [hP] at HP
  have HC := hide' (fun w => pick_any cond 2 w ⟨by decide, by decide⟩)
  rw [hcond] at HC
  clear hcond
  have hne : (num.toList == []) = false := nonempty_beq num hnum
  have Hnum := hide' hnum
  clear hnum
  have cal : ∀ o o', ((w.alloc o).alloc o').cell? ⟨b, 3, none⟩ = some (.int .i64 q) := fun o o' => (World.cell?_of_block (w := w) ((Below.heap_alloc _ _ _ (by simp; omega)).trans (Below.heap_alloc _ _ _ lt))).trans c3
  have fal : ∀ o o', ((w.alloc o).alloc o').frozen? ⟨b, 3, none⟩ = false := fun o o' => (World.frozen?_of_block (w := w) ((Below.heap_alloc _ _ _ (by simp; omega)).trans (Below.heap_alloc _ _ _ lt))).trans f3
  have H := hide' (And.intro h (And.intro hin (And.intro hsm few)))
  clear h hin hsm few hP c3 f3
  go_enter Tryz.func22, Tryz.ntmps22
  go_wp2_with fail
  refine (HP.out _).mono ?_
  rintro e w1 ⟨rfl, hw1⟩
  replace hw1 := hw1.symm
  subst hw1
  clear HP
  go_wp2_with fail
  have E0 := L0.start H.out.1 ⟨kind, head, on, na, names, nc, false, cond, num, quo, line, col⟩
  unfold Sh.cells dz kws at E0
  simp only at E0
  generalize ((((w.setCell ⟨b, 3, none⟩ (.int .i64 quo)).alloc (.cells #[.int .i64 kind, .string head, .string on, .slice na names.length nc, .bool false, .int .i64 cond, .string num, .int .i64 quo, .int .i64 line, .int .i64 col] 53)).alloc (.cells #[.int .i8 0, .int .i64 0, .int .i64 0, .string ⟨#[]⟩, .int .i64 0, .int .i64 0, .string ⟨#[]⟩, .int .i64 0, .int .i64 0, .slice none 0 0, .bool false, .int .i8 0, .float .f64 0] 59)).alloc (.cells #[.string ⟨#[97, 99, 116, 105, 111, 110]⟩, .string ⟨#[115, 117, 98, 106, 101, 99, 116]⟩, .string ⟨#[114, 111, 108, 101]⟩, .string ⟨#[111, 98, 106, 101, 99, 116]⟩, .string ⟨#[103, 114, 111, 117, 112]⟩, .string ⟨#[109, 101, 109, 98, 101, 114]⟩, .string ⟨#[105, 110, 104, 101, 114, 105, 116]⟩, .string ⟨#[112, 97, 114, 116]⟩, .string ⟨#[119, 105, 116, 104, 105, 110]⟩, .string ⟨#[97, 108, 108, 111, 119]⟩, .string ⟨#[100, 101, 110, 121]⟩, .string ⟨#[101, 120, 99, 101, 112, 116]⟩] 9)) = X at *
  have e1 := E0.ld.c1
  have e2 := E0.ld.c2
  have new1 := World.new_ne X ⟨b, 1, none⟩ e1
  have KX := hide' E0
  clear E0 cal fal
  have hst : (store ⟨X.heap.size, 12, none⟩ (.float .f64 0)).run Tryz.prog (X.alloc (.cells #[.int .i8 10, .int .i64 ln, .int .i64 cl, .string ⟨#[]⟩, .int .i64 0, .int .i64 0, .string ⟨#[]⟩, .int .i64 0, .int .i64 0, .slice none 0 0, .bool false, .int .i8 0, .float .f64 0] 59)).drew = .ok () ((X.alloc (.cells #[.int .i8 10, .int .i64 ln, .int .i64 cl, .string ⟨#[]⟩, .int .i64 0, .int .i64 0, .string ⟨#[]⟩, .int .i64 0, .int .i64 0, .slice none 0 0, .bool false, .int .i8 0, .float .f64 0] 59)).drew.setCell ⟨X.heap.size, 12, none⟩ (.float .f64 0)) := store_one (u := .float .f64 0) (by rw [Lib.cell_of_heap (w := (X.alloc (.cells #[.int .i8 10, .int .i64 ln, .int .i64 cl, .string ⟨#[]⟩, .int .i64 0, .int .i64 0, .string ⟨#[]⟩, .int .i64 0, .int .i64 0, .slice none 0 0, .bool false, .int .i8 0, .float .f64 0] 59)).drew) (heap_alloc_new X _)]; rfl) (Lib.frozen_of_heap (w := (X.alloc (.cells #[.int .i8 10, .int .i64 ln, .int .i64 cl, .string ⟨#[]⟩, .int .i64 0, .int .i64 0, .string ⟨#[]⟩, .int .i64 0, .int .i64 0, .slice none 0 0, .bool false, .int .i8 0, .float .f64 0] 59)).drew) (heap_alloc_new X _) 12) (by simp [Value.oneCell'])
  go_region_held3 (fun w' => w'.cell? ⟨b, 1, none⟩ = some (.int .i64 ln) ∧ w'.cell? ⟨b, 2, none⟩ = some (.int .i64 cl)) (first | go_keep) (fail)
  rename_i hHeld
  clear hHeld e1 e2 new1 hst
  have E1 := KX.out.go H.out.1 [.int .i8 10, .int .i64 ln, .int .i64 cl, .string ⟨#[]⟩, .int .i64 0, .int .i64 0, .string ⟨#[]⟩, .int .i64 0, .int .i64 0, .slice none 0 0, .bool false, .int .i8 0, .float .f64 0]
  generalize (X.alloc (.cells #[.int .i8 10, .int .i64 ln, .int .i64 cl, .string ⟨#[]⟩, .int .i64 0, .int .i64 0, .string ⟨#[]⟩, .int .i64 0, .int .i64 0, .slice none 0 0, .bool false, .int .i8 0, .float .f64 0] 59)).drew = W0 at *
  generalize X.heap.size = g at *
  have K0 := hide' E1
  clear E1 KX
  have y0 := K0.out.k 9 _ rfl
  go_wp2_with fail
  obtain ⟨m0, hm0⟩ : ∃ x, ln = x := ⟨_, rfl⟩
  obtain ⟨n0, hn0⟩ : ∃ x, cl = x := ⟨_, rfl⟩
  subst hm0 hn0
  refine (put_any 1 ⟨#[97, 108, 108, 111, 119]⟩ K0.out.ld (by have h0 := H.out.2.2.2; (try simp only [List.length_append, List.length_cons, List.length_nil]); omega)).mono ?_
  rintro e W1 ⟨rfl, v1, m1, n1, L, S⟩
  clear y0
  have K1 := hide' (K0.out.call L S)
  clear L S K0
  have b1 := K1.out.c 1 _ rfl
  go_wp2_with fail
  refine (lname_any head K1.out.ld (by have h0 := H.out.2.2.2; (try simp only [List.length_append, List.length_cons, List.length_nil]); omega)).mono ?_
  rintro e W2 ⟨⟨pk, pt, pl, pc⟩, v2, m2, n2, q2, rfl, ht, hn, L, S⟩
  unfold wv R.wdOf
  simp only at ht ⊢
  subst ht
  clear b1
  have K2 := hide' (K1.out.call L S)
  have Hp := hide' hn
  clear L S hn K1
  have y3 := K2.out.d 3 _ rfl
  have f3 := K2.out.f 3
  have y4 := K2.out.d 4 _ rfl
  have f4 := K2.out.f 4
  have y5 := K2.out.d 5 _ rfl
  have f5 := K2.out.f 5
  go_wp2_with fail
  refine (put_any 1 ⟨#[111, 110]⟩ (((K2.out.set 3 (.string pt)).set 4 (.int .i64 pl)).set 5 (.int .i64 pc)).ld (by have h0 := H.out.2.2.2; (try simp only [List.length_append, List.length_cons, List.length_nil]); omega)).mono ?_
  rintro e W3 ⟨rfl, v3, m3, n3, L, S⟩
  clear y3 f3 y4 f4 y5 f5
  have K3 := hide' ((((K2.out.set 3 (.string pt)).set 4 (.int .i64 pl)).set 5 (.int .i64 pc)).call L S)
  clear L S
  have b2 := K3.out.c 2 _ rfl
  go_wp2_with fail
  refine (lname_any on K3.out.ld (by have h0 := H.out.2.2.2; (try simp only [List.length_append, List.length_cons, List.length_nil]); omega)).mono ?_
  rintro e W4 ⟨⟨rk, rt, rl, rc⟩, v4, m4, n4, q4, rfl, ht, hn, L, S⟩
  unfold wv R.wdOf
  simp only at ht ⊢
  subst ht
  clear b2
  have K4 := hide' (K3.out.call L S)
  have Hr := hide' hn
  clear L S hn K3
  have y6 := K4.out.d 6 _ rfl
  have f6 := K4.out.f 6
  have y7 := K4.out.d 7 _ rfl
  have f7 := K4.out.f 7
  have y8 := K4.out.d 8 _ rfl
  have f8 := K4.out.f 8
  go_wp2_with fail
  refine (put_any 4 ⟨#[58]⟩ (((K4.out.set 6 (.string rt)).set 7 (.int .i64 rl)).set 8 (.int .i64 rc)).ld (by have h0 := H.out.2.2.2; (try simp only [List.length_append, List.length_cons, List.length_nil]); omega)).mono ?_
  rintro e W5 ⟨rfl, v5, m5, n5, L, S⟩
  clear y6 f6 y7 f7 y8 f8
  have K5 := hide' ((((K4.out.set 6 (.string rt)).set 7 (.int .i64 rl)).set 8 (.int .i64 rc)).call L S)
  clear L S
  have b4 := K5.out.c 4 _ rfl
  have b3 := K5.out.c 3 _ rfl
  go_wp2_with fail
  refine (llist_any names na nc K5.out.ld (H.out.2.1.2.old K5.out.old) H.out.2.1.1 (by have h0 := H.out.2.2.2; (try simp only [List.length_append, List.length_cons, List.length_nil]); omega)).mono ?_
  rintro e W6 ⟨N, ws, vv, v6, m6, n6, q6, rfl, row, hN, hNl, htx, L, S⟩
  clear b4 b3
  obtain ⟨sa, sc, rfl⟩ := row_form row
  have K6 := hide' (K5.out.names L S row)
  have HN := hide' (And.intro hN (And.intro hNl htx))
  clear L S row hN hNl htx K5
  have y9 := K6.out.d 9 _ rfl
  have f9 := K6.out.f 9
  have b6 := (K6.out.set 9 (.slice sa ws.length sc)).c 6 _ rfl
  go_wp2_with fail
  refine (figure_any num _).mono ?_
  rintro e w1 ⟨x, lv, rfl, hv, hxs, hw1⟩
  replace hw1 := hw1.symm
  subst hw1
  have HV := hide' (And.intro hv hxs)
  clear hv hxs
  have b5 := (K6.out.set 9 (.slice sa ws.length sc)).c 5 _ rfl
  go_wp2_with fail
  refine (HC.out _).mono ?_
  rintro e w1 ⟨rfl, hw1⟩
  replace hw1 := hw1.symm
  subst hw1
  have y11 := (K6.out.set 9 (.slice sa ws.length sc)).d 11 _ rfl
  have f11 := (K6.out.set 9 (.slice sa ws.length sc)).f 11
  have a11 := fun o => (((K6.out.set 9 (.slice sa ws.length sc)).set 11 (.int .i8 2)).quiet ((Below.refl _ _).alloc (Nat.le_refl _) o)).d 11 _ rfl
  go_wp2_with fail
  refine (put_any 1 ⟨#[98, 101, 108, 111, 119]⟩ (((K6.out.set 9 (.slice sa ws.length sc)).set 11 (.int .i8 2)).quiet ((Below.refl _ _).alloc (Nat.le_refl _) (.cells #[.string ⟨#[97, 98, 111, 118, 101]⟩, .string ⟨#[98, 101, 108, 111, 119]⟩] 9))).ld (by have h0 := H.out.2.2.2; have h1 := HN.out.2.1; (try simp only [List.length_append, List.length_cons, List.length_nil]); omega)).mono ?_
  rintro e W7 ⟨rfl, v7, m7, n7, L, S⟩
  clear y9 f9 b6 b5 y11 f11 a11
  have K7 := hide' ((((K6.out.set 9 (.slice sa ws.length sc)).set 11 (.int .i8 2)).quiet ((Below.refl _ _).alloc (Nat.le_refl _) (.cells #[.string ⟨#[97, 98, 111, 118, 101]⟩, .string ⟨#[98, 101, 108, 111, 119]⟩] 9))).call L S)
  clear L S
  go_wp2_with fail
  refine (put_any 3 x K7.out.ld (by have h0 := H.out.2.2.2; have h1 := HN.out.2.1; (try simp only [List.length_append, List.length_cons, List.length_nil]); omega)).mono ?_
  rintro e W8 ⟨rfl, v8, m8, n8, L, S⟩
  have K8 := hide' (K7.out.call L S)
  clear L S K7
  have s12 := store_one (v := .float .f64 lv) (K8.out.d 12 _ rfl) (K8.out.f 12) (by simp [Value.oneCell'])
  go_wp2_with fail
  refine (put_any 4 ⟨#[59]⟩ (K8.out.set 12 (.float .f64 lv)).ld (by have h0 := H.out.2.2.2; have h1 := HN.out.2.1; (try simp only [List.length_append, List.length_cons, List.length_nil]); omega)).mono ?_
  rintro e W9 ⟨rfl, v9, m9, n9, L, S⟩
  clear s12
  have K9 := hide' ((K8.out.set 12 (.float .f64 lv)).call L S)
  clear L S
  go_wp2_with (first | (refine wpList_load_row rfl 59 _ rfl g rfl 59 _ _ _ K9.out.cur Tryz.underlying59 rfl (by kernel_rfl) ?_) | (refine wpList_store_row rfl 59 _ _ rfl (w.heap.size + 1) _ rfl rfl 59 _ K9.out.res (by kernel_rfl) rfl (by simp [Value.oneCell']) ?_))
  obtain ⟨k1, r1, t1, o1⟩ := K9.out.fin
  refine bodyPost_ret_by (results_cell_row rfl _ _ (w.heap.size + 1) 59 _ _ _ rfl k1 Tryz.underlying59 rfl (by kernel_rfl)) rfl ?_
  unfold LaidIs
  have hsz := H.out.2.2.1
  simp only [List.append_assoc, List.cons_append, List.nil_append] at r1
  refine ⟨(1, ⟨#[97, 108, 108, 111, 119]⟩, ln, cl) :: (pk, pt, pl, pc) :: (1, ⟨#[111, 110]⟩, m2, n2) :: (rk, rt, rl, rc) :: (4, ⟨#[58]⟩, m4, n4) :: (N ++ [(1, ⟨#[98, 101, 108, 111, 119]⟩, m6, n6), (3, x, m7, n7), (4, ⟨#[59]⟩, m8, n8)]), ⟨10, ln, cl, (pt, pl, pc), (rt, rl, rc), ws, false, 2, lv⟩, (.slice sa ws.length sc), _, _, _, _, rfl, o1, (by have hv := HV.out.1 (by have := Hnum.out; omega); have := R.Lay.reads_rule (kw := (1, ⟨#[97, 108, 108, 111, 119]⟩, ln, cl)) (a := (pk, pt, pl, pc)) (b := (1, ⟨#[111, 110]⟩, m2, n2)) (c := (rk, rt, rl, rc)) (d := (4, ⟨#[58]⟩, m4, n4)) (s := (4, ⟨#[59]⟩, m8, n8)) (A := N) (C := [(1, ⟨#[98, 101, 108, 111, 119]⟩, m6, n6), (3, x, m7, n7)]) rfl (k := 10) (by kernel_rfl) (by omega) Hp.out (R.Lay.is_of 1 _ _ _ _ rfl) Hr.out (R.Lay.is_of 4 _ _ _ _ rfl) (rule_names HN.out.1) (rule_cond2 (R.Lay.is_of 1 _ _ _ _ rfl) rfl hv.1) (fun t ht => by simp at ht; subst ht; exact R.Lay.word_comma (R.Lay.is_of 1 _ _ _ _ rfl)) (R.Lay.is_of 4 _ _ _ _ rfl); rw [hv.2] at this; exact this), ?_, ?_, ?_, r1, t1⟩
  · intro y hy
    simp only [List.mem_append, List.mem_cons, List.not_mem_nil, or_false] at hy
    rcases hy with hy | hy | hy | hy | hy | hy | hy | hy | hy
    · subst hy; simp
    · subst hy; exact nm_five Hp.out
    · subst hy; simp
    · subst hy; exact nm_five Hr.out
    · subst hy; simp
    · exact nms_five HN.out.1 y hy
    · subst hy; simp
    · subst hy; simp
    · subst hy; simp
  · simp only [List.length_append, List.length_cons, List.length_nil]
    have := HN.out.2.1; omega
  · intro y hy
    simp only [List.mem_append, List.mem_cons, List.not_mem_nil, or_false] at hy
    rcases hy with hy | hy | hy | hy | hy | hy | hy | hy | hy
    · subst hy; exact of_decide_eq_true rfl
    · subst hy; exact hsz.1
    · subst hy; exact of_decide_eq_true rfl
    · subst hy; exact hsz.2.1
    · subst hy; exact of_decide_eq_true rfl
    · rcases HN.out.2.2 y hy with q | q; exact hsz.2.2.2.2 _ q; omega
    · subst hy; exact of_decide_eq_true rfl
    · subst hy; have := HV.out.2; simp only; omega
    · subst hy; exact of_decide_eq_true rfl
end Go.Proofs.YtfgblchnnhdlnaaGreatDoor
set_option linter.unusedVariables false
set_option linter.unusedSimpArgs false
namespace Go.Proofs.YtfgblchnnhdlnaaGreatDoor
open Go.RowKit
variable {B b : Nat} {ts : List R.Tok} {v v' v'' : Value} {ln cl q : Int} {w w' w'' : World}
set_option maxRecDepth 100000 in
set_option maxHeartbeats 16000000 in
theorem laid11ax0 {sh : Sh} (h : Ld B b ts v ln cl q w) (hin : sh.In B w) (hsm : sh.Small) (few : ts.length + 2 * sh.names.length + 10 ≤ R.lim) (hP : pik (wrap64 (sh.kind - 1)) 12 = 10) (hall : sh.all = true) (hnum : sh.num.size ≠ 0) (hcond : pik sh.cond 2 = 0) :
    Calls Tryz.prog 22 #[.pointer (some ⟨b, 0, none⟩), .agg sh.cells.toArray] w fun e w' => LaidIs B b ts v sh.names.length w e w' := by
  obtain ⟨kind, head, on, na, names, nc, all, cond, num, quo, line, col⟩ := sh
  unfold Sh.Small at hsm
  unfold Sh.cells
  simp only at hP hsm few hall hnum hcond ⊢
  subst hall
  have c3 := h.c3
  have lt := h.lt
  have f3 := h.f 3
  have HP := hide' (fun w => pick_any (wrap64 (kind - 1)) 12 w ⟨by decide, by decide⟩)
  rw [hP] at HP
  have HC := hide' (fun w => pick_any cond 2 w ⟨by decide, by decide⟩)
  rw [hcond] at HC
  clear hcond
  have hne : (num.toList == []) = false := nonempty_beq num hnum
  have Hnum := hide' hnum
  clear hnum
  have cal : ∀ o o', ((w.alloc o).alloc o').cell? ⟨b, 3, none⟩ = some (.int .i64 q) := fun o o' => (World.cell?_of_block (w := w) ((Below.heap_alloc _ _ _ (by simp; omega)).trans (Below.heap_alloc _ _ _ lt))).trans c3
  have fal : ∀ o o', ((w.alloc o).alloc o').frozen? ⟨b, 3, none⟩ = false := fun o o' => (World.frozen?_of_block (w := w) ((Below.heap_alloc _ _ _ (by simp; omega)).trans (Below.heap_alloc _ _ _ lt))).trans f3
  have H := hide' (And.intro h (And.intro hin (And.intro hsm few)))
  clear h hin hsm few hP c3 f3
  go_enter Tryz.func22, Tryz.ntmps22
  go_wp2_with fail
  refine (HP.out _).mono ?_
  rintro e w1 ⟨rfl, hw1⟩
  replace hw1 := hw1.symm
  subst hw1
  clear HP
  go_wp2_with fail
  have E0 := L0.start H.out.1 ⟨kind, head, on, na, names, nc, true, cond, num, quo, line, col⟩
  unfold Sh.cells dz kws at E0
  simp only at E0
  generalize ((((w.setCell ⟨b, 3, none⟩ (.int .i64 quo)).alloc (.cells #[.int .i64 kind, .string head, .string on, .slice na names.length nc, .bool true, .int .i64 cond, .string num, .int .i64 quo, .int .i64 line, .int .i64 col] 53)).alloc (.cells #[.int .i8 0, .int .i64 0, .int .i64 0, .string ⟨#[]⟩, .int .i64 0, .int .i64 0, .string ⟨#[]⟩, .int .i64 0, .int .i64 0, .slice none 0 0, .bool false, .int .i8 0, .float .f64 0] 59)).alloc (.cells #[.string ⟨#[97, 99, 116, 105, 111, 110]⟩, .string ⟨#[115, 117, 98, 106, 101, 99, 116]⟩, .string ⟨#[114, 111, 108, 101]⟩, .string ⟨#[111, 98, 106, 101, 99, 116]⟩, .string ⟨#[103, 114, 111, 117, 112]⟩, .string ⟨#[109, 101, 109, 98, 101, 114]⟩, .string ⟨#[105, 110, 104, 101, 114, 105, 116]⟩, .string ⟨#[112, 97, 114, 116]⟩, .string ⟨#[119, 105, 116, 104, 105, 110]⟩, .string ⟨#[97, 108, 108, 111, 119]⟩, .string ⟨#[100, 101, 110, 121]⟩, .string ⟨#[101, 120, 99, 101, 112, 116]⟩] 9)) = X at *
  have e1 := E0.ld.c1
  have e2 := E0.ld.c2
  have new1 := World.new_ne X ⟨b, 1, none⟩ e1
  have KX := hide' E0
  clear E0 cal fal
  have hst : (store ⟨X.heap.size, 12, none⟩ (.float .f64 0)).run Tryz.prog (X.alloc (.cells #[.int .i8 11, .int .i64 ln, .int .i64 cl, .string ⟨#[]⟩, .int .i64 0, .int .i64 0, .string ⟨#[]⟩, .int .i64 0, .int .i64 0, .slice none 0 0, .bool false, .int .i8 0, .float .f64 0] 59)).drew = .ok () ((X.alloc (.cells #[.int .i8 11, .int .i64 ln, .int .i64 cl, .string ⟨#[]⟩, .int .i64 0, .int .i64 0, .string ⟨#[]⟩, .int .i64 0, .int .i64 0, .slice none 0 0, .bool false, .int .i8 0, .float .f64 0] 59)).drew.setCell ⟨X.heap.size, 12, none⟩ (.float .f64 0)) := store_one (u := .float .f64 0) (by rw [Lib.cell_of_heap (w := (X.alloc (.cells #[.int .i8 11, .int .i64 ln, .int .i64 cl, .string ⟨#[]⟩, .int .i64 0, .int .i64 0, .string ⟨#[]⟩, .int .i64 0, .int .i64 0, .slice none 0 0, .bool false, .int .i8 0, .float .f64 0] 59)).drew) (heap_alloc_new X _)]; rfl) (Lib.frozen_of_heap (w := (X.alloc (.cells #[.int .i8 11, .int .i64 ln, .int .i64 cl, .string ⟨#[]⟩, .int .i64 0, .int .i64 0, .string ⟨#[]⟩, .int .i64 0, .int .i64 0, .slice none 0 0, .bool false, .int .i8 0, .float .f64 0] 59)).drew) (heap_alloc_new X _) 12) (by simp [Value.oneCell'])
  go_region_held3 (fun w' => w'.cell? ⟨b, 1, none⟩ = some (.int .i64 ln) ∧ w'.cell? ⟨b, 2, none⟩ = some (.int .i64 cl)) (first | go_keep) (fail)
  rename_i hHeld
  clear hHeld e1 e2 new1 hst
  have E1 := KX.out.go H.out.1 [.int .i8 11, .int .i64 ln, .int .i64 cl, .string ⟨#[]⟩, .int .i64 0, .int .i64 0, .string ⟨#[]⟩, .int .i64 0, .int .i64 0, .slice none 0 0, .bool false, .int .i8 0, .float .f64 0]
  generalize (X.alloc (.cells #[.int .i8 11, .int .i64 ln, .int .i64 cl, .string ⟨#[]⟩, .int .i64 0, .int .i64 0, .string ⟨#[]⟩, .int .i64 0, .int .i64 0, .slice none 0 0, .bool false, .int .i8 0, .float .f64 0] 59)).drew = W0 at *
  generalize X.heap.size = g at *
  have K0 := hide' E1
  clear E1 KX
  have y0 := K0.out.k 10 _ rfl
  go_wp2_with fail
  obtain ⟨m0, hm0⟩ : ∃ x, ln = x := ⟨_, rfl⟩
  obtain ⟨n0, hn0⟩ : ∃ x, cl = x := ⟨_, rfl⟩
  subst hm0 hn0
  refine (put_any 1 ⟨#[100, 101, 110, 121]⟩ K0.out.ld (by have h0 := H.out.2.2.2; (try simp only [List.length_append, List.length_cons, List.length_nil]); omega)).mono ?_
  rintro e W1 ⟨rfl, v1, m1, n1, L, S⟩
  clear y0
  have K1 := hide' (K0.out.call L S)
  clear L S K0
  have b1 := K1.out.c 1 _ rfl
  go_wp2_with fail
  refine (lname_any head K1.out.ld (by have h0 := H.out.2.2.2; (try simp only [List.length_append, List.length_cons, List.length_nil]); omega)).mono ?_
  rintro e W2 ⟨⟨pk, pt, pl, pc⟩, v2, m2, n2, q2, rfl, ht, hn, L, S⟩
  unfold wv R.wdOf
  simp only at ht ⊢
  subst ht
  clear b1
  have K2 := hide' (K1.out.call L S)
  have Hp := hide' hn
  clear L S hn K1
  have y3 := K2.out.d 3 _ rfl
  have f3 := K2.out.f 3
  have y4 := K2.out.d 4 _ rfl
  have f4 := K2.out.f 4
  have y5 := K2.out.d 5 _ rfl
  have f5 := K2.out.f 5
  go_wp2_with fail
  refine (put_any 1 ⟨#[111, 110]⟩ (((K2.out.set 3 (.string pt)).set 4 (.int .i64 pl)).set 5 (.int .i64 pc)).ld (by have h0 := H.out.2.2.2; (try simp only [List.length_append, List.length_cons, List.length_nil]); omega)).mono ?_
  rintro e W3 ⟨rfl, v3, m3, n3, L, S⟩
  clear y3 f3 y4 f4 y5 f5
  have K3 := hide' ((((K2.out.set 3 (.string pt)).set 4 (.int .i64 pl)).set 5 (.int .i64 pc)).call L S)
  clear L S
  have b2 := K3.out.c 2 _ rfl
  go_wp2_with fail
  refine (lname_any on K3.out.ld (by have h0 := H.out.2.2.2; (try simp only [List.length_append, List.length_cons, List.length_nil]); omega)).mono ?_
  rintro e W4 ⟨⟨rk, rt, rl, rc⟩, v4, m4, n4, q4, rfl, ht, hn, L, S⟩
  unfold wv R.wdOf
  simp only at ht ⊢
  subst ht
  clear b2
  have K4 := hide' (K3.out.call L S)
  have Hr := hide' hn
  clear L S hn K3
  have y6 := K4.out.d 6 _ rfl
  have f6 := K4.out.f 6
  have y7 := K4.out.d 7 _ rfl
  have f7 := K4.out.f 7
  have y8 := K4.out.d 8 _ rfl
  have f8 := K4.out.f 8
  go_wp2_with fail
  refine (put_any 4 ⟨#[58]⟩ (((K4.out.set 6 (.string rt)).set 7 (.int .i64 rl)).set 8 (.int .i64 rc)).ld (by have h0 := H.out.2.2.2; (try simp only [List.length_append, List.length_cons, List.length_nil]); omega)).mono ?_
  rintro e W5 ⟨rfl, v5, m5, n5, L, S⟩
  clear y6 f6 y7 f7 y8 f8
  have K5 := hide' ((((K4.out.set 6 (.string rt)).set 7 (.int .i64 rl)).set 8 (.int .i64 rc)).call L S)
  clear L S
  have b4 := K5.out.c 4 _ rfl
  have y10 := K5.out.d 10 _ rfl
  have f10 := K5.out.f 10
  go_wp2_with fail
  refine (put_any 4 ⟨#[42]⟩ (K5.out.set 10 (.bool true)).ld (by have h0 := H.out.2.2.2; (try simp only [List.length_append, List.length_cons, List.length_nil]); omega)).mono ?_
  rintro e W6 ⟨rfl, v6, m6, n6, L, S⟩
  clear b4 y10 f10
  have K6 := hide' ((K5.out.set 10 (.bool true)).call L S)
  clear L S
  have b6 := K6.out.c 6 _ rfl
  go_wp2_with fail
  refine (figure_any num _).mono ?_
  rintro e w1 ⟨x, lv, rfl, hv, hxs, hw1⟩
  replace hw1 := hw1.symm
  subst hw1
  have HV := hide' (And.intro hv hxs)
  clear hv hxs
  have b5 := K6.out.c 5 _ rfl
  go_wp2_with fail
  refine (HC.out _).mono ?_
  rintro e w1 ⟨rfl, hw1⟩
  replace hw1 := hw1.symm
  subst hw1
  have y11 := K6.out.d 11 _ rfl
  have f11 := K6.out.f 11
  have a11 := fun o => ((K6.out.set 11 (.int .i8 1)).quiet ((Below.refl _ _).alloc (Nat.le_refl _) o)).d 11 _ rfl
  go_wp2_with fail
  refine (put_any 1 ⟨#[97, 98, 111, 118, 101]⟩ ((K6.out.set 11 (.int .i8 1)).quiet ((Below.refl _ _).alloc (Nat.le_refl _) (.cells #[.string ⟨#[97, 98, 111, 118, 101]⟩, .string ⟨#[98, 101, 108, 111, 119]⟩] 9))).ld (by have h0 := H.out.2.2.2; (try simp only [List.length_append, List.length_cons, List.length_nil]); omega)).mono ?_
  rintro e W7 ⟨rfl, v7, m7, n7, L, S⟩
  clear b6 b5 y11 f11 a11
  have K7 := hide' (((K6.out.set 11 (.int .i8 1)).quiet ((Below.refl _ _).alloc (Nat.le_refl _) (.cells #[.string ⟨#[97, 98, 111, 118, 101]⟩, .string ⟨#[98, 101, 108, 111, 119]⟩] 9))).call L S)
  clear L S
  go_wp2_with fail
  refine (put_any 3 x K7.out.ld (by have h0 := H.out.2.2.2; (try simp only [List.length_append, List.length_cons, List.length_nil]); omega)).mono ?_
  rintro e W8 ⟨rfl, v8, m8, n8, L, S⟩
  have K8 := hide' (K7.out.call L S)
  clear L S K7
  have s12 := store_one (v := .float .f64 lv) (K8.out.d 12 _ rfl) (K8.out.f 12) (by simp [Value.oneCell'])
  go_wp2_with fail
  refine (put_any 4 ⟨#[59]⟩ (K8.out.set 12 (.float .f64 lv)).ld (by have h0 := H.out.2.2.2; (try simp only [List.length_append, List.length_cons, List.length_nil]); omega)).mono ?_
  rintro e W9 ⟨rfl, v9, m9, n9, L, S⟩
  clear s12
  have K9 := hide' ((K8.out.set 12 (.float .f64 lv)).call L S)
  clear L S
  go_wp2_with (first | (refine wpList_load_row rfl 59 _ rfl g rfl 59 _ _ _ K9.out.cur Tryz.underlying59 rfl (by kernel_rfl) ?_) | (refine wpList_store_row rfl 59 _ _ rfl (w.heap.size + 1) _ rfl rfl 59 _ K9.out.res (by kernel_rfl) rfl (by simp [Value.oneCell']) ?_))
  obtain ⟨k1, r1, t1, o1⟩ := K9.out.fin
  refine bodyPost_ret_by (results_cell_row rfl _ _ (w.heap.size + 1) 59 _ _ _ rfl k1 Tryz.underlying59 rfl (by kernel_rfl)) rfl ?_
  unfold LaidIs
  have hsz := H.out.2.2.1
  simp only [List.append_assoc, List.cons_append, List.nil_append] at r1
  refine ⟨[(1, ⟨#[100, 101, 110, 121]⟩, ln, cl), (pk, pt, pl, pc), (1, ⟨#[111, 110]⟩, m2, n2), (rk, rt, rl, rc), (4, ⟨#[58]⟩, m4, n4), (4, ⟨#[42]⟩, m5, n5), (1, ⟨#[97, 98, 111, 118, 101]⟩, m6, n6), (3, x, m7, n7), (4, ⟨#[59]⟩, m8, n8)], ⟨11, ln, cl, (pt, pl, pc), (rt, rl, rc), [], true, 1, lv⟩, (.slice none 0 0), _, _, _, _, rfl, o1, (by have hv := HV.out.1 (by have := Hnum.out; omega); have := R.Lay.reads_rule (kw := (1, ⟨#[100, 101, 110, 121]⟩, ln, cl)) (a := (pk, pt, pl, pc)) (b := (1, ⟨#[111, 110]⟩, m2, n2)) (c := (rk, rt, rl, rc)) (d := (4, ⟨#[58]⟩, m4, n4)) (s := (4, ⟨#[59]⟩, m8, n8)) (A := [(4, ⟨#[42]⟩, m5, n5)]) (C := [(1, ⟨#[97, 98, 111, 118, 101]⟩, m6, n6), (3, x, m7, n7)]) rfl (k := 11) (by kernel_rfl) (by omega) Hp.out (R.Lay.is_of 1 _ _ _ _ rfl) Hr.out (R.Lay.is_of 4 _ _ _ _ rfl) (rule_star _ (R.Lay.is_of 4 _ _ _ _ rfl)) (rule_cond1 (R.Lay.is_of 1 _ _ _ _ rfl) rfl hv.1) (fun t ht => by simp at ht; subst ht; exact R.Lay.word_comma (R.Lay.is_of 1 _ _ _ _ rfl)) (R.Lay.is_of 4 _ _ _ _ rfl); rw [hv.2] at this; exact this), ?_, ?_, ?_, r1, t1⟩
  · intro y hy
    simp only [List.mem_append, List.mem_cons, List.not_mem_nil, or_false] at hy
    rcases hy with hy | hy | hy | hy | hy | hy | hy | hy | hy
    · subst hy; simp
    · subst hy; exact nm_five Hp.out
    · subst hy; simp
    · subst hy; exact nm_five Hr.out
    · subst hy; simp
    · subst hy; simp
    · subst hy; simp
    · subst hy; simp
    · subst hy; simp
  · simp only [List.length_append, List.length_cons, List.length_nil]
    omega
  · intro y hy
    simp only [List.mem_append, List.mem_cons, List.not_mem_nil, or_false] at hy
    rcases hy with hy | hy | hy | hy | hy | hy | hy | hy | hy
    · subst hy; exact of_decide_eq_true rfl
    · subst hy; exact hsz.1
    · subst hy; exact of_decide_eq_true rfl
    · subst hy; exact hsz.2.1
    · subst hy; exact of_decide_eq_true rfl
    · subst hy; exact of_decide_eq_true rfl
    · subst hy; exact of_decide_eq_true rfl
    · subst hy; have := HV.out.2; simp only; omega
    · subst hy; exact of_decide_eq_true rfl
set_option maxRecDepth 100000 in
set_option maxHeartbeats 16000000 in
theorem laid11ax1 {sh : Sh} (h : Ld B b ts v ln cl q w) (hin : sh.In B w) (hsm : sh.Small) (few : ts.length + 2 * sh.names.length + 10 ≤ R.lim) (hP : pik (wrap64 (sh.kind - 1)) 12 = 10) (hall : sh.all = true) (hnum : sh.num.size ≠ 0) (hcond : pik sh.cond 2 = 1) :
    Calls Tryz.prog 22 #[.pointer (some ⟨b, 0, none⟩), .agg sh.cells.toArray] w fun e w' => LaidIs B b ts v sh.names.length w e w' := by
  obtain ⟨kind, head, on, na, names, nc, all, cond, num, quo, line, col⟩ := sh
  unfold Sh.Small at hsm
  unfold Sh.cells
  simp only at hP hsm few hall hnum hcond ⊢
  subst hall
  have c3 := h.c3
  have lt := h.lt
  have f3 := h.f 3
  have HP := hide' (fun w => pick_any (wrap64 (kind - 1)) 12 w ⟨by decide, by decide⟩)
  rw [hP] at HP
  have HC := hide' (fun w => pick_any cond 2 w ⟨by decide, by decide⟩)
  rw [hcond] at HC
  clear hcond
  have hne : (num.toList == []) = false := nonempty_beq num hnum
  have Hnum := hide' hnum
  clear hnum
  have cal : ∀ o o', ((w.alloc o).alloc o').cell? ⟨b, 3, none⟩ = some (.int .i64 q) := fun o o' => (World.cell?_of_block (w := w) ((Below.heap_alloc _ _ _ (by simp; omega)).trans (Below.heap_alloc _ _ _ lt))).trans c3
  have fal : ∀ o o', ((w.alloc o).alloc o').frozen? ⟨b, 3, none⟩ = false := fun o o' => (World.frozen?_of_block (w := w) ((Below.heap_alloc _ _ _ (by simp; omega)).trans (Below.heap_alloc _ _ _ lt))).trans f3
  have H := hide' (And.intro h (And.intro hin (And.intro hsm few)))
  clear h hin hsm few hP c3 f3
  go_enter Tryz.func22, Tryz.ntmps22
  go_wp2_with fail
  refine (HP.out _).mono ?_
  rintro e w1 ⟨rfl, hw1⟩
  replace hw1 := hw1.symm
  subst hw1
  clear HP
  go_wp2_with fail
  have E0 := L0.start H.out.1 ⟨kind, head, on, na, names, nc, true, cond, num, quo, line, col⟩
  unfold Sh.cells dz kws at E0
  simp only at E0
  generalize ((((w.setCell ⟨b, 3, none⟩ (.int .i64 quo)).alloc (.cells #[.int .i64 kind, .string head, .string on, .slice na names.length nc, .bool true, .int .i64 cond, .string num, .int .i64 quo, .int .i64 line, .int .i64 col] 53)).alloc (.cells #[.int .i8 0, .int .i64 0, .int .i64 0, .string ⟨#[]⟩, .int .i64 0, .int .i64 0, .string ⟨#[]⟩, .int .i64 0, .int .i64 0, .slice none 0 0, .bool false, .int .i8 0, .float .f64 0] 59)).alloc (.cells #[.string ⟨#[97, 99, 116, 105, 111, 110]⟩, .string ⟨#[115, 117, 98, 106, 101, 99, 116]⟩, .string ⟨#[114, 111, 108, 101]⟩, .string ⟨#[111, 98, 106, 101, 99, 116]⟩, .string ⟨#[103, 114, 111, 117, 112]⟩, .string ⟨#[109, 101, 109, 98, 101, 114]⟩, .string ⟨#[105, 110, 104, 101, 114, 105, 116]⟩, .string ⟨#[112, 97, 114, 116]⟩, .string ⟨#[119, 105, 116, 104, 105, 110]⟩, .string ⟨#[97, 108, 108, 111, 119]⟩, .string ⟨#[100, 101, 110, 121]⟩, .string ⟨#[101, 120, 99, 101, 112, 116]⟩] 9)) = X at *
  have e1 := E0.ld.c1
  have e2 := E0.ld.c2
  have new1 := World.new_ne X ⟨b, 1, none⟩ e1
  have KX := hide' E0
  clear E0 cal fal
  have hst : (store ⟨X.heap.size, 12, none⟩ (.float .f64 0)).run Tryz.prog (X.alloc (.cells #[.int .i8 11, .int .i64 ln, .int .i64 cl, .string ⟨#[]⟩, .int .i64 0, .int .i64 0, .string ⟨#[]⟩, .int .i64 0, .int .i64 0, .slice none 0 0, .bool false, .int .i8 0, .float .f64 0] 59)).drew = .ok () ((X.alloc (.cells #[.int .i8 11, .int .i64 ln, .int .i64 cl, .string ⟨#[]⟩, .int .i64 0, .int .i64 0, .string ⟨#[]⟩, .int .i64 0, .int .i64 0, .slice none 0 0, .bool false, .int .i8 0, .float .f64 0] 59)).drew.setCell ⟨X.heap.size, 12, none⟩ (.float .f64 0)) := store_one (u := .float .f64 0) (by rw [Lib.cell_of_heap (w := (X.alloc (.cells #[.int .i8 11, .int .i64 ln, .int .i64 cl, .string ⟨#[]⟩, .int .i64 0, .int .i64 0, .string ⟨#[]⟩, .int .i64 0, .int .i64 0, .slice none 0 0, .bool false, .int .i8 0, .float .f64 0] 59)).drew) (heap_alloc_new X _)]; rfl) (Lib.frozen_of_heap (w := (X.alloc (.cells #[.int .i8 11, .int .i64 ln, .int .i64 cl, .string ⟨#[]⟩, .int .i64 0, .int .i64 0, .string ⟨#[]⟩, .int .i64 0, .int .i64 0, .slice none 0 0, .bool false, .int .i8 0, .float .f64 0] 59)).drew) (heap_alloc_new X _) 12) (by simp [Value.oneCell'])
  go_region_held3 (fun w' => w'.cell? ⟨b, 1, none⟩ = some (.int .i64 ln) ∧ w'.cell? ⟨b, 2, none⟩ = some (.int .i64 cl)) (first | go_keep) (fail)
  rename_i hHeld
  clear hHeld e1 e2 new1 hst
  have E1 := KX.out.go H.out.1 [.int .i8 11, .int .i64 ln, .int .i64 cl, .string ⟨#[]⟩, .int .i64 0, .int .i64 0, .string ⟨#[]⟩, .int .i64 0, .int .i64 0, .slice none 0 0, .bool false, .int .i8 0, .float .f64 0]
  generalize (X.alloc (.cells #[.int .i8 11, .int .i64 ln, .int .i64 cl, .string ⟨#[]⟩, .int .i64 0, .int .i64 0, .string ⟨#[]⟩, .int .i64 0, .int .i64 0, .slice none 0 0, .bool false, .int .i8 0, .float .f64 0] 59)).drew = W0 at *
  generalize X.heap.size = g at *
  have K0 := hide' E1
  clear E1 KX
  have y0 := K0.out.k 10 _ rfl
  go_wp2_with fail
  obtain ⟨m0, hm0⟩ : ∃ x, ln = x := ⟨_, rfl⟩
  obtain ⟨n0, hn0⟩ : ∃ x, cl = x := ⟨_, rfl⟩
  subst hm0 hn0
  refine (put_any 1 ⟨#[100, 101, 110, 121]⟩ K0.out.ld (by have h0 := H.out.2.2.2; (try simp only [List.length_append, List.length_cons, List.length_nil]); omega)).mono ?_
  rintro e W1 ⟨rfl, v1, m1, n1, L, S⟩
  clear y0
  have K1 := hide' (K0.out.call L S)
  clear L S K0
  have b1 := K1.out.c 1 _ rfl
  go_wp2_with fail
  refine (lname_any head K1.out.ld (by have h0 := H.out.2.2.2; (try simp only [List.length_append, List.length_cons, List.length_nil]); omega)).mono ?_
  rintro e W2 ⟨⟨pk, pt, pl, pc⟩, v2, m2, n2, q2, rfl, ht, hn, L, S⟩
  unfold wv R.wdOf
  simp only at ht ⊢
  subst ht
  clear b1
  have K2 := hide' (K1.out.call L S)
  have Hp := hide' hn
  clear L S hn K1
  have y3 := K2.out.d 3 _ rfl
  have f3 := K2.out.f 3
  have y4 := K2.out.d 4 _ rfl
  have f4 := K2.out.f 4
  have y5 := K2.out.d 5 _ rfl
  have f5 := K2.out.f 5
  go_wp2_with fail
  refine (put_any 1 ⟨#[111, 110]⟩ (((K2.out.set 3 (.string pt)).set 4 (.int .i64 pl)).set 5 (.int .i64 pc)).ld (by have h0 := H.out.2.2.2; (try simp only [List.length_append, List.length_cons, List.length_nil]); omega)).mono ?_
  rintro e W3 ⟨rfl, v3, m3, n3, L, S⟩
  clear y3 f3 y4 f4 y5 f5
  have K3 := hide' ((((K2.out.set 3 (.string pt)).set 4 (.int .i64 pl)).set 5 (.int .i64 pc)).call L S)
  clear L S
  have b2 := K3.out.c 2 _ rfl
  go_wp2_with fail
  refine (lname_any on K3.out.ld (by have h0 := H.out.2.2.2; (try simp only [List.length_append, List.length_cons, List.length_nil]); omega)).mono ?_
  rintro e W4 ⟨⟨rk, rt, rl, rc⟩, v4, m4, n4, q4, rfl, ht, hn, L, S⟩
  unfold wv R.wdOf
  simp only at ht ⊢
  subst ht
  clear b2
  have K4 := hide' (K3.out.call L S)
  have Hr := hide' hn
  clear L S hn K3
  have y6 := K4.out.d 6 _ rfl
  have f6 := K4.out.f 6
  have y7 := K4.out.d 7 _ rfl
  have f7 := K4.out.f 7
  have y8 := K4.out.d 8 _ rfl
  have f8 := K4.out.f 8
  go_wp2_with fail
  refine (put_any 4 ⟨#[58]⟩ (((K4.out.set 6 (.string rt)).set 7 (.int .i64 rl)).set 8 (.int .i64 rc)).ld (by have h0 := H.out.2.2.2; (try simp only [List.length_append, List.length_cons, List.length_nil]); omega)).mono ?_
  rintro e W5 ⟨rfl, v5, m5, n5, L, S⟩
  clear y6 f6 y7 f7 y8 f8
  have K5 := hide' ((((K4.out.set 6 (.string rt)).set 7 (.int .i64 rl)).set 8 (.int .i64 rc)).call L S)
  clear L S
  have b4 := K5.out.c 4 _ rfl
  have y10 := K5.out.d 10 _ rfl
  have f10 := K5.out.f 10
  go_wp2_with fail
  refine (put_any 4 ⟨#[42]⟩ (K5.out.set 10 (.bool true)).ld (by have h0 := H.out.2.2.2; (try simp only [List.length_append, List.length_cons, List.length_nil]); omega)).mono ?_
  rintro e W6 ⟨rfl, v6, m6, n6, L, S⟩
  clear b4 y10 f10
  have K6 := hide' ((K5.out.set 10 (.bool true)).call L S)
  clear L S
  have b6 := K6.out.c 6 _ rfl
  go_wp2_with fail
  refine (figure_any num _).mono ?_
  rintro e w1 ⟨x, lv, rfl, hv, hxs, hw1⟩
  replace hw1 := hw1.symm
  subst hw1
  have HV := hide' (And.intro hv hxs)
  clear hv hxs
  have b5 := K6.out.c 5 _ rfl
  go_wp2_with fail
  refine (HC.out _).mono ?_
  rintro e w1 ⟨rfl, hw1⟩
  replace hw1 := hw1.symm
  subst hw1
  have y11 := K6.out.d 11 _ rfl
  have f11 := K6.out.f 11
  have a11 := fun o => ((K6.out.set 11 (.int .i8 2)).quiet ((Below.refl _ _).alloc (Nat.le_refl _) o)).d 11 _ rfl
  go_wp2_with fail
  refine (put_any 1 ⟨#[98, 101, 108, 111, 119]⟩ ((K6.out.set 11 (.int .i8 2)).quiet ((Below.refl _ _).alloc (Nat.le_refl _) (.cells #[.string ⟨#[97, 98, 111, 118, 101]⟩, .string ⟨#[98, 101, 108, 111, 119]⟩] 9))).ld (by have h0 := H.out.2.2.2; (try simp only [List.length_append, List.length_cons, List.length_nil]); omega)).mono ?_
  rintro e W7 ⟨rfl, v7, m7, n7, L, S⟩
  clear b6 b5 y11 f11 a11
  have K7 := hide' (((K6.out.set 11 (.int .i8 2)).quiet ((Below.refl _ _).alloc (Nat.le_refl _) (.cells #[.string ⟨#[97, 98, 111, 118, 101]⟩, .string ⟨#[98, 101, 108, 111, 119]⟩] 9))).call L S)
  clear L S
  go_wp2_with fail
  refine (put_any 3 x K7.out.ld (by have h0 := H.out.2.2.2; (try simp only [List.length_append, List.length_cons, List.length_nil]); omega)).mono ?_
  rintro e W8 ⟨rfl, v8, m8, n8, L, S⟩
  have K8 := hide' (K7.out.call L S)
  clear L S K7
  have s12 := store_one (v := .float .f64 lv) (K8.out.d 12 _ rfl) (K8.out.f 12) (by simp [Value.oneCell'])
  go_wp2_with fail
  refine (put_any 4 ⟨#[59]⟩ (K8.out.set 12 (.float .f64 lv)).ld (by have h0 := H.out.2.2.2; (try simp only [List.length_append, List.length_cons, List.length_nil]); omega)).mono ?_
  rintro e W9 ⟨rfl, v9, m9, n9, L, S⟩
  clear s12
  have K9 := hide' ((K8.out.set 12 (.float .f64 lv)).call L S)
  clear L S
  go_wp2_with (first | (refine wpList_load_row rfl 59 _ rfl g rfl 59 _ _ _ K9.out.cur Tryz.underlying59 rfl (by kernel_rfl) ?_) | (refine wpList_store_row rfl 59 _ _ rfl (w.heap.size + 1) _ rfl rfl 59 _ K9.out.res (by kernel_rfl) rfl (by simp [Value.oneCell']) ?_))
  obtain ⟨k1, r1, t1, o1⟩ := K9.out.fin
  refine bodyPost_ret_by (results_cell_row rfl _ _ (w.heap.size + 1) 59 _ _ _ rfl k1 Tryz.underlying59 rfl (by kernel_rfl)) rfl ?_
  unfold LaidIs
  have hsz := H.out.2.2.1
  simp only [List.append_assoc, List.cons_append, List.nil_append] at r1
  refine ⟨[(1, ⟨#[100, 101, 110, 121]⟩, ln, cl), (pk, pt, pl, pc), (1, ⟨#[111, 110]⟩, m2, n2), (rk, rt, rl, rc), (4, ⟨#[58]⟩, m4, n4), (4, ⟨#[42]⟩, m5, n5), (1, ⟨#[98, 101, 108, 111, 119]⟩, m6, n6), (3, x, m7, n7), (4, ⟨#[59]⟩, m8, n8)], ⟨11, ln, cl, (pt, pl, pc), (rt, rl, rc), [], true, 2, lv⟩, (.slice none 0 0), _, _, _, _, rfl, o1, (by have hv := HV.out.1 (by have := Hnum.out; omega); have := R.Lay.reads_rule (kw := (1, ⟨#[100, 101, 110, 121]⟩, ln, cl)) (a := (pk, pt, pl, pc)) (b := (1, ⟨#[111, 110]⟩, m2, n2)) (c := (rk, rt, rl, rc)) (d := (4, ⟨#[58]⟩, m4, n4)) (s := (4, ⟨#[59]⟩, m8, n8)) (A := [(4, ⟨#[42]⟩, m5, n5)]) (C := [(1, ⟨#[98, 101, 108, 111, 119]⟩, m6, n6), (3, x, m7, n7)]) rfl (k := 11) (by kernel_rfl) (by omega) Hp.out (R.Lay.is_of 1 _ _ _ _ rfl) Hr.out (R.Lay.is_of 4 _ _ _ _ rfl) (rule_star _ (R.Lay.is_of 4 _ _ _ _ rfl)) (rule_cond2 (R.Lay.is_of 1 _ _ _ _ rfl) rfl hv.1) (fun t ht => by simp at ht; subst ht; exact R.Lay.word_comma (R.Lay.is_of 1 _ _ _ _ rfl)) (R.Lay.is_of 4 _ _ _ _ rfl); rw [hv.2] at this; exact this), ?_, ?_, ?_, r1, t1⟩
  · intro y hy
    simp only [List.mem_append, List.mem_cons, List.not_mem_nil, or_false] at hy
    rcases hy with hy | hy | hy | hy | hy | hy | hy | hy | hy
    · subst hy; simp
    · subst hy; exact nm_five Hp.out
    · subst hy; simp
    · subst hy; exact nm_five Hr.out
    · subst hy; simp
    · subst hy; simp
    · subst hy; simp
    · subst hy; simp
    · subst hy; simp
  · simp only [List.length_append, List.length_cons, List.length_nil]
    omega
  · intro y hy
    simp only [List.mem_append, List.mem_cons, List.not_mem_nil, or_false] at hy
    rcases hy with hy | hy | hy | hy | hy | hy | hy | hy | hy
    · subst hy; exact of_decide_eq_true rfl
    · subst hy; exact hsz.1
    · subst hy; exact of_decide_eq_true rfl
    · subst hy; exact hsz.2.1
    · subst hy; exact of_decide_eq_true rfl
    · subst hy; exact of_decide_eq_true rfl
    · subst hy; exact of_decide_eq_true rfl
    · subst hy; have := HV.out.2; simp only; omega
    · subst hy; exact of_decide_eq_true rfl
set_option maxRecDepth 100000 in
set_option maxHeartbeats 16000000 in
theorem laid11nx0 {sh : Sh} (h : Ld B b ts v ln cl q w) (hin : sh.In B w) (hsm : sh.Small) (few : ts.length + 2 * sh.names.length + 10 ≤ R.lim) (hP : pik (wrap64 (sh.kind - 1)) 12 = 10) (hall : sh.all = false) (hnum : sh.num.size ≠ 0) (hcond : pik sh.cond 2 = 0) :
    Calls Tryz.prog 22 #[.pointer (some ⟨b, 0, none⟩), .agg sh.cells.toArray] w fun e w' => LaidIs B b ts v sh.names.length w e w' := by
  obtain ⟨kind, head, on, na, names, nc, all, cond, num, quo, line, col⟩ := sh
  unfold Sh.Small at hsm
  unfold Sh.cells
  simp only at hP hsm few hall hnum hcond ⊢
  subst hall
  have c3 := h.c3
  have lt := h.lt
  have f3 := h.f 3
  have HP := hide' (fun w => pick_any (wrap64 (kind - 1)) 12 w ⟨by decide, by decide⟩)
  rw [hP] at HP
  have HC := hide' (fun w => pick_any cond 2 w ⟨by decide, by decide⟩)
  rw [hcond] at HC
  clear hcond
  have hne : (num.toList == []) = false := nonempty_beq num hnum
  have Hnum := hide' hnum
  clear hnum
  have cal : ∀ o o', ((w.alloc o).alloc o').cell? ⟨b, 3, none⟩ = some (.int .i64 q) := fun o o' => (World.cell?_of_block (w := w) ((Below.heap_alloc _ _ _ (by simp; omega)).trans (Below.heap_alloc _ _ _ lt))).trans c3
  have fal : ∀ o o', ((w.alloc o).alloc o').frozen? ⟨b, 3, none⟩ = false := fun o o' => (World.frozen?_of_block (w := w) ((Below.heap_alloc _ _ _ (by simp; omega)).trans (Below.heap_alloc _ _ _ lt))).trans f3
  have H := hide' (And.intro h (And.intro hin (And.intro hsm few)))
  clear h hin hsm few hP c3 f3
  go_enter Tryz.func22, Tryz.ntmps22
  go_wp2_with fail
  refine (HP.out _).mono ?_
  rintro e w1 ⟨rfl, hw1⟩
  replace hw1 := hw1.symm
  subst hw1
  clear HP
  go_wp2_with fail
  have E0 := L0.start H.out.1 ⟨kind, head, on, na, names, nc, false, cond, num, quo, line, col⟩
  unfold Sh.cells dz kws at E0
  simp only at E0
  generalize ((((w.setCell ⟨b, 3, none⟩ (.int .i64 quo)).alloc (.cells #[.int .i64 kind, .string head, .string on, .slice na names.length nc, .bool false, .int .i64 cond, .string num, .int .i64 quo, .int .i64 line, .int .i64 col] 53)).alloc (.cells #[.int .i8 0, .int .i64 0, .int .i64 0, .string ⟨#[]⟩, .int .i64 0, .int .i64 0, .string ⟨#[]⟩, .int .i64 0, .int .i64 0, .slice none 0 0, .bool false, .int .i8 0, .float .f64 0] 59)).alloc (.cells #[.string ⟨#[97, 99, 116, 105, 111, 110]⟩, .string ⟨#[115, 117, 98, 106, 101, 99, 116]⟩, .string ⟨#[114, 111, 108, 101]⟩, .string ⟨#[111, 98, 106, 101, 99, 116]⟩, .string ⟨#[103, 114, 111, 117, 112]⟩, .string ⟨#[109, 101, 109, 98, 101, 114]⟩, .string ⟨#[105, 110, 104, 101, 114, 105, 116]⟩, .string ⟨#[112, 97, 114, 116]⟩, .string ⟨#[119, 105, 116, 104, 105, 110]⟩, .string ⟨#[97, 108, 108, 111, 119]⟩, .string ⟨#[100, 101, 110, 121]⟩, .string ⟨#[101, 120, 99, 101, 112, 116]⟩] 9)) = X at *
  have e1 := E0.ld.c1
  have e2 := E0.ld.c2
  have new1 := World.new_ne X ⟨b, 1, none⟩ e1
  have KX := hide' E0
  clear E0 cal fal
  have hst : (store ⟨X.heap.size, 12, none⟩ (.float .f64 0)).run Tryz.prog (X.alloc (.cells #[.int .i8 11, .int .i64 ln, .int .i64 cl, .string ⟨#[]⟩, .int .i64 0, .int .i64 0, .string ⟨#[]⟩, .int .i64 0, .int .i64 0, .slice none 0 0, .bool false, .int .i8 0, .float .f64 0] 59)).drew = .ok () ((X.alloc (.cells #[.int .i8 11, .int .i64 ln, .int .i64 cl, .string ⟨#[]⟩, .int .i64 0, .int .i64 0, .string ⟨#[]⟩, .int .i64 0, .int .i64 0, .slice none 0 0, .bool false, .int .i8 0, .float .f64 0] 59)).drew.setCell ⟨X.heap.size, 12, none⟩ (.float .f64 0)) := store_one (u := .float .f64 0) (by rw [Lib.cell_of_heap (w := (X.alloc (.cells #[.int .i8 11, .int .i64 ln, .int .i64 cl, .string ⟨#[]⟩, .int .i64 0, .int .i64 0, .string ⟨#[]⟩, .int .i64 0, .int .i64 0, .slice none 0 0, .bool false, .int .i8 0, .float .f64 0] 59)).drew) (heap_alloc_new X _)]; rfl) (Lib.frozen_of_heap (w := (X.alloc (.cells #[.int .i8 11, .int .i64 ln, .int .i64 cl, .string ⟨#[]⟩, .int .i64 0, .int .i64 0, .string ⟨#[]⟩, .int .i64 0, .int .i64 0, .slice none 0 0, .bool false, .int .i8 0, .float .f64 0] 59)).drew) (heap_alloc_new X _) 12) (by simp [Value.oneCell'])
  go_region_held3 (fun w' => w'.cell? ⟨b, 1, none⟩ = some (.int .i64 ln) ∧ w'.cell? ⟨b, 2, none⟩ = some (.int .i64 cl)) (first | go_keep) (fail)
  rename_i hHeld
  clear hHeld e1 e2 new1 hst
  have E1 := KX.out.go H.out.1 [.int .i8 11, .int .i64 ln, .int .i64 cl, .string ⟨#[]⟩, .int .i64 0, .int .i64 0, .string ⟨#[]⟩, .int .i64 0, .int .i64 0, .slice none 0 0, .bool false, .int .i8 0, .float .f64 0]
  generalize (X.alloc (.cells #[.int .i8 11, .int .i64 ln, .int .i64 cl, .string ⟨#[]⟩, .int .i64 0, .int .i64 0, .string ⟨#[]⟩, .int .i64 0, .int .i64 0, .slice none 0 0, .bool false, .int .i8 0, .float .f64 0] 59)).drew = W0 at *
  generalize X.heap.size = g at *
  have K0 := hide' E1
  clear E1 KX
  have y0 := K0.out.k 10 _ rfl
  go_wp2_with fail
  obtain ⟨m0, hm0⟩ : ∃ x, ln = x := ⟨_, rfl⟩
  obtain ⟨n0, hn0⟩ : ∃ x, cl = x := ⟨_, rfl⟩
  subst hm0 hn0
  refine (put_any 1 ⟨#[100, 101, 110, 121]⟩ K0.out.ld (by have h0 := H.out.2.2.2; (try simp only [List.length_append, List.length_cons, List.length_nil]); omega)).mono ?_
  rintro e W1 ⟨rfl, v1, m1, n1, L, S⟩
  clear y0
  have K1 := hide' (K0.out.call L S)
  clear L S K0
  have b1 := K1.out.c 1 _ rfl
  go_wp2_with fail
  refine (lname_any head K1.out.ld (by have h0 := H.out.2.2.2; (try simp only [List.length_append, List.length_cons, List.length_nil]); omega)).mono ?_
  rintro e W2 ⟨⟨pk, pt, pl, pc⟩, v2, m2, n2, q2, rfl, ht, hn, L, S⟩
  unfold wv R.wdOf
  simp only at ht ⊢
  subst ht
  clear b1
  have K2 := hide' (K1.out.call L S)
  have Hp := hide' hn
  clear L S hn K1
  have y3 := K2.out.d 3 _ rfl
  have f3 := K2.out.f 3
  have y4 := K2.out.d 4 _ rfl
  have f4 := K2.out.f 4
  have y5 := K2.out.d 5 _ rfl
  have f5 := K2.out.f 5
  go_wp2_with fail
  refine (put_any 1 ⟨#[111, 110]⟩ (((K2.out.set 3 (.string pt)).set 4 (.int .i64 pl)).set 5 (.int .i64 pc)).ld (by have h0 := H.out.2.2.2; (try simp only [List.length_append, List.length_cons, List.length_nil]); omega)).mono ?_
  rintro e W3 ⟨rfl, v3, m3, n3, L, S⟩
  clear y3 f3 y4 f4 y5 f5
  have K3 := hide' ((((K2.out.set 3 (.string pt)).set 4 (.int .i64 pl)).set 5 (.int .i64 pc)).call L S)
  clear L S
  have b2 := K3.out.c 2 _ rfl
  go_wp2_with fail
  refine (lname_any on K3.out.ld (by have h0 := H.out.2.2.2; (try simp only [List.length_append, List.length_cons, List.length_nil]); omega)).mono ?_
  rintro e W4 ⟨⟨rk, rt, rl, rc⟩, v4, m4, n4, q4, rfl, ht, hn, L, S⟩
  unfold wv R.wdOf
  simp only at ht ⊢
  subst ht
  clear b2
  have K4 := hide' (K3.out.call L S)
  have Hr := hide' hn
  clear L S hn K3
  have y6 := K4.out.d 6 _ rfl
  have f6 := K4.out.f 6
  have y7 := K4.out.d 7 _ rfl
  have f7 := K4.out.f 7
  have y8 := K4.out.d 8 _ rfl
  have f8 := K4.out.f 8
  go_wp2_with fail
  refine (put_any 4 ⟨#[58]⟩ (((K4.out.set 6 (.string rt)).set 7 (.int .i64 rl)).set 8 (.int .i64 rc)).ld (by have h0 := H.out.2.2.2; (try simp only [List.length_append, List.length_cons, List.length_nil]); omega)).mono ?_
  rintro e W5 ⟨rfl, v5, m5, n5, L, S⟩
  clear y6 f6 y7 f7 y8 f8
  have K5 := hide' ((((K4.out.set 6 (.string rt)).set 7 (.int .i64 rl)).set 8 (.int .i64 rc)).call L S)
  clear L S
  have b4 := K5.out.c 4 _ rfl
  have b3 := K5.out.c 3 _ rfl
  go_wp2_with fail
  refine (llist_any names na nc K5.out.ld (H.out.2.1.2.old K5.out.old) H.out.2.1.1 (by have h0 := H.out.2.2.2; (try simp only [List.length_append, List.length_cons, List.length_nil]); omega)).mono ?_
  rintro e W6 ⟨N, ws, vv, v6, m6, n6, q6, rfl, row, hN, hNl, htx, L, S⟩
  clear b4 b3
  obtain ⟨sa, sc, rfl⟩ := row_form row
  have K6 := hide' (K5.out.names L S row)
  have HN := hide' (And.intro hN (And.intro hNl htx))
  clear L S row hN hNl htx K5
  have y9 := K6.out.d 9 _ rfl
  have f9 := K6.out.f 9
  have b6 := (K6.out.set 9 (.slice sa ws.length sc)).c 6 _ rfl
  go_wp2_with fail
  refine (figure_any num _).mono ?_
  rintro e w1 ⟨x, lv, rfl, hv, hxs, hw1⟩
  replace hw1 := hw1.symm
  subst hw1
  have HV := hide' (And.intro hv hxs)
  clear hv hxs
  have b5 := (K6.out.set 9 (.slice sa ws.length sc)).c 5 _ rfl
  go_wp2_with fail
  refine (HC.out _).mono ?_
  rintro e w1 ⟨rfl, hw1⟩
  replace hw1 := hw1.symm
  subst hw1
  have y11 := (K6.out.set 9 (.slice sa ws.length sc)).d 11 _ rfl
  have f11 := (K6.out.set 9 (.slice sa ws.length sc)).f 11
  have a11 := fun o => (((K6.out.set 9 (.slice sa ws.length sc)).set 11 (.int .i8 1)).quiet ((Below.refl _ _).alloc (Nat.le_refl _) o)).d 11 _ rfl
  go_wp2_with fail
  refine (put_any 1 ⟨#[97, 98, 111, 118, 101]⟩ (((K6.out.set 9 (.slice sa ws.length sc)).set 11 (.int .i8 1)).quiet ((Below.refl _ _).alloc (Nat.le_refl _) (.cells #[.string ⟨#[97, 98, 111, 118, 101]⟩, .string ⟨#[98, 101, 108, 111, 119]⟩] 9))).ld (by have h0 := H.out.2.2.2; have h1 := HN.out.2.1; (try simp only [List.length_append, List.length_cons, List.length_nil]); omega)).mono ?_
  rintro e W7 ⟨rfl, v7, m7, n7, L, S⟩
  clear y9 f9 b6 b5 y11 f11 a11
  have K7 := hide' ((((K6.out.set 9 (.slice sa ws.length sc)).set 11 (.int .i8 1)).quiet ((Below.refl _ _).alloc (Nat.le_refl _) (.cells #[.string ⟨#[97, 98, 111, 118, 101]⟩, .string ⟨#[98, 101, 108, 111, 119]⟩] 9))).call L S)
  clear L S
  go_wp2_with fail
  refine (put_any 3 x K7.out.ld (by have h0 := H.out.2.2.2; have h1 := HN.out.2.1; (try simp only [List.length_append, List.length_cons, List.length_nil]); omega)).mono ?_
  rintro e W8 ⟨rfl, v8, m8, n8, L, S⟩
  have K8 := hide' (K7.out.call L S)
  clear L S K7
  have s12 := store_one (v := .float .f64 lv) (K8.out.d 12 _ rfl) (K8.out.f 12) (by simp [Value.oneCell'])
  go_wp2_with fail
  refine (put_any 4 ⟨#[59]⟩ (K8.out.set 12 (.float .f64 lv)).ld (by have h0 := H.out.2.2.2; have h1 := HN.out.2.1; (try simp only [List.length_append, List.length_cons, List.length_nil]); omega)).mono ?_
  rintro e W9 ⟨rfl, v9, m9, n9, L, S⟩
  clear s12
  have K9 := hide' ((K8.out.set 12 (.float .f64 lv)).call L S)
  clear L S
  go_wp2_with (first | (refine wpList_load_row rfl 59 _ rfl g rfl 59 _ _ _ K9.out.cur Tryz.underlying59 rfl (by kernel_rfl) ?_) | (refine wpList_store_row rfl 59 _ _ rfl (w.heap.size + 1) _ rfl rfl 59 _ K9.out.res (by kernel_rfl) rfl (by simp [Value.oneCell']) ?_))
  obtain ⟨k1, r1, t1, o1⟩ := K9.out.fin
  refine bodyPost_ret_by (results_cell_row rfl _ _ (w.heap.size + 1) 59 _ _ _ rfl k1 Tryz.underlying59 rfl (by kernel_rfl)) rfl ?_
  unfold LaidIs
  have hsz := H.out.2.2.1
  simp only [List.append_assoc, List.cons_append, List.nil_append] at r1
  refine ⟨(1, ⟨#[100, 101, 110, 121]⟩, ln, cl) :: (pk, pt, pl, pc) :: (1, ⟨#[111, 110]⟩, m2, n2) :: (rk, rt, rl, rc) :: (4, ⟨#[58]⟩, m4, n4) :: (N ++ [(1, ⟨#[97, 98, 111, 118, 101]⟩, m6, n6), (3, x, m7, n7), (4, ⟨#[59]⟩, m8, n8)]), ⟨11, ln, cl, (pt, pl, pc), (rt, rl, rc), ws, false, 1, lv⟩, (.slice sa ws.length sc), _, _, _, _, rfl, o1, (by have hv := HV.out.1 (by have := Hnum.out; omega); have := R.Lay.reads_rule (kw := (1, ⟨#[100, 101, 110, 121]⟩, ln, cl)) (a := (pk, pt, pl, pc)) (b := (1, ⟨#[111, 110]⟩, m2, n2)) (c := (rk, rt, rl, rc)) (d := (4, ⟨#[58]⟩, m4, n4)) (s := (4, ⟨#[59]⟩, m8, n8)) (A := N) (C := [(1, ⟨#[97, 98, 111, 118, 101]⟩, m6, n6), (3, x, m7, n7)]) rfl (k := 11) (by kernel_rfl) (by omega) Hp.out (R.Lay.is_of 1 _ _ _ _ rfl) Hr.out (R.Lay.is_of 4 _ _ _ _ rfl) (rule_names HN.out.1) (rule_cond1 (R.Lay.is_of 1 _ _ _ _ rfl) rfl hv.1) (fun t ht => by simp at ht; subst ht; exact R.Lay.word_comma (R.Lay.is_of 1 _ _ _ _ rfl)) (R.Lay.is_of 4 _ _ _ _ rfl); rw [hv.2] at this; exact this), ?_, ?_, ?_, r1, t1⟩
  · intro y hy
    simp only [List.mem_append, List.mem_cons, List.not_mem_nil, or_false] at hy
    rcases hy with hy | hy | hy | hy | hy | hy | hy | hy | hy
    · subst hy; simp
    · subst hy; exact nm_five Hp.out
    · subst hy; simp
    · subst hy; exact nm_five Hr.out
    · subst hy; simp
    · exact nms_five HN.out.1 y hy
    · subst hy; simp
    · subst hy; simp
    · subst hy; simp
  · simp only [List.length_append, List.length_cons, List.length_nil]
    have := HN.out.2.1; omega
  · intro y hy
    simp only [List.mem_append, List.mem_cons, List.not_mem_nil, or_false] at hy
    rcases hy with hy | hy | hy | hy | hy | hy | hy | hy | hy
    · subst hy; exact of_decide_eq_true rfl
    · subst hy; exact hsz.1
    · subst hy; exact of_decide_eq_true rfl
    · subst hy; exact hsz.2.1
    · subst hy; exact of_decide_eq_true rfl
    · rcases HN.out.2.2 y hy with q | q; exact hsz.2.2.2.2 _ q; omega
    · subst hy; exact of_decide_eq_true rfl
    · subst hy; have := HV.out.2; simp only; omega
    · subst hy; exact of_decide_eq_true rfl
set_option maxRecDepth 100000 in
set_option maxHeartbeats 16000000 in
theorem laid11nx1 {sh : Sh} (h : Ld B b ts v ln cl q w) (hin : sh.In B w) (hsm : sh.Small) (few : ts.length + 2 * sh.names.length + 10 ≤ R.lim) (hP : pik (wrap64 (sh.kind - 1)) 12 = 10) (hall : sh.all = false) (hnum : sh.num.size ≠ 0) (hcond : pik sh.cond 2 = 1) :
    Calls Tryz.prog 22 #[.pointer (some ⟨b, 0, none⟩), .agg sh.cells.toArray] w fun e w' => LaidIs B b ts v sh.names.length w e w' := by
  obtain ⟨kind, head, on, na, names, nc, all, cond, num, quo, line, col⟩ := sh
  unfold Sh.Small at hsm
  unfold Sh.cells
  simp only at hP hsm few hall hnum hcond ⊢
  subst hall
  have c3 := h.c3
  have lt := h.lt
  have f3 := h.f 3
  have HP := hide' (fun w => pick_any (wrap64 (kind - 1)) 12 w ⟨by decide, by decide⟩)
  rw [hP] at HP
  have HC := hide' (fun w => pick_any cond 2 w ⟨by decide, by decide⟩)
  rw [hcond] at HC
  clear hcond
  have hne : (num.toList == []) = false := nonempty_beq num hnum
  have Hnum := hide' hnum
  clear hnum
  have cal : ∀ o o', ((w.alloc o).alloc o').cell? ⟨b, 3, none⟩ = some (.int .i64 q) := fun o o' => (World.cell?_of_block (w := w) ((Below.heap_alloc _ _ _ (by simp; omega)).trans (Below.heap_alloc _ _ _ lt))).trans c3
  have fal : ∀ o o', ((w.alloc o).alloc o').frozen? ⟨b, 3, none⟩ = false := fun o o' => (World.frozen?_of_block (w := w) ((Below.heap_alloc _ _ _ (by simp; omega)).trans (Below.heap_alloc _ _ _ lt))).trans f3
  have H := hide' (And.intro h (And.intro hin (And.intro hsm few)))
  clear h hin hsm few hP c3 f3
  go_enter Tryz.func22, Tryz.ntmps22
  go_wp2_with fail
  refine (HP.out _).mono ?_
  rintro e w1 ⟨rfl, hw1⟩
  replace hw1 := hw1.symm
  subst hw1
  clear HP
  go_wp2_with fail
  have E0 := L0.start H.out.1 ⟨kind, head, on, na, names, nc, false, cond, num, quo, line, col⟩
  unfold Sh.cells dz kws at E0
  simp only at E0
  generalize ((((w.setCell ⟨b, 3, none⟩ (.int .i64 quo)).alloc (.cells #[.int .i64 kind, .string head, .string on, .slice na names.length nc, .bool false, .int .i64 cond, .string num, .int .i64 quo, .int .i64 line, .int .i64 col] 53)).alloc (.cells #[.int .i8 0, .int .i64 0, .int .i64 0, .string ⟨#[]⟩, .int .i64 0, .int .i64 0, .string ⟨#[]⟩, .int .i64 0, .int .i64 0, .slice none 0 0, .bool false, .int .i8 0, .float .f64 0] 59)).alloc (.cells #[.string ⟨#[97, 99, 116, 105, 111, 110]⟩, .string ⟨#[115, 117, 98, 106, 101, 99, 116]⟩, .string ⟨#[114, 111, 108, 101]⟩, .string ⟨#[111, 98, 106, 101, 99, 116]⟩, .string ⟨#[103, 114, 111, 117, 112]⟩, .string ⟨#[109, 101, 109, 98, 101, 114]⟩, .string ⟨#[105, 110, 104, 101, 114, 105, 116]⟩, .string ⟨#[112, 97, 114, 116]⟩, .string ⟨#[119, 105, 116, 104, 105, 110]⟩, .string ⟨#[97, 108, 108, 111, 119]⟩, .string ⟨#[100, 101, 110, 121]⟩, .string ⟨#[101, 120, 99, 101, 112, 116]⟩] 9)) = X at *
  have e1 := E0.ld.c1
  have e2 := E0.ld.c2
  have new1 := World.new_ne X ⟨b, 1, none⟩ e1
  have KX := hide' E0
  clear E0 cal fal
  have hst : (store ⟨X.heap.size, 12, none⟩ (.float .f64 0)).run Tryz.prog (X.alloc (.cells #[.int .i8 11, .int .i64 ln, .int .i64 cl, .string ⟨#[]⟩, .int .i64 0, .int .i64 0, .string ⟨#[]⟩, .int .i64 0, .int .i64 0, .slice none 0 0, .bool false, .int .i8 0, .float .f64 0] 59)).drew = .ok () ((X.alloc (.cells #[.int .i8 11, .int .i64 ln, .int .i64 cl, .string ⟨#[]⟩, .int .i64 0, .int .i64 0, .string ⟨#[]⟩, .int .i64 0, .int .i64 0, .slice none 0 0, .bool false, .int .i8 0, .float .f64 0] 59)).drew.setCell ⟨X.heap.size, 12, none⟩ (.float .f64 0)) := store_one (u := .float .f64 0) (by rw [Lib.cell_of_heap (w := (X.alloc (.cells #[.int .i8 11, .int .i64 ln, .int .i64 cl, .string ⟨#[]⟩, .int .i64 0, .int .i64 0, .string ⟨#[]⟩, .int .i64 0, .int .i64 0, .slice none 0 0, .bool false, .int .i8 0, .float .f64 0] 59)).drew) (heap_alloc_new X _)]; rfl) (Lib.frozen_of_heap (w := (X.alloc (.cells #[.int .i8 11, .int .i64 ln, .int .i64 cl, .string ⟨#[]⟩, .int .i64 0, .int .i64 0, .string ⟨#[]⟩, .int .i64 0, .int .i64 0, .slice none 0 0, .bool false, .int .i8 0, .float .f64 0] 59)).drew) (heap_alloc_new X _) 12) (by simp [Value.oneCell'])
  go_region_held3 (fun w' => w'.cell? ⟨b, 1, none⟩ = some (.int .i64 ln) ∧ w'.cell? ⟨b, 2, none⟩ = some (.int .i64 cl)) (first | go_keep) (fail)
  rename_i hHeld
  clear hHeld e1 e2 new1 hst
  have E1 := KX.out.go H.out.1 [.int .i8 11, .int .i64 ln, .int .i64 cl, .string ⟨#[]⟩, .int .i64 0, .int .i64 0, .string ⟨#[]⟩, .int .i64 0, .int .i64 0, .slice none 0 0, .bool false, .int .i8 0, .float .f64 0]
  generalize (X.alloc (.cells #[.int .i8 11, .int .i64 ln, .int .i64 cl, .string ⟨#[]⟩, .int .i64 0, .int .i64 0, .string ⟨#[]⟩, .int .i64 0, .int .i64 0, .slice none 0 0, .bool false, .int .i8 0, .float .f64 0] 59)).drew = W0 at *
  generalize X.heap.size = g at *
  have K0 := hide' E1
  clear E1 KX
  have y0 := K0.out.k 10 _ rfl
  go_wp2_with fail
  obtain ⟨m0, hm0⟩ : ∃ x, ln = x := ⟨_, rfl⟩
  obtain ⟨n0, hn0⟩ : ∃ x, cl = x := ⟨_, rfl⟩
  subst hm0 hn0
  refine (put_any 1 ⟨#[100, 101, 110, 121]⟩ K0.out.ld (by have h0 := H.out.2.2.2; (try simp only [List.length_append, List.length_cons, List.length_nil]); omega)).mono ?_
  rintro e W1 ⟨rfl, v1, m1, n1, L, S⟩
  clear y0
  have K1 := hide' (K0.out.call L S)
  clear L S K0
  have b1 := K1.out.c 1 _ rfl
  go_wp2_with fail
  refine (lname_any head K1.out.ld (by have h0 := H.out.2.2.2; (try simp only [List.length_append, List.length_cons, List.length_nil]); omega)).mono ?_
  rintro e W2 ⟨⟨pk, pt, pl, pc⟩, v2, m2, n2, q2, rfl, ht, hn, L, S⟩
  unfold wv R.wdOf
  simp only at ht ⊢
  subst ht
  clear b1
  have K2 := hide' (K1.out.call L S)
  have Hp := hide' hn
  clear L S hn K1
  have y3 := K2.out.d 3 _ rfl
  have f3 := K2.out.f 3
  have y4 := K2.out.d 4 _ rfl
  have f4 := K2.out.f 4
  have y5 := K2.out.d 5 _ rfl
  have f5 := K2.out.f 5
  go_wp2_with fail
  refine (put_any 1 ⟨#[111, 110]⟩ (((K2.out.set 3 (.string pt)).set 4 (.int .i64 pl)).set 5 (.int .i64 pc)).ld (by have h0 := H.out.2.2.2; (try simp only [List.length_append, List.length_cons, List.length_nil]); omega)).mono ?_
  rintro e W3 ⟨rfl, v3, m3, n3, L, S⟩
  clear y3 f3 y4 f4 y5 f5
  have K3 := hide' ((((K2.out.set 3 (.string pt)).set 4 (.int .i64 pl)).set 5 (.int .i64 pc)).call L S)
  clear L S
  have b2 := K3.out.c 2 _ rfl
  go_wp2_with fail
  refine (lname_any on K3.out.ld (by have h0 := H.out.2.2.2; (try simp only [List.length_append, List.length_cons, List.length_nil]); omega)).mono ?_
  rintro e W4 ⟨⟨rk, rt, rl, rc⟩, v4, m4, n4, q4, rfl, ht, hn, L, S⟩
  unfold wv R.wdOf
  simp only at ht ⊢
  subst ht
  clear b2
  have K4 := hide' (K3.out.call L S)
  have Hr := hide' hn
  clear L S hn K3
  have y6 := K4.out.d 6 _ rfl
  have f6 := K4.out.f 6
  have y7 := K4.out.d 7 _ rfl
  have f7 := K4.out.f 7
  have y8 := K4.out.d 8 _ rfl
  have f8 := K4.out.f 8
  go_wp2_with fail
  refine (put_any 4 ⟨#[58]⟩ (((K4.out.set 6 (.string rt)).set 7 (.int .i64 rl)).set 8 (.int .i64 rc)).ld (by have h0 := H.out.2.2.2; (try simp only [List.length_append, List.length_cons, List.length_nil]); omega)).mono ?_
  rintro e W5 ⟨rfl, v5, m5, n5, L, S⟩
  clear y6 f6 y7 f7 y8 f8
  have K5 := hide' ((((K4.out.set 6 (.string rt)).set 7 (.int .i64 rl)).set 8 (.int .i64 rc)).call L S)
  clear L S
  have b4 := K5.out.c 4 _ rfl
  have b3 := K5.out.c 3 _ rfl
  go_wp2_with fail
  refine (llist_any names na nc K5.out.ld (H.out.2.1.2.old K5.out.old) H.out.2.1.1 (by have h0 := H.out.2.2.2; (try simp only [List.length_append, List.length_cons, List.length_nil]); omega)).mono ?_
  rintro e W6 ⟨N, ws, vv, v6, m6, n6, q6, rfl, row, hN, hNl, htx, L, S⟩
  clear b4 b3
  obtain ⟨sa, sc, rfl⟩ := row_form row
  have K6 := hide' (K5.out.names L S row)
  have HN := hide' (And.intro hN (And.intro hNl htx))
  clear L S row hN hNl htx K5
  have y9 := K6.out.d 9 _ rfl
  have f9 := K6.out.f 9
  have b6 := (K6.out.set 9 (.slice sa ws.length sc)).c 6 _ rfl
  go_wp2_with fail
  refine (figure_any num _).mono ?_
  rintro e w1 ⟨x, lv, rfl, hv, hxs, hw1⟩
  replace hw1 := hw1.symm
  subst hw1
  have HV := hide' (And.intro hv hxs)
  clear hv hxs
  have b5 := (K6.out.set 9 (.slice sa ws.length sc)).c 5 _ rfl
  go_wp2_with fail
  refine (HC.out _).mono ?_
  rintro e w1 ⟨rfl, hw1⟩
  replace hw1 := hw1.symm
  subst hw1
  have y11 := (K6.out.set 9 (.slice sa ws.length sc)).d 11 _ rfl
  have f11 := (K6.out.set 9 (.slice sa ws.length sc)).f 11
  have a11 := fun o => (((K6.out.set 9 (.slice sa ws.length sc)).set 11 (.int .i8 2)).quiet ((Below.refl _ _).alloc (Nat.le_refl _) o)).d 11 _ rfl
  go_wp2_with fail
  refine (put_any 1 ⟨#[98, 101, 108, 111, 119]⟩ (((K6.out.set 9 (.slice sa ws.length sc)).set 11 (.int .i8 2)).quiet ((Below.refl _ _).alloc (Nat.le_refl _) (.cells #[.string ⟨#[97, 98, 111, 118, 101]⟩, .string ⟨#[98, 101, 108, 111, 119]⟩] 9))).ld (by have h0 := H.out.2.2.2; have h1 := HN.out.2.1; (try simp only [List.length_append, List.length_cons, List.length_nil]); omega)).mono ?_
  rintro e W7 ⟨rfl, v7, m7, n7, L, S⟩
  clear y9 f9 b6 b5 y11 f11 a11
  have K7 := hide' ((((K6.out.set 9 (.slice sa ws.length sc)).set 11 (.int .i8 2)).quiet ((Below.refl _ _).alloc (Nat.le_refl _) (.cells #[.string ⟨#[97, 98, 111, 118, 101]⟩, .string ⟨#[98, 101, 108, 111, 119]⟩] 9))).call L S)
  clear L S
  go_wp2_with fail
  refine (put_any 3 x K7.out.ld (by have h0 := H.out.2.2.2; have h1 := HN.out.2.1; (try simp only [List.length_append, List.length_cons, List.length_nil]); omega)).mono ?_
  rintro e W8 ⟨rfl, v8, m8, n8, L, S⟩
  have K8 := hide' (K7.out.call L S)
  clear L S K7
  have s12 := store_one (v := .float .f64 lv) (K8.out.d 12 _ rfl) (K8.out.f 12) (by simp [Value.oneCell'])
  go_wp2_with fail
  refine (put_any 4 ⟨#[59]⟩ (K8.out.set 12 (.float .f64 lv)).ld (by have h0 := H.out.2.2.2; have h1 := HN.out.2.1; (try simp only [List.length_append, List.length_cons, List.length_nil]); omega)).mono ?_
  rintro e W9 ⟨rfl, v9, m9, n9, L, S⟩
  clear s12
  have K9 := hide' ((K8.out.set 12 (.float .f64 lv)).call L S)
  clear L S
  go_wp2_with (first | (refine wpList_load_row rfl 59 _ rfl g rfl 59 _ _ _ K9.out.cur Tryz.underlying59 rfl (by kernel_rfl) ?_) | (refine wpList_store_row rfl 59 _ _ rfl (w.heap.size + 1) _ rfl rfl 59 _ K9.out.res (by kernel_rfl) rfl (by simp [Value.oneCell']) ?_))
  obtain ⟨k1, r1, t1, o1⟩ := K9.out.fin
  refine bodyPost_ret_by (results_cell_row rfl _ _ (w.heap.size + 1) 59 _ _ _ rfl k1 Tryz.underlying59 rfl (by kernel_rfl)) rfl ?_
  unfold LaidIs
  have hsz := H.out.2.2.1
  simp only [List.append_assoc, List.cons_append, List.nil_append] at r1
  refine ⟨(1, ⟨#[100, 101, 110, 121]⟩, ln, cl) :: (pk, pt, pl, pc) :: (1, ⟨#[111, 110]⟩, m2, n2) :: (rk, rt, rl, rc) :: (4, ⟨#[58]⟩, m4, n4) :: (N ++ [(1, ⟨#[98, 101, 108, 111, 119]⟩, m6, n6), (3, x, m7, n7), (4, ⟨#[59]⟩, m8, n8)]), ⟨11, ln, cl, (pt, pl, pc), (rt, rl, rc), ws, false, 2, lv⟩, (.slice sa ws.length sc), _, _, _, _, rfl, o1, (by have hv := HV.out.1 (by have := Hnum.out; omega); have := R.Lay.reads_rule (kw := (1, ⟨#[100, 101, 110, 121]⟩, ln, cl)) (a := (pk, pt, pl, pc)) (b := (1, ⟨#[111, 110]⟩, m2, n2)) (c := (rk, rt, rl, rc)) (d := (4, ⟨#[58]⟩, m4, n4)) (s := (4, ⟨#[59]⟩, m8, n8)) (A := N) (C := [(1, ⟨#[98, 101, 108, 111, 119]⟩, m6, n6), (3, x, m7, n7)]) rfl (k := 11) (by kernel_rfl) (by omega) Hp.out (R.Lay.is_of 1 _ _ _ _ rfl) Hr.out (R.Lay.is_of 4 _ _ _ _ rfl) (rule_names HN.out.1) (rule_cond2 (R.Lay.is_of 1 _ _ _ _ rfl) rfl hv.1) (fun t ht => by simp at ht; subst ht; exact R.Lay.word_comma (R.Lay.is_of 1 _ _ _ _ rfl)) (R.Lay.is_of 4 _ _ _ _ rfl); rw [hv.2] at this; exact this), ?_, ?_, ?_, r1, t1⟩
  · intro y hy
    simp only [List.mem_append, List.mem_cons, List.not_mem_nil, or_false] at hy
    rcases hy with hy | hy | hy | hy | hy | hy | hy | hy | hy
    · subst hy; simp
    · subst hy; exact nm_five Hp.out
    · subst hy; simp
    · subst hy; exact nm_five Hr.out
    · subst hy; simp
    · exact nms_five HN.out.1 y hy
    · subst hy; simp
    · subst hy; simp
    · subst hy; simp
  · simp only [List.length_append, List.length_cons, List.length_nil]
    have := HN.out.2.1; omega
  · intro y hy
    simp only [List.mem_append, List.mem_cons, List.not_mem_nil, or_false] at hy
    rcases hy with hy | hy | hy | hy | hy | hy | hy | hy | hy
    · subst hy; exact of_decide_eq_true rfl
    · subst hy; exact hsz.1
    · subst hy; exact of_decide_eq_true rfl
    · subst hy; exact hsz.2.1
    · subst hy; exact of_decide_eq_true rfl
    · rcases HN.out.2.2 y hy with q | q; exact hsz.2.2.2.2 _ q; omega
    · subst hy; exact of_decide_eq_true rfl
    · subst hy; have := HV.out.2; simp only; omega
    · subst hy; exact of_decide_eq_true rfl
end Go.Proofs.YtfgblchnnhdlnaaGreatDoor
