import Derived.Test.YtdhmommfmmiieaaMop
import Derived.Test.YtdhmommfmmiieaaApl
import Derived.Test.YtdhmommfmmiieaaTrr
import Derived.Deep.RegionHeld3
set_option linter.unusedVariables false
set_option linter.unusedSimpArgs false
namespace Go.Proofs.Ytdhmommfmmiieaa
open Go.RowKit Go.Maps
namespace U
theorem rel_few' {F : Pf} (h : (fos F.s.2.2).length * ((fo F.o.2.2).length * (fo F.a.2.2).length) ≤ 65536) : (rel F).length ≤ 65536 := by
  have q1 := relA_len F (fo F.a.2.2) (fo F.o.2.2) (fos F.s.2.2)
  show (relA F _ _ _).length ≤ _
  omega
set_option maxRecDepth 100000 in
set_option maxHeartbeats 16000000 in
theorem meanOrder_walk (F : Pf) (N : Nat) (z : Int) (w : World) (h : F.In w) (f : Fine F N) (hm : 2 * (F.m.2.2.length + F.i.2.2.length) ≤ N) (hp : 2 * (F.p.2.2.length + F.w.2.2.length) ≤ N) (hu : 2 * F.u.2.2.length ≤ N) (hx : 2 * F.x.2.2.length ≤ N) (hz : -9223372036854775808 ≤ z ∧ z ≤ 9223372036854775807) : Calls Try.prog 11 #[.agg F.arr, .int .i64 z] w fun e w' => e = .returned (.bool true) ∧ Below w.heap.size w w' := by
  have H := hide' h
  have Hf := hide' f
  have Hn := hide' (And.intro hm (And.intro hp (And.intro hu (And.intro hx hz))))
  have hul : (F.u.2.2.length : Int) ≤ 1048576 := by have := f.u; have := f.n; omega
  have hxl : (F.x.2.2.length : Int) ≤ 1048576 := by have := f.x; have := f.n; omega
  clear h f hm hp hu hx hz
  go_enter Try.func11, Try.ntmps11
  go_wp2_with fail
  have B0 : Hid (Below w.heap.size w (w.alloc (.cells F.arr 34)) ∧ (w.alloc (.cells F.arr 34)).heap[w.heap.size]? = some (.cells F.arr 34 (0, 0))) := ⟨(Below.refl _ _).alloc (Nat.le_refl _) _, heap_alloc_new w _⟩
  generalize w.alloc (.cells F.arr 34) = V at *
  obtain ⟨q1, hq1⟩ : ∃ q1, q1 = w.heap.size := ⟨_, rfl⟩
  rw [← hq1]
  have B0' : Hid (Below w.heap.size w V ∧ V.heap[q1]? = some (.cells F.arr 34 (0, 0))) := by rw [hq1]; exact B0
  clear hq1 B0
  have BW : Hid (∀ (V V' : World), (Below w.heap.size w V ∧ V.heap[q1]? = some (.cells F.arr 34 (0, 0))) → Below V.heap.size V V' → (Below w.heap.size w V' ∧ V'.heap[q1]? = some (.cells F.arr 34 (0, 0)))) := fun V V' p b => ⟨p.1.trans (b.mono p.1.size), (b.block _ (lt_of_heap p.2)).trans p.2⟩
  refine (alive_any V).mono ?_
  rintro e V1 ⟨rfl, b1⟩
  have B1 := hide' (BW.out _ _ B0'.out b1)
  clear B0' b1 V
  go_wp2_with (with_reducible refine stay_load 34 _ rfl ?_)
  unfold Stay
  refine wpList_load_row rfl 34 _ rfl q1 rfl 34 F.arr (0, 0) _ B1.out.2 Try.underlying34 rfl (size_arr F) ?_
  go_wp2_with fail
  refine (vast_call F N V1 Hf.out).mono ?_
  rintro e V2 ⟨rfl, b2⟩
  have B2 := hide' (BW.out _ _ B1.out b2)
  clear B1 b2 V1
  cases hv : vst F.s.2.2.length F.o.2.2.length F.a.2.2.length with
  | true =>
    clear hv
    go_wp2_with fail
    go_ret
    exact ⟨rfl, B2.out.1⟩
  | false =>
  have Hv := hide' (vst_few hv)
  clear hv
  have KB : Hid (∀ W, Below V2.heap.size V2 W → F.In W ∧ W.heap[q1]? = some (.cells F.arr 34 (0, 0)) ∧ Below w.heap.size w W) := fun W b => ⟨H.out.below (BW.out _ _ B2.out b).1, (BW.out _ _ B2.out b).2, (BW.out _ _ B2.out b).1⟩
  go_wp2_with (with_reducible refine stay_load 34 _ rfl ?_)
  unfold Stay
  refine wpList_load_row rfl 34 _ rfl q1 rfl 34 F.arr (0, 0) _ B2.out.2 Try.underlying34 rfl (size_arr F) ?_
  go_wp2_with fail
  refine (twin_any F V2 (H.out.below B2.out.1) Hf.out.small).mono ?_
  rintro e V4 ⟨J, rfl, tw, rs, ur, d4⟩
  have TW := hide' tw
  go_wp2_with (with_reducible refine stay_store 34 _ _ rfl ?_)
  unfold Stay
  refine wpList_store_row rfl 34 _ _ rfl V4.heap.size J.arr rfl rfl 34 _ (heap_alloc_new V4 _) (size_arr _) rfl (by simp [Pf.arr, Value.oneCell']) ?_
  rw [World.setRow_alloc_new]
  have P5 : Hid (Pq w V2.heap.size V4.heap.size J (V4.alloc (.cells J.arr 34))) := (ps_new d4.size rs ur).pq
  have b5 : Below V4.heap.size V4 (V4.alloc (.cells J.arr 34)) := (Below.refl _ _).alloc (Nat.le_refl _) _
  have D5 := hide' (d4.trans (b5.mono d4.size))
  clear tw rs ur d4 b5
  generalize V4.alloc (.cells J.arr 34) = V5 at *
  generalize V4.heap.size = q5 at *
  clear V4
  have y9 : V5.cell? ⟨q5, 9, none⟩ = some (.slice J.u.1 J.u.2.2.length J.u.2.1) := P5.out.c 9
  have f9 : V5.frozen? ⟨q5, 9, none⟩ = false := P5.out.f 9
  have P6 : Hid (Pq w V2.heap.size q5 { J with u := (none, 0, []) } (V5.setCell ⟨q5, 9, none⟩ (.slice none 0 0))) := Pq.put P5.out.h P5.out.l 9 _ (by show _ = Pf.arr _; simp [Pf.arr]) ⟨P5.out.rs.a, P5.out.rs.s, P5.out.rs.r, P5.out.rs.o, P5.out.rs.g, P5.out.rs.m, P5.out.rs.i, P5.out.rs.p, P5.out.rs.w, (fun R hR => by cases hR), P5.out.rs.x⟩ (G.RowI.nil _ _ _ _)
  have D6 : Hid (Below V2.heap.size V2 (V5.setCell ⟨q5, 9, none⟩ (.slice none 0 0))) := D5.out.trans (below_own (set_turn q5 9 _ V5) (fun j q => by rw [q]; exact P5.out.l) D5.out.size)
  go_wp2_with (with_reducible refine stay_fa7 (k := 10) rfl ?_)
  unfold Stay
  clear y9 f9 P5 D5
  generalize V5.setCell ⟨q5, 9, none⟩ (.slice none 0 0) = V6 at *
  have y10 : V6.cell? ⟨q5, 10, none⟩ = some (.slice J.x.1 J.x.2.2.length J.x.2.1) := P6.out.c 10
  have f10 : V6.frozen? ⟨q5, 10, none⟩ = false := P6.out.f 10
  have P7 : Hid (Pq w V2.heap.size q5 { J with u := (none, 0, []), x := (none, 0, []) } (V6.setCell ⟨q5, 10, none⟩ (.slice none 0 0))) := Pq.put P6.out.h P6.out.l 10 _ (by show _ = Pf.arr _; simp [Pf.arr]) ⟨P6.out.rs.a, P6.out.rs.s, P6.out.rs.r, P6.out.rs.o, P6.out.rs.g, P6.out.rs.m, P6.out.rs.i, P6.out.rs.p, P6.out.rs.w, (fun R hR => by cases hR), X.RowI.nil _ _⟩ (G.RowI.nil _ _ _ _)
  have D7 : Hid (Below V2.heap.size V2 (V6.setCell ⟨q5, 10, none⟩ (.slice none 0 0))) := D6.out.trans (below_own (set_turn q5 10 _ V6) (fun j q => by rw [q]; exact P6.out.l) D6.out.size)
  go_wp2_with fail
  clear y10 f10 P6 D6
  generalize V6.setCell ⟨q5, 10, none⟩ (.slice none 0 0) = V7 at *
  go_loopw [8] (fun iv wx => ∃ (i : Nat) (uo : Option Addr) (uc : Nat), iv = .int .i64 (i : Int) ∧ i ≤ F.u.2.2.length ∧ Hid (Below V2.heap.size V2 wx ∧ Pq w V2.heap.size q5 { J with u := (uo, uc, F.u.2.2.reverse.take i), x := (none, 0, []) } wx)) (fun iv _ => F.u.2.2.length - (intOf iv).toNat)
  case atStart => exact ⟨0, none, 0, rfl, Nat.zero_le _, D7.out, P7.out⟩
  case round =>
    obtain ⟨i, uo, uc, rfl, hi, PD⟩ := hrel
    clear P7 D7
    have y1 : wr.cell? ⟨q1, 9, none⟩ = some (.slice F.u.1 F.u.2.2.length F.u.2.1) := by rw [Lib.cell_of_heap (KB.out _ PD.out.1).2.1]; rfl
    by_cases hlt : i < F.u.2.2.length
    · have hlt' : (i : Int) < (F.u.2.2.length : Int) := by omega
      obtain ⟨j, hj⟩ : ∃ j : Nat, F.u.2.2.length - 1 - i = j := ⟨_, rfl⟩
      have hjl : j < F.u.2.2.length := by omega
      obtain ⟨R, hR⟩ : ∃ R, F.u.2.2[j]? = some R := ⟨_, List.getElem?_eq_getElem hjl⟩
      have HT := hide' (rev_take (l := F.u.2.2) (i := i) (R := R) (by rw [hj]; exact hR) hlt)
      obtain ⟨ub, uoff, huo, hub, hc⟩ := (KB.out _ PD.out.1).1.u.1.1.at (show (F.u.2.2.map Ru.cells)[j]? = some R.cells by rw [List.getElem?_map, hR]; rfl)
      obtain ⟨hRo, ⟨bv, hbv⟩, hRl⟩ := H.out.u.1.2 R (List.mem_of_getElem? hR)
      have HRc : Hid (R.cells = [.bool bv, .string R.who, .string R.what, .slice R.ro R.rl.length R.rc, .int .i8 R.cd, .float .f64 R.lv]) := by show _ = _; unfold Ru.cells; rw [hbv]
      have KT : Hid (∀ W, Below V2.heap.size V2 W → W.cell? ⟨q1, 9, none⟩ = some (.slice (some ⟨ub, uoff, none⟩) F.u.2.2.length F.u.2.1) ∧ W.rangeAt ub (uoff + j * 6) [.bool bv, .string R.who, .string R.what, .slice R.ro R.rl.length R.rc, .int .i8 R.cd, .float .f64 R.lv]) := fun W b => by
        obtain ⟨ub', uoff', huo', _, hc'⟩ := (KB.out W b).1.u.1.1.at (show (F.u.2.2.map Ru.cells)[j]? = some R.cells by rw [List.getElem?_map, hR]; rfl)
        rw [huo] at huo'
        cases huo'
        refine ⟨?_, fun r v hv => hc' r v (by rw [HRc.out]; exact hv)⟩
        rw [Lib.cell_of_heap (KB.out W b).2.1, ← huo]
        rfl
      have HRr : Hid (Ok3 S.Ints (R.ro, R.rc, R.rl) w ∧ (∃ b, R.d = .bool b) ∧ R.rl.length ≤ 1048576) := ⟨hRo, ⟨bv, hbv⟩, hRl⟩
      have ej : (F.u.2.2.length : Int) - 1 - (i : Int) = (j : Int) := by omega
      have hjl' : (j : Int) < (F.u.2.2.length : Int) := by omega
      have HL : Hid ((F.u.2.2.reverse.take i).length = i) := by show _ = _; rw [List.length_take, List.length_reverse]; omega
      have d0 : Below V2.heap.size V2 wr.drew := PD.out.1.trans ⟨rfl, rfl, rfl, Nat.le_refl _, fun _ _ => rfl⟩
      have P0 := hide' (PD.out.2.below (⟨rfl, rfl, rfl, Nat.le_refl _, fun _ _ => rfl⟩ : Below wr.heap.size wr wr.drew))
      have y9 : wr.drew.cell? ⟨q5, 9, none⟩ = some (.slice uo i uc) := by rw [P0.out.c 9]; show some (Value.slice uo (F.u.2.2.reverse.take i).length uc) = _; rw [HL.out]
      have b9 : ∀ o, Below wr.drew.heap.size wr.drew (wr.drew.alloc o) := fun o => (Below.refl _ _).alloc (Nat.le_refl _) _
      have y9a : ∀ o, (wr.drew.alloc o).cell? ⟨q5, 9, none⟩ = some (.slice uo i uc) := fun o => ((b9 o).cell (p := ⟨q5, 9, none⟩) (lt_of_heap P0.out.h)).trans y9
      have dA := hide' (fun o => d0.trans ((b9 o).mono d0.size))
      rw [huo] at y1
      have h1i : (1 : Int) ≤ (F.u.2.2.length : Int) := by omega
      clear hR hj hjl huo hub hc PD b9 hRo hRl hbv
      go_wp2_with fail
      clear y1
      refine wp_region_held_drew (S := (fun W' => W'.cell? ⟨q1, 9, none⟩ = some (.slice (some ⟨ub, uoff, none⟩) F.u.2.2.length F.u.2.1) ∧ W'.rangeAt ub (uoff + j * 6) [.bool bv, .string R.who, .string R.what, .slice R.ro R.rl.length R.rc, .int .i8 R.cd, .float .f64 R.lv])) (by kernel_rfl) (KT.out _ d0) (fun hHeld => ?_)
      refine wpAnyH_take (i := 0) (oi := { dst := some 26, op := Op.fieldAddr 34 (Operand.tmp 7) 9, type := 0, pos := "outright.go:174", after := #[], guard := none }) (v := .pointer (some ⟨q5, 9, none⟩)) rfl (by kernel_rfl) (by kernel_rfl) (by kernel_rfl) (fun _ _ _ h => h) (Or.inl ⟨by kernel_rfl, fun w hSw => ?_⟩) (by assumption) ?_
      · clear hSw; go_simp
      (try simp only [Act.put, List.setIfInBounds_toArray, List.set_cons_zero, List.set_cons_succ])
      refine wpAnyH_take (i := 2) (oi := { dst := some 28, op := Op.fieldAddr 34 (Operand.tmp 2) 9, type := 0, pos := "outright.go:174", after := #[], guard := none }) (v := .pointer (some ⟨q1, 9, none⟩)) rfl (by kernel_rfl) (by kernel_rfl) (by kernel_rfl) (fun _ _ _ h => h) (Or.inl ⟨by kernel_rfl, fun w hSw => ?_⟩) (by assumption) ?_
      · clear hSw; go_simp
      (try simp only [Act.put, List.setIfInBounds_toArray, List.set_cons_zero, List.set_cons_succ])
      refine wpAnyH_take (i := 3) (oi := { dst := some 29, op := Op.load 31 (Operand.tmp 28), type := 31, pos := "outright.go:174", after := #[{ on := 2, ground := Ground.data }], guard := none }) (v := .slice (some ⟨ub, uoff, none⟩) F.u.2.2.length F.u.2.1) rfl (by kernel_rfl) (by kernel_rfl) (by kernel_rfl) (fun _ _ _ h => h) (Or.inl ⟨by kernel_rfl, fun w hSw => ?_⟩) (by assumption) ?_
      · have h0 := hSw.1; clear hSw; go_simp
      (try simp only [Act.put, List.setIfInBounds_toArray, List.set_cons_zero, List.set_cons_succ])
      refine wpAnyH_take (i := 4) (oi := { dst := some 30, op := Op.fieldAddr 34 (Operand.tmp 2) 9, type := 0, pos := "outright.go:174", after := #[], guard := none }) (v := .pointer (some ⟨q1, 9, none⟩)) rfl (by kernel_rfl) (by kernel_rfl) (by kernel_rfl) (fun _ _ _ h => h) (Or.inl ⟨by kernel_rfl, fun w hSw => ?_⟩) (by assumption) ?_
      · clear hSw; go_simp
      (try simp only [Act.put, List.setIfInBounds_toArray, List.set_cons_zero, List.set_cons_succ])
      refine wpAnyH_take (i := 5) (oi := { dst := some 31, op := Op.load 31 (Operand.tmp 30), type := 31, pos := "outright.go:174", after := #[{ on := 4, ground := Ground.data }], guard := none }) (v := .slice (some ⟨ub, uoff, none⟩) F.u.2.2.length F.u.2.1) rfl (by kernel_rfl) (by kernel_rfl) (by kernel_rfl) (fun _ _ _ h => h) (Or.inl ⟨by kernel_rfl, fun w hSw => ?_⟩) (by assumption) ?_
      · have h0 := hSw.1; clear hSw; go_simp
      (try simp only [Act.put, List.setIfInBounds_toArray, List.set_cons_zero, List.set_cons_succ])
      refine wpAnyH_take (i := 6) (oi := { dst := some 32, op := Op.call { callee := Callee.builtin Builtin.len, args := #[Operand.tmp 31], argTypes := #[31] }, type := 3, pos := "outright.go:174", after := #[{ on := 5, ground := Ground.data }], guard := none }) (v := .int .i64 (F.u.2.2.length : Int)) rfl (by kernel_rfl) (by kernel_rfl) (by kernel_rfl) (fun _ _ _ h => h) (Or.inl ⟨by kernel_rfl, fun w hSw => ?_⟩) (by assumption) ?_
      · clear hSw; go_simp
      (try simp only [Act.put, List.setIfInBounds_toArray, List.set_cons_zero, List.set_cons_succ])
      refine wpAnyH_take (i := 7) (oi := { dst := some 33, op := Op.binOp BinOp.sub 3 (Operand.tmp 32) (Operand.const (Value.int IntKind.i64 1)) 3, type := 3, pos := "outright.go:174", after := #[{ on := 6, ground := Ground.data }], guard := none }) (v := .int .i64 ((F.u.2.2.length : Int) - 1)) rfl (by kernel_rfl) (by kernel_rfl) (by kernel_rfl) (fun _ _ _ h => h) (Or.inl ⟨by kernel_rfl, fun w hSw => ?_⟩) (by assumption) ?_
      · clear hSw; go_simp; rw [IntKind.wrap_i64]; omega
      (try simp only [Act.put, List.setIfInBounds_toArray, List.set_cons_zero, List.set_cons_succ])
      refine wpAnyH_take (i := 8) (oi := { dst := some 34, op := Op.move (Operand.tmp 8), type := 3, pos := "outright.go:174", after := #[], guard := none }) (v := .int .i64 (i : Int)) rfl (by kernel_rfl) (by kernel_rfl) (by kernel_rfl) (fun _ _ _ h => h) (Or.inl ⟨by kernel_rfl, fun w hSw => ?_⟩) (by assumption) ?_
      · clear hSw; go_simp
      (try simp only [Act.put, List.setIfInBounds_toArray, List.set_cons_zero, List.set_cons_succ])
      refine wpAnyH_take (i := 9) (oi := { dst := some 35, op := Op.binOp BinOp.sub 3 (Operand.tmp 33) (Operand.tmp 34) 3, type := 3, pos := "outright.go:174", after := #[{ on := 7, ground := Ground.data }, { on := 8, ground := Ground.data }], guard := none }) (v := .int .i64 (j : Int)) rfl (by kernel_rfl) (by kernel_rfl) (by kernel_rfl) (fun _ _ _ h => h) (Or.inl ⟨by kernel_rfl, fun w hSw => ?_⟩) (by assumption) ?_
      · clear hSw; go_simp; rw [IntKind.wrap_i64]; omega
      (try simp only [Act.put, List.setIfInBounds_toArray, List.set_cons_zero, List.set_cons_succ])
      refine wpAnyH_take (i := 10) (oi := { dst := some 36, op := Op.indexAddr 31 (Operand.tmp 29) (Operand.tmp 35), type := 0, pos := "outright.go:174", after := #[{ on := 3, ground := Ground.data }, { on := 9, ground := Ground.data }], guard := none }) (v := .pointer (some ⟨ub, uoff + j * 6, none⟩)) rfl (by kernel_rfl) (by kernel_rfl) (by kernel_rfl) (fun _ _ _ h => h) (Or.inl ⟨by kernel_rfl, fun w hSw => ?_⟩) (by assumption) ?_
      · clear hSw; go_simp
      (try simp only [Act.put, List.setIfInBounds_toArray, List.set_cons_zero, List.set_cons_succ])
      refine wpAnyH_take (i := 11) (oi := { dst := some 37, op := Op.load 27 (Operand.tmp 36), type := 27, pos := "outright.go:174", after := #[{ on := 10, ground := Ground.data }], guard := none }) (v := .agg #[.bool bv, .string R.who, .string R.what, .slice R.ro R.rl.length R.rc, .int .i8 R.cd, .float .f64 R.lv]) rfl (by kernel_rfl) (by kernel_rfl) (by kernel_rfl) (fun _ _ _ h => h) (Or.inl ⟨by kernel_rfl, fun w hSw => ?_⟩) (by assumption) ?_
      · exact ex_rng 27 _ rfl ub (uoff + j * 6) rfl [.bool bv, .string R.who, .string R.what, .slice R.ro R.rl.length R.rc, .int .i8 R.cd, .float .f64 R.lv] _ hSw.2 Try.underlying27 rfl (by kernel_rfl)
      (try simp only [Act.put, List.setIfInBounds_toArray, List.set_cons_zero, List.set_cons_succ])
      refine wpAnyH_ready (rs := [1, 12]) (by kernel_rfl) (by simp) ?_
      refine AllReadyH.cons (o := { dst := some 27, op := Op.load 31 (Operand.tmp 26), type := 31, pos := "outright.go:174", after := #[{ on := 0, ground := Ground.data }], guard := none }) rfl (fun K hK => ?_) (AllReadyH.cons (o := { dst := some 38, op := Op.buildSlice 31 1 #[(0, Operand.tmp 37)], type := 31, pos := "outright.go:174", after := #[{ on := 11, ground := Ground.data }], guard := none }) rfl (fun K hK => ?_) AllReadyH.nil)
      · go_simp
        refine hK.out _ _ (KT.out _ d0) (fun hHeld => ?_)
        clear hK K
        (try simp only [Act.put, List.setIfInBounds_toArray, List.set_cons_zero, List.set_cons_succ])
        refine wpAnyH_ready (rs := [12]) (by kernel_rfl) (by simp) ?_
        refine AllReadyH.cons (o := { dst := some 38, op := Op.buildSlice 31 1 #[(0, Operand.tmp 37)], type := 31, pos := "outright.go:174", after := #[{ on := 11, ground := Ground.data }], guard := none }) rfl (fun K hK => ?_) AllReadyH.nil
        go_simp
        refine hK.out _ _ (KT.out _ (dA.out _)) (fun hHeld => ?_)
        clear hK K
        (try simp only [Act.put, List.setIfInBounds_toArray, List.set_cons_zero, List.set_cons_succ])
        refine wpAnyH_ready (rs := [13]) (by kernel_rfl) (by simp) ?_
        refine AllReadyH.cons (o := { dst := some 39, op := Op.call { callee := Callee.builtin Builtin.append, args := #[Operand.tmp 27, Operand.tmp 38], argTypes := #[31, 31] }, type := 31, pos := "outright.go:174", after := #[{ on := 1, ground := Ground.data }, { on := 12, ground := Ground.data }], guard := none }) rfl (fun K hK => ?_) AllReadyH.nil
        refine G.step_app1 wr.drew (by rfl) _ _ 31 27 6 80 _ (by rfl) Try.underlying31 G.info27 rfl (by decide) (by decide) V2.heap.size uo uc i ((F.u.2.2.reverse.take i).map Ru.cells) (by rw [List.length_map]; exact HL.out) [.bool bv, .string R.who, .string R.what, .slice R.ro R.rl.length R.rc, .int .i8 R.cd, .float .f64 R.lv] rfl (by simp [Value.oneCell']) 27 1 (by rfl) P0.out.u (by rfl) (by omega) d0.size ?_
        intro g cap W1 r8 t8
        have AX := hide' (P0.out.appu (R := R) t8 (by rw [HRc.out]; exact r8) ⟨.inr HRr.out.1, HRr.out.2⟩)
        have d8 : Below V2.heap.size V2 W1 := d0.trans (below_own t8 (fun j q => (P0.out.u.lt j q).1) d0.size)
        have k9 : W1.cell? ⟨q5, 9, none⟩ = some (.slice uo i uc) := by rw [Lib.cell_of_heap AX.out.2]; show some (Value.slice uo (F.u.2.2.reverse.take i).length uc) = _; rw [HL.out]
        have f9 : W1.frozen? ⟨q5, 9, none⟩ = false := Lib.frozen_of_heap AX.out.2 9
        have d9 := hide' (d8.trans (below_own (set_turn q5 9 (.slice (some ⟨g, 0, none⟩) (i + 1) cap) W1) (fun j q => by rw [q]; exact P0.out.l) d8.size))
        clear r8 t8
        refine hK.out _ _ (KT.out _ d8) (fun hHeld => ?_)
        clear hK K
        (try simp only [Act.put, List.setIfInBounds_toArray, List.set_cons_zero, List.set_cons_succ])
        refine wpAnyH_take (i := 14) (oi := { dst := some 40, op := Op.fieldAddr 34 (Operand.tmp 7) 9, type := 0, pos := "outright.go:174", after := #[{ on := 0, ground := Ground.phase }, { on := 1, ground := Ground.phase }, { on := 2, ground := Ground.phase }, { on := 3, ground := Ground.phase }, { on := 4, ground := Ground.phase }, { on := 5, ground := Ground.phase }, { on := 6, ground := Ground.phase }, { on := 7, ground := Ground.phase }, { on := 8, ground := Ground.phase }, { on := 9, ground := Ground.phase }, { on := 10, ground := Ground.phase }, { on := 11, ground := Ground.phase }, { on := 12, ground := Ground.phase }, { on := 13, ground := Ground.phase }], guard := none }) (v := .pointer (some ⟨q5, 9, none⟩)) rfl (by kernel_rfl) (by kernel_rfl) (by kernel_rfl) (fun _ _ _ h => h) (Or.inl ⟨by kernel_rfl, fun w hSw => ?_⟩) (by assumption) ?_
        · clear hSw; go_simp
        (try simp only [Act.put, List.setIfInBounds_toArray, List.set_cons_zero, List.set_cons_succ])
        refine wpAnyH_ready (rs := [15]) (by kernel_rfl) (by simp) ?_
        refine AllReadyH.cons (o := { dst := none, op := Op.store 31 (Operand.tmp 40) (Operand.tmp 39), type := 0, pos := "outright.go:174", after := #[{ on := 14, ground := Ground.data }, { on := 13, ground := Ground.data }, { on := 13, ground := Ground.chain }, { on := 0, ground := Ground.phase }, { on := 1, ground := Ground.phase }, { on := 2, ground := Ground.phase }, { on := 3, ground := Ground.phase }, { on := 4, ground := Ground.phase }, { on := 5, ground := Ground.phase }, { on := 6, ground := Ground.phase }, { on := 7, ground := Ground.phase }, { on := 8, ground := Ground.phase }, { on := 9, ground := Ground.phase }, { on := 10, ground := Ground.phase }, { on := 11, ground := Ground.phase }, { on := 12, ground := Ground.phase }, { on := 13, ground := Ground.phase }], guard := none }) rfl (fun K hK => ?_) AllReadyH.nil
        go_simp
        refine hK.out _ _ (KT.out _ d9.out) (fun hHeld => ?_)
        clear hK K
        (try simp only [Act.put, List.setIfInBounds_toArray, List.set_cons_zero, List.set_cons_succ])
        refine wpAnyH_done (by kernel_rfl) ?_ _
        have PG : Hid (Below V2.heap.size V2 (W1.setCell ⟨q5, 9, none⟩ (.slice (some ⟨g, 0, none⟩) (i + 1) cap)) ∧ Pq w V2.heap.size q5 { J with u := (some ⟨g, 0, none⟩, cap, F.u.2.2.reverse.take (i + 1)), x := (none, 0, []) } (W1.setCell ⟨q5, 9, none⟩ (.slice (some ⟨g, 0, none⟩) (i + 1) cap))) := by
          have q := AX.out.1
          skip
          rw [HT.out]
          refine ⟨d9.out, ?_⟩
          have e : i + 1 = (F.u.2.2.reverse.take i).length + 1 := by rw [HL.out]
          rw [e]
          exact q
        clear AX k9 f9 d9 d8 KT dA HT P0 y9 y9a
        generalize W1.setCell ⟨q5, 9, none⟩ (.slice (some ⟨g, 0, none⟩) (i + 1) cap) = W2 at *
        go_wp2_with fail
        exact ⟨⟨i + 1, _, _, by go_num, by omega, PG⟩, by simp [intOf]; omega⟩
      · go_simp
        refine hK.out _ _ (KT.out _ (dA.out _)) (fun hHeld => ?_)
        clear hK K
        (try simp only [Act.put, List.setIfInBounds_toArray, List.set_cons_zero, List.set_cons_succ])
        refine wpAnyH_ready (rs := [1]) (by kernel_rfl) (by simp) ?_
        refine AllReadyH.cons (o := { dst := some 27, op := Op.load 31 (Operand.tmp 26), type := 31, pos := "outright.go:174", after := #[{ on := 0, ground := Ground.data }], guard := none }) rfl (fun K hK => ?_) AllReadyH.nil
        have y9b : (wr.alloc (.cells #[.bool bv, .string R.who, .string R.what, .slice R.ro R.rl.length R.rc, .int .i8 R.cd, .float .f64 R.lv] 27)).cell? ⟨q5, 9, none⟩ = some (.slice uo i uc) := y9a (.cells #[.bool bv, .string R.who, .string R.what, .slice R.ro R.rl.length R.rc, .int .i8 R.cd, .float .f64 R.lv] 27)
        go_simp
        refine hK.out _ _ (KT.out _ (dA.out _)) (fun hHeld => ?_)
        clear hK K
        (try simp only [Act.put, List.setIfInBounds_toArray, List.set_cons_zero, List.set_cons_succ])
        refine wpAnyH_ready (rs := [13]) (by kernel_rfl) (by simp) ?_
        refine AllReadyH.cons (o := { dst := some 39, op := Op.call { callee := Callee.builtin Builtin.append, args := #[Operand.tmp 27, Operand.tmp 38], argTypes := #[31, 31] }, type := 31, pos := "outright.go:174", after := #[{ on := 1, ground := Ground.data }, { on := 12, ground := Ground.data }], guard := none }) rfl (fun K hK => ?_) AllReadyH.nil
        refine G.step_app1 wr.drew (by rfl) _ _ 31 27 6 80 _ (by rfl) Try.underlying31 G.info27 rfl (by decide) (by decide) V2.heap.size uo uc i ((F.u.2.2.reverse.take i).map Ru.cells) (by rw [List.length_map]; exact HL.out) [.bool bv, .string R.who, .string R.what, .slice R.ro R.rl.length R.rc, .int .i8 R.cd, .float .f64 R.lv] rfl (by simp [Value.oneCell']) 27 1 (by rfl) P0.out.u (by rfl) (by omega) d0.size ?_
        intro g cap W1 r8 t8
        have AX := hide' (P0.out.appu (R := R) t8 (by rw [HRc.out]; exact r8) ⟨.inr HRr.out.1, HRr.out.2⟩)
        have d8 : Below V2.heap.size V2 W1 := d0.trans (below_own t8 (fun j q => (P0.out.u.lt j q).1) d0.size)
        have k9 : W1.cell? ⟨q5, 9, none⟩ = some (.slice uo i uc) := by rw [Lib.cell_of_heap AX.out.2]; show some (Value.slice uo (F.u.2.2.reverse.take i).length uc) = _; rw [HL.out]
        have f9 : W1.frozen? ⟨q5, 9, none⟩ = false := Lib.frozen_of_heap AX.out.2 9
        have d9 := hide' (d8.trans (below_own (set_turn q5 9 (.slice (some ⟨g, 0, none⟩) (i + 1) cap) W1) (fun j q => by rw [q]; exact P0.out.l) d8.size))
        clear r8 t8
        refine hK.out _ _ (KT.out _ d8) (fun hHeld => ?_)
        clear hK K
        (try simp only [Act.put, List.setIfInBounds_toArray, List.set_cons_zero, List.set_cons_succ])
        refine wpAnyH_take (i := 14) (oi := { dst := some 40, op := Op.fieldAddr 34 (Operand.tmp 7) 9, type := 0, pos := "outright.go:174", after := #[{ on := 0, ground := Ground.phase }, { on := 1, ground := Ground.phase }, { on := 2, ground := Ground.phase }, { on := 3, ground := Ground.phase }, { on := 4, ground := Ground.phase }, { on := 5, ground := Ground.phase }, { on := 6, ground := Ground.phase }, { on := 7, ground := Ground.phase }, { on := 8, ground := Ground.phase }, { on := 9, ground := Ground.phase }, { on := 10, ground := Ground.phase }, { on := 11, ground := Ground.phase }, { on := 12, ground := Ground.phase }, { on := 13, ground := Ground.phase }], guard := none }) (v := .pointer (some ⟨q5, 9, none⟩)) rfl (by kernel_rfl) (by kernel_rfl) (by kernel_rfl) (fun _ _ _ h => h) (Or.inl ⟨by kernel_rfl, fun w hSw => ?_⟩) (by assumption) ?_
        · clear hSw; go_simp
        (try simp only [Act.put, List.setIfInBounds_toArray, List.set_cons_zero, List.set_cons_succ])
        refine wpAnyH_ready (rs := [15]) (by kernel_rfl) (by simp) ?_
        refine AllReadyH.cons (o := { dst := none, op := Op.store 31 (Operand.tmp 40) (Operand.tmp 39), type := 0, pos := "outright.go:174", after := #[{ on := 14, ground := Ground.data }, { on := 13, ground := Ground.data }, { on := 13, ground := Ground.chain }, { on := 0, ground := Ground.phase }, { on := 1, ground := Ground.phase }, { on := 2, ground := Ground.phase }, { on := 3, ground := Ground.phase }, { on := 4, ground := Ground.phase }, { on := 5, ground := Ground.phase }, { on := 6, ground := Ground.phase }, { on := 7, ground := Ground.phase }, { on := 8, ground := Ground.phase }, { on := 9, ground := Ground.phase }, { on := 10, ground := Ground.phase }, { on := 11, ground := Ground.phase }, { on := 12, ground := Ground.phase }, { on := 13, ground := Ground.phase }], guard := none }) rfl (fun K hK => ?_) AllReadyH.nil
        go_simp
        refine hK.out _ _ (KT.out _ d9.out) (fun hHeld => ?_)
        clear hK K
        (try simp only [Act.put, List.setIfInBounds_toArray, List.set_cons_zero, List.set_cons_succ])
        refine wpAnyH_done (by kernel_rfl) ?_ _
        have PG : Hid (Below V2.heap.size V2 (W1.setCell ⟨q5, 9, none⟩ (.slice (some ⟨g, 0, none⟩) (i + 1) cap)) ∧ Pq w V2.heap.size q5 { J with u := (some ⟨g, 0, none⟩, cap, F.u.2.2.reverse.take (i + 1)), x := (none, 0, []) } (W1.setCell ⟨q5, 9, none⟩ (.slice (some ⟨g, 0, none⟩) (i + 1) cap))) := by
          have q := AX.out.1
          skip
          rw [HT.out]
          refine ⟨d9.out, ?_⟩
          have e : i + 1 = (F.u.2.2.reverse.take i).length + 1 := by rw [HL.out]
          rw [e]
          exact q
        clear AX k9 f9 d9 d8 KT dA HT P0 y9 y9a
        generalize W1.setCell ⟨q5, 9, none⟩ (.slice (some ⟨g, 0, none⟩) (i + 1) cap) = W2 at *
        go_wp2_with fail
        exact ⟨⟨i + 1, _, _, by go_num, by omega, PG⟩, by simp [intOf]; omega⟩
    · have hk : i = F.u.2.2.length := by omega
      have hlt' : ¬ (i : Int) < (F.u.2.2.length : Int) := by omega
      have PD2 := PD
      rw [hk, List.take_of_length_le (by rw [List.length_reverse]; exact Nat.le_refl _)] at PD2
      clear hk PD
      have y9 : wr.cell? ⟨q5, 9, none⟩ = some (.slice uo F.u.2.2.length uc) := by rw [PD2.out.2.c 9]; show some (Value.slice uo F.u.2.2.reverse.length uc) = _; rw [List.length_reverse]
      have HU1 : Hid (F.u.2.2.reverse.length = F.u.2.2.length) := List.length_reverse
      go_wp2_with (at_builtin; refine stay_app _ _ _ rfl ?_)
      unfold Stay
      refine G.wpList_appR (by rfl) (fun K hK => ?_)
      refine G.wp_appR _ _ 31 27 6 80 _ (by rfl) Try.underlying31 G.info27 rfl (by decide) (by decide) V2.heap.size uo uc F.u.2.2.length (F.u.2.2.reverse.map Ru.cells) (by rw [List.length_map]; exact HU1.out) (by rfl) PD2.out.2.u F.u.1 F.u.2.1 F.u.2.2.length (F.u.2.2.map Ru.cells) (List.length_map _) (by rfl) (KB.out _ PD2.out.1).1.u.1.1 (cells6 _) (fun y hy u hu => ?_) (KB.out _ PD2.out.1).1.u.2.2 (by omega) PD2.out.1.size ?_
      · obtain ⟨R, hR, rfl⟩ := List.mem_map.1 hy
        obtain ⟨_, ⟨bv, hbv⟩, _⟩ := H.out.u.1.2 R hR
        unfold Ru.cells at hu
        rw [hbv] at hu
        simp only [List.mem_cons, List.mem_nil_iff, or_false] at hu
        rcases hu with rfl | rfl | rfl | rfl | rfl | rfl <;> rfl
      intro uo2 uc2 W1 r8 t8
      refine hK _ _ ?_
      clear hK K
      have AX := hide' (PD2.out.2.appL (n := F.u.2.2.length + F.u.2.2.length) (by show F.u.2.2.reverse.length + _ = _; rw [HU1.out]) t8 r8 (fun R hR => H.out.u.1.2 R hR))
      have d8 : Below V2.heap.size V2 W1 := PD2.out.1.trans (below_own t8 (fun j q => (PD2.out.2.u.lt j q).1) PD2.out.1.size)
      have k9 : W1.cell? ⟨q5, 9, none⟩ = some (.slice uo F.u.2.2.length uc) := by rw [Lib.cell_of_heap AX.out.2]; show some (Value.slice uo F.u.2.2.reverse.length uc) = _; rw [List.length_reverse]
      have f9 : W1.frozen? ⟨q5, 9, none⟩ = false := Lib.frozen_of_heap AX.out.2 9
      have PX := hide' (And.intro (d8.trans (below_own (set_turn q5 9 (.slice uo2 (F.u.2.2.length + F.u.2.2.length) uc2) W1) (fun j q => by rw [q]; exact PD2.out.2.l) d8.size)) AX.out.1)
      clear r8 t8 y9 y1 hlt hlt' hi HU1
      go_wp2_with fail
      clear AX k9 f9 d8 PD2
      generalize W1.setCell ⟨q5, 9, none⟩ (.slice uo2 (F.u.2.2.length + F.u.2.2.length) uc2) = V8 at *
      clear W1
      have P8 : Hid (Pq w V2.heap.size q5 { J with u := (uo2, uc2, F.u.2.2.reverse ++ F.u.2.2), x := (none, 0, []) } V8) := PX.out.2
      have D8 := hide' PX.out.1
      clear PX
      go_loopw [9] (fun iv wx => ∃ (i : Nat) (xo : Option Addr) (xc : Nat), iv = .int .i64 (i : Int) ∧ i ≤ F.x.2.2.length ∧ Hid (Below V2.heap.size V2 wx ∧ Pq w V2.heap.size q5 { J with u := (uo2, uc2, F.u.2.2.reverse ++ F.u.2.2), x := (xo, xc, F.x.2.2.reverse.take i) } wx)) (fun iv _ => F.x.2.2.length - (intOf iv).toNat)
      case atStart => exact ⟨0, none, 0, rfl, Nat.zero_le _, D8.out, P8.out⟩
      case round =>
        obtain ⟨i, xo, xc, rfl, hi, PD⟩ := hrel
        clear P8 D8
        have y1 : wr.cell? ⟨q1, 10, none⟩ = some (.slice F.x.1 F.x.2.2.length F.x.2.1) := by rw [Lib.cell_of_heap (KB.out _ PD.out.1).2.1]; rfl
        by_cases hlt : i < F.x.2.2.length
        · have hlt' : (i : Int) < (F.x.2.2.length : Int) := by omega
          obtain ⟨j, hj⟩ : ∃ j : Nat, F.x.2.2.length - 1 - i = j := ⟨_, rfl⟩
          have hjl : j < F.x.2.2.length := by omega
          obtain ⟨R, hR⟩ : ∃ R, F.x.2.2[j]? = some R := ⟨_, List.getElem?_eq_getElem hjl⟩
          have HT := hide' (rev_take (l := F.x.2.2) (i := i) (R := R) (by rw [hj]; exact hR) hlt)
          obtain ⟨ub, uoff, huo, hub, hc⟩ := (KB.out _ PD.out.1).1.x.1.lies.at (show (F.x.2.2.map X.cells)[j]? = some (X.cells R) by rw [List.getElem?_map, hR]; rfl)
          have KT : Hid (∀ W, Below V2.heap.size V2 W → W.cell? ⟨q1, 10, none⟩ = some (.slice (some ⟨ub, uoff, none⟩) F.x.2.2.length F.x.2.1) ∧ W.rangeAt ub (uoff + j * 3) [.string R.1, .string R.2.1, .string R.2.2]) := fun W b => by
            obtain ⟨ub', uoff', huo', _, hc'⟩ := (KB.out W b).1.x.1.lies.at (show (F.x.2.2.map X.cells)[j]? = some (X.cells R) by rw [List.getElem?_map, hR]; rfl)
            rw [huo] at huo'
            cases huo'
            refine ⟨?_, fun r v hv => hc' r v hv⟩
            rw [Lib.cell_of_heap (KB.out W b).2.1, ← huo]
            rfl
          have ej : (F.x.2.2.length : Int) - 1 - (i : Int) = (j : Int) := by omega
          have hjl' : (j : Int) < (F.x.2.2.length : Int) := by omega
          have HL : Hid ((F.x.2.2.reverse.take i).length = i) := by show _ = _; rw [List.length_take, List.length_reverse]; omega
          have d0 : Below V2.heap.size V2 wr.drew := PD.out.1.trans ⟨rfl, rfl, rfl, Nat.le_refl _, fun _ _ => rfl⟩
          have P0 := hide' (PD.out.2.below (⟨rfl, rfl, rfl, Nat.le_refl _, fun _ _ => rfl⟩ : Below wr.heap.size wr wr.drew))
          have y9 : wr.drew.cell? ⟨q5, 10, none⟩ = some (.slice xo i xc) := by rw [P0.out.c 10]; show some (Value.slice xo (F.x.2.2.reverse.take i).length xc) = _; rw [HL.out]
          have b9 : ∀ o, Below wr.drew.heap.size wr.drew (wr.drew.alloc o) := fun o => (Below.refl _ _).alloc (Nat.le_refl _) _
          have y9a : ∀ o, (wr.drew.alloc o).cell? ⟨q5, 10, none⟩ = some (.slice xo i xc) := fun o => ((b9 o).cell (p := ⟨q5, 10, none⟩) (lt_of_heap P0.out.h)).trans y9
          have dA := hide' (fun o => d0.trans ((b9 o).mono d0.size))
          rw [huo] at y1
          have h1i : (1 : Int) ≤ (F.x.2.2.length : Int) := by omega
          clear hR hj hjl huo hub hc PD b9
          go_wp2_with fail
          clear y1
          refine wp_region_held_drew (S := (fun W' => W'.cell? ⟨q1, 10, none⟩ = some (.slice (some ⟨ub, uoff, none⟩) F.x.2.2.length F.x.2.1) ∧ W'.rangeAt ub (uoff + j * 3) [.string R.1, .string R.2.1, .string R.2.2])) (by kernel_rfl) (KT.out _ d0) (fun hHeld => ?_)
          refine wpAnyH_take (i := 0) (oi := { dst := some 54, op := Op.fieldAddr 34 (Operand.tmp 7) 10, type := 0, pos := "outright.go:178", after := #[], guard := none }) (v := .pointer (some ⟨q5, 10, none⟩)) rfl (by kernel_rfl) (by kernel_rfl) (by kernel_rfl) (fun _ _ _ h => h) (Or.inl ⟨by kernel_rfl, fun w hSw => ?_⟩) (by assumption) ?_
          · clear hSw; go_simp
          (try simp only [Act.put, List.setIfInBounds_toArray, List.set_cons_zero, List.set_cons_succ])
          refine wpAnyH_take (i := 2) (oi := { dst := some 56, op := Op.fieldAddr 34 (Operand.tmp 2) 10, type := 0, pos := "outright.go:178", after := #[], guard := none }) (v := .pointer (some ⟨q1, 10, none⟩)) rfl (by kernel_rfl) (by kernel_rfl) (by kernel_rfl) (fun _ _ _ h => h) (Or.inl ⟨by kernel_rfl, fun w hSw => ?_⟩) (by assumption) ?_
          · clear hSw; go_simp
          (try simp only [Act.put, List.setIfInBounds_toArray, List.set_cons_zero, List.set_cons_succ])
          refine wpAnyH_take (i := 3) (oi := { dst := some 57, op := Op.load 32 (Operand.tmp 56), type := 32, pos := "outright.go:178", after := #[{ on := 2, ground := Ground.data }], guard := none }) (v := .slice (some ⟨ub, uoff, none⟩) F.x.2.2.length F.x.2.1) rfl (by kernel_rfl) (by kernel_rfl) (by kernel_rfl) (fun _ _ _ h => h) (Or.inl ⟨by kernel_rfl, fun w hSw => ?_⟩) (by assumption) ?_
          · have h0 := hSw.1; clear hSw; go_simp
          (try simp only [Act.put, List.setIfInBounds_toArray, List.set_cons_zero, List.set_cons_succ])
          refine wpAnyH_take (i := 4) (oi := { dst := some 58, op := Op.fieldAddr 34 (Operand.tmp 2) 10, type := 0, pos := "outright.go:178", after := #[], guard := none }) (v := .pointer (some ⟨q1, 10, none⟩)) rfl (by kernel_rfl) (by kernel_rfl) (by kernel_rfl) (fun _ _ _ h => h) (Or.inl ⟨by kernel_rfl, fun w hSw => ?_⟩) (by assumption) ?_
          · clear hSw; go_simp
          (try simp only [Act.put, List.setIfInBounds_toArray, List.set_cons_zero, List.set_cons_succ])
          refine wpAnyH_take (i := 5) (oi := { dst := some 59, op := Op.load 32 (Operand.tmp 58), type := 32, pos := "outright.go:178", after := #[{ on := 4, ground := Ground.data }], guard := none }) (v := .slice (some ⟨ub, uoff, none⟩) F.x.2.2.length F.x.2.1) rfl (by kernel_rfl) (by kernel_rfl) (by kernel_rfl) (fun _ _ _ h => h) (Or.inl ⟨by kernel_rfl, fun w hSw => ?_⟩) (by assumption) ?_
          · have h0 := hSw.1; clear hSw; go_simp
          (try simp only [Act.put, List.setIfInBounds_toArray, List.set_cons_zero, List.set_cons_succ])
          refine wpAnyH_take (i := 6) (oi := { dst := some 60, op := Op.call { callee := Callee.builtin Builtin.len, args := #[Operand.tmp 59], argTypes := #[32] }, type := 3, pos := "outright.go:178", after := #[{ on := 5, ground := Ground.data }], guard := none }) (v := .int .i64 (F.x.2.2.length : Int)) rfl (by kernel_rfl) (by kernel_rfl) (by kernel_rfl) (fun _ _ _ h => h) (Or.inl ⟨by kernel_rfl, fun w hSw => ?_⟩) (by assumption) ?_
          · clear hSw; go_simp
          (try simp only [Act.put, List.setIfInBounds_toArray, List.set_cons_zero, List.set_cons_succ])
          refine wpAnyH_take (i := 7) (oi := { dst := some 61, op := Op.binOp BinOp.sub 3 (Operand.tmp 60) (Operand.const (Value.int IntKind.i64 1)) 3, type := 3, pos := "outright.go:178", after := #[{ on := 6, ground := Ground.data }], guard := none }) (v := .int .i64 ((F.x.2.2.length : Int) - 1)) rfl (by kernel_rfl) (by kernel_rfl) (by kernel_rfl) (fun _ _ _ h => h) (Or.inl ⟨by kernel_rfl, fun w hSw => ?_⟩) (by assumption) ?_
          · clear hSw; go_simp; rw [IntKind.wrap_i64]; omega
          (try simp only [Act.put, List.setIfInBounds_toArray, List.set_cons_zero, List.set_cons_succ])
          refine wpAnyH_take (i := 8) (oi := { dst := some 62, op := Op.move (Operand.tmp 9), type := 3, pos := "outright.go:178", after := #[], guard := none }) (v := .int .i64 (i : Int)) rfl (by kernel_rfl) (by kernel_rfl) (by kernel_rfl) (fun _ _ _ h => h) (Or.inl ⟨by kernel_rfl, fun w hSw => ?_⟩) (by assumption) ?_
          · clear hSw; go_simp
          (try simp only [Act.put, List.setIfInBounds_toArray, List.set_cons_zero, List.set_cons_succ])
          refine wpAnyH_take (i := 9) (oi := { dst := some 63, op := Op.binOp BinOp.sub 3 (Operand.tmp 61) (Operand.tmp 62) 3, type := 3, pos := "outright.go:178", after := #[{ on := 7, ground := Ground.data }, { on := 8, ground := Ground.data }], guard := none }) (v := .int .i64 (j : Int)) rfl (by kernel_rfl) (by kernel_rfl) (by kernel_rfl) (fun _ _ _ h => h) (Or.inl ⟨by kernel_rfl, fun w hSw => ?_⟩) (by assumption) ?_
          · clear hSw; go_simp; rw [IntKind.wrap_i64]; omega
          (try simp only [Act.put, List.setIfInBounds_toArray, List.set_cons_zero, List.set_cons_succ])
          refine wpAnyH_take (i := 10) (oi := { dst := some 64, op := Op.indexAddr 32 (Operand.tmp 57) (Operand.tmp 63), type := 0, pos := "outright.go:178", after := #[{ on := 3, ground := Ground.data }, { on := 9, ground := Ground.data }], guard := none }) (v := .pointer (some ⟨ub, uoff + j * 3, none⟩)) rfl (by kernel_rfl) (by kernel_rfl) (by kernel_rfl) (fun _ _ _ h => h) (Or.inl ⟨by kernel_rfl, fun w hSw => ?_⟩) (by assumption) ?_
          · clear hSw; go_simp
          (try simp only [Act.put, List.setIfInBounds_toArray, List.set_cons_zero, List.set_cons_succ])
          refine wpAnyH_take (i := 11) (oi := { dst := some 65, op := Op.load 36 (Operand.tmp 64), type := 36, pos := "outright.go:178", after := #[{ on := 10, ground := Ground.data }], guard := none }) (v := .agg #[.string R.1, .string R.2.1, .string R.2.2]) rfl (by kernel_rfl) (by kernel_rfl) (by kernel_rfl) (fun _ _ _ h => h) (Or.inl ⟨by kernel_rfl, fun w hSw => ?_⟩) (by assumption) ?_
          · exact ex_rng 36 _ rfl ub (uoff + j * 3) rfl [.string R.1, .string R.2.1, .string R.2.2] _ hSw.2 Try.underlying36 rfl (by kernel_rfl)
          (try simp only [Act.put, List.setIfInBounds_toArray, List.set_cons_zero, List.set_cons_succ])
          refine wpAnyH_ready (rs := [1, 12]) (by kernel_rfl) (by simp) ?_
          refine AllReadyH.cons (o := { dst := some 55, op := Op.load 32 (Operand.tmp 54), type := 32, pos := "outright.go:178", after := #[{ on := 0, ground := Ground.data }], guard := none }) rfl (fun K hK => ?_) (AllReadyH.cons (o := { dst := some 66, op := Op.buildSlice 32 1 #[(0, Operand.tmp 65)], type := 32, pos := "outright.go:178", after := #[{ on := 11, ground := Ground.data }], guard := none }) rfl (fun K hK => ?_) AllReadyH.nil)
          · go_simp
            refine hK.out _ _ (KT.out _ d0) (fun hHeld => ?_)
            clear hK K
            (try simp only [Act.put, List.setIfInBounds_toArray, List.set_cons_zero, List.set_cons_succ])
            refine wpAnyH_ready (rs := [12]) (by kernel_rfl) (by simp) ?_
            refine AllReadyH.cons (o := { dst := some 66, op := Op.buildSlice 32 1 #[(0, Operand.tmp 65)], type := 32, pos := "outright.go:178", after := #[{ on := 11, ground := Ground.data }], guard := none }) rfl (fun K hK => ?_) AllReadyH.nil
            go_simp
            refine hK.out _ _ (KT.out _ (dA.out _)) (fun hHeld => ?_)
            clear hK K
            (try simp only [Act.put, List.setIfInBounds_toArray, List.set_cons_zero, List.set_cons_succ])
            refine wpAnyH_ready (rs := [13]) (by kernel_rfl) (by simp) ?_
            refine AllReadyH.cons (o := { dst := some 67, op := Op.call { callee := Callee.builtin Builtin.append, args := #[Operand.tmp 55, Operand.tmp 66], argTypes := #[32, 32] }, type := 32, pos := "outright.go:178", after := #[{ on := 1, ground := Ground.data }, { on := 12, ground := Ground.data }], guard := none }) rfl (fun K hK => ?_) AllReadyH.nil
            refine G.step_app1 wr.drew (by rfl) _ _ 32 36 3 48 _ (by rfl) Try.underlying32 G.info36 rfl (by decide) (by decide) V2.heap.size xo xc i ((F.x.2.2.reverse.take i).map X.cells) (by rw [List.length_map]; exact HL.out) [.string R.1, .string R.2.1, .string R.2.2] rfl (by simp [Value.oneCell']) 36 1 (by rfl) (X.RowI.g.1 P0.out.rs.x) (by rfl) (by omega) d0.size ?_
            intro g cap W1 r8 t8
            have AX := hide' (P0.out.appX (n := i + 1) (l := (F.x.2.2.reverse.take i) ++ [R]) t8 (X.RowI.g.2 (by rw [List.map_append]; exact r8)) (by rw [List.length_append, HL.out]; rfl))
            have d8 : Below V2.heap.size V2 W1 := d0.trans (below_own t8 (fun j q => (P0.out.rs.x.lt j q).1) d0.size)
            have k9 : W1.cell? ⟨q5, 10, none⟩ = some (.slice xo i xc) := by rw [Lib.cell_of_heap AX.out.2]; show some (Value.slice xo (F.x.2.2.reverse.take i).length xc) = _; rw [HL.out]
            have f9 : W1.frozen? ⟨q5, 10, none⟩ = false := Lib.frozen_of_heap AX.out.2 10
            have d9 := hide' (d8.trans (below_own (set_turn q5 10 (.slice (some ⟨g, 0, none⟩) (i + 1) cap) W1) (fun j q => by rw [q]; exact P0.out.l) d8.size))
            clear r8 t8
            refine hK.out _ _ (KT.out _ d8) (fun hHeld => ?_)
            clear hK K
            (try simp only [Act.put, List.setIfInBounds_toArray, List.set_cons_zero, List.set_cons_succ])
            refine wpAnyH_take (i := 14) (oi := { dst := some 68, op := Op.fieldAddr 34 (Operand.tmp 7) 10, type := 0, pos := "outright.go:178", after := #[{ on := 0, ground := Ground.phase }, { on := 1, ground := Ground.phase }, { on := 2, ground := Ground.phase }, { on := 3, ground := Ground.phase }, { on := 4, ground := Ground.phase }, { on := 5, ground := Ground.phase }, { on := 6, ground := Ground.phase }, { on := 7, ground := Ground.phase }, { on := 8, ground := Ground.phase }, { on := 9, ground := Ground.phase }, { on := 10, ground := Ground.phase }, { on := 11, ground := Ground.phase }, { on := 12, ground := Ground.phase }, { on := 13, ground := Ground.phase }], guard := none }) (v := .pointer (some ⟨q5, 10, none⟩)) rfl (by kernel_rfl) (by kernel_rfl) (by kernel_rfl) (fun _ _ _ h => h) (Or.inl ⟨by kernel_rfl, fun w hSw => ?_⟩) (by assumption) ?_
            · clear hSw; go_simp
            (try simp only [Act.put, List.setIfInBounds_toArray, List.set_cons_zero, List.set_cons_succ])
            refine wpAnyH_ready (rs := [15]) (by kernel_rfl) (by simp) ?_
            refine AllReadyH.cons (o := { dst := none, op := Op.store 32 (Operand.tmp 68) (Operand.tmp 67), type := 0, pos := "outright.go:178", after := #[{ on := 14, ground := Ground.data }, { on := 13, ground := Ground.data }, { on := 13, ground := Ground.chain }, { on := 0, ground := Ground.phase }, { on := 1, ground := Ground.phase }, { on := 2, ground := Ground.phase }, { on := 3, ground := Ground.phase }, { on := 4, ground := Ground.phase }, { on := 5, ground := Ground.phase }, { on := 6, ground := Ground.phase }, { on := 7, ground := Ground.phase }, { on := 8, ground := Ground.phase }, { on := 9, ground := Ground.phase }, { on := 10, ground := Ground.phase }, { on := 11, ground := Ground.phase }, { on := 12, ground := Ground.phase }, { on := 13, ground := Ground.phase }], guard := none }) rfl (fun K hK => ?_) AllReadyH.nil
            go_simp
            refine hK.out _ _ (KT.out _ d9.out) (fun hHeld => ?_)
            clear hK K
            (try simp only [Act.put, List.setIfInBounds_toArray, List.set_cons_zero, List.set_cons_succ])
            refine wpAnyH_done (by kernel_rfl) ?_ _
            have PG : Hid (Below V2.heap.size V2 (W1.setCell ⟨q5, 10, none⟩ (.slice (some ⟨g, 0, none⟩) (i + 1) cap)) ∧ Pq w V2.heap.size q5 { J with u := (uo2, uc2, F.u.2.2.reverse ++ F.u.2.2), x := (some ⟨g, 0, none⟩, cap, F.x.2.2.reverse.take (i + 1)) } (W1.setCell ⟨q5, 10, none⟩ (.slice (some ⟨g, 0, none⟩) (i + 1) cap))) := by
              have q := AX.out.1
              skip
              rw [HT.out]
              refine ⟨d9.out, ?_⟩
              skip
              skip
              exact q
            clear AX k9 f9 d9 d8 KT dA HT P0 y9 y9a
            generalize W1.setCell ⟨q5, 10, none⟩ (.slice (some ⟨g, 0, none⟩) (i + 1) cap) = W2 at *
            go_wp2_with fail
            exact ⟨⟨i + 1, _, _, by go_num, by omega, PG⟩, by simp [intOf]; omega⟩
          · go_simp
            refine hK.out _ _ (KT.out _ (dA.out _)) (fun hHeld => ?_)
            clear hK K
            (try simp only [Act.put, List.setIfInBounds_toArray, List.set_cons_zero, List.set_cons_succ])
            refine wpAnyH_ready (rs := [1]) (by kernel_rfl) (by simp) ?_
            refine AllReadyH.cons (o := { dst := some 55, op := Op.load 32 (Operand.tmp 54), type := 32, pos := "outright.go:178", after := #[{ on := 0, ground := Ground.data }], guard := none }) rfl (fun K hK => ?_) AllReadyH.nil
            have y9b : (wr.alloc (.cells #[.string R.1, .string R.2.1, .string R.2.2] 36)).cell? ⟨q5, 10, none⟩ = some (.slice xo i xc) := y9a (.cells #[.string R.1, .string R.2.1, .string R.2.2] 36)
            go_simp
            refine hK.out _ _ (KT.out _ (dA.out _)) (fun hHeld => ?_)
            clear hK K
            (try simp only [Act.put, List.setIfInBounds_toArray, List.set_cons_zero, List.set_cons_succ])
            refine wpAnyH_ready (rs := [13]) (by kernel_rfl) (by simp) ?_
            refine AllReadyH.cons (o := { dst := some 67, op := Op.call { callee := Callee.builtin Builtin.append, args := #[Operand.tmp 55, Operand.tmp 66], argTypes := #[32, 32] }, type := 32, pos := "outright.go:178", after := #[{ on := 1, ground := Ground.data }, { on := 12, ground := Ground.data }], guard := none }) rfl (fun K hK => ?_) AllReadyH.nil
            refine G.step_app1 wr.drew (by rfl) _ _ 32 36 3 48 _ (by rfl) Try.underlying32 G.info36 rfl (by decide) (by decide) V2.heap.size xo xc i ((F.x.2.2.reverse.take i).map X.cells) (by rw [List.length_map]; exact HL.out) [.string R.1, .string R.2.1, .string R.2.2] rfl (by simp [Value.oneCell']) 36 1 (by rfl) (X.RowI.g.1 P0.out.rs.x) (by rfl) (by omega) d0.size ?_
            intro g cap W1 r8 t8
            have AX := hide' (P0.out.appX (n := i + 1) (l := (F.x.2.2.reverse.take i) ++ [R]) t8 (X.RowI.g.2 (by rw [List.map_append]; exact r8)) (by rw [List.length_append, HL.out]; rfl))
            have d8 : Below V2.heap.size V2 W1 := d0.trans (below_own t8 (fun j q => (P0.out.rs.x.lt j q).1) d0.size)
            have k9 : W1.cell? ⟨q5, 10, none⟩ = some (.slice xo i xc) := by rw [Lib.cell_of_heap AX.out.2]; show some (Value.slice xo (F.x.2.2.reverse.take i).length xc) = _; rw [HL.out]
            have f9 : W1.frozen? ⟨q5, 10, none⟩ = false := Lib.frozen_of_heap AX.out.2 10
            have d9 := hide' (d8.trans (below_own (set_turn q5 10 (.slice (some ⟨g, 0, none⟩) (i + 1) cap) W1) (fun j q => by rw [q]; exact P0.out.l) d8.size))
            clear r8 t8
            refine hK.out _ _ (KT.out _ d8) (fun hHeld => ?_)
            clear hK K
            (try simp only [Act.put, List.setIfInBounds_toArray, List.set_cons_zero, List.set_cons_succ])
            refine wpAnyH_take (i := 14) (oi := { dst := some 68, op := Op.fieldAddr 34 (Operand.tmp 7) 10, type := 0, pos := "outright.go:178", after := #[{ on := 0, ground := Ground.phase }, { on := 1, ground := Ground.phase }, { on := 2, ground := Ground.phase }, { on := 3, ground := Ground.phase }, { on := 4, ground := Ground.phase }, { on := 5, ground := Ground.phase }, { on := 6, ground := Ground.phase }, { on := 7, ground := Ground.phase }, { on := 8, ground := Ground.phase }, { on := 9, ground := Ground.phase }, { on := 10, ground := Ground.phase }, { on := 11, ground := Ground.phase }, { on := 12, ground := Ground.phase }, { on := 13, ground := Ground.phase }], guard := none }) (v := .pointer (some ⟨q5, 10, none⟩)) rfl (by kernel_rfl) (by kernel_rfl) (by kernel_rfl) (fun _ _ _ h => h) (Or.inl ⟨by kernel_rfl, fun w hSw => ?_⟩) (by assumption) ?_
            · clear hSw; go_simp
            (try simp only [Act.put, List.setIfInBounds_toArray, List.set_cons_zero, List.set_cons_succ])
            refine wpAnyH_ready (rs := [15]) (by kernel_rfl) (by simp) ?_
            refine AllReadyH.cons (o := { dst := none, op := Op.store 32 (Operand.tmp 68) (Operand.tmp 67), type := 0, pos := "outright.go:178", after := #[{ on := 14, ground := Ground.data }, { on := 13, ground := Ground.data }, { on := 13, ground := Ground.chain }, { on := 0, ground := Ground.phase }, { on := 1, ground := Ground.phase }, { on := 2, ground := Ground.phase }, { on := 3, ground := Ground.phase }, { on := 4, ground := Ground.phase }, { on := 5, ground := Ground.phase }, { on := 6, ground := Ground.phase }, { on := 7, ground := Ground.phase }, { on := 8, ground := Ground.phase }, { on := 9, ground := Ground.phase }, { on := 10, ground := Ground.phase }, { on := 11, ground := Ground.phase }, { on := 12, ground := Ground.phase }, { on := 13, ground := Ground.phase }], guard := none }) rfl (fun K hK => ?_) AllReadyH.nil
            go_simp
            refine hK.out _ _ (KT.out _ d9.out) (fun hHeld => ?_)
            clear hK K
            (try simp only [Act.put, List.setIfInBounds_toArray, List.set_cons_zero, List.set_cons_succ])
            refine wpAnyH_done (by kernel_rfl) ?_ _
            have PG : Hid (Below V2.heap.size V2 (W1.setCell ⟨q5, 10, none⟩ (.slice (some ⟨g, 0, none⟩) (i + 1) cap)) ∧ Pq w V2.heap.size q5 { J with u := (uo2, uc2, F.u.2.2.reverse ++ F.u.2.2), x := (some ⟨g, 0, none⟩, cap, F.x.2.2.reverse.take (i + 1)) } (W1.setCell ⟨q5, 10, none⟩ (.slice (some ⟨g, 0, none⟩) (i + 1) cap))) := by
              have q := AX.out.1
              skip
              rw [HT.out]
              refine ⟨d9.out, ?_⟩
              skip
              skip
              exact q
            clear AX k9 f9 d9 d8 KT dA HT P0 y9 y9a
            generalize W1.setCell ⟨q5, 10, none⟩ (.slice (some ⟨g, 0, none⟩) (i + 1) cap) = W2 at *
            go_wp2_with fail
            exact ⟨⟨i + 1, _, _, by go_num, by omega, PG⟩, by simp [intOf]; omega⟩
        · have hk : i = F.x.2.2.length := by omega
          have hlt' : ¬ (i : Int) < (F.x.2.2.length : Int) := by omega
          have PD2 := PD
          rw [hk, List.take_of_length_le (by rw [List.length_reverse]; exact Nat.le_refl _)] at PD2
          clear hk PD
          have y9 : wr.cell? ⟨q5, 10, none⟩ = some (.slice xo F.x.2.2.length xc) := by rw [PD2.out.2.c 10]; show some (Value.slice xo F.x.2.2.reverse.length xc) = _; rw [List.length_reverse]
          have HU1 : Hid (F.x.2.2.reverse.length = F.x.2.2.length) := List.length_reverse
          go_wp2_with (at_builtin; refine stay_app _ _ _ rfl ?_)
          unfold Stay
          refine G.wpList_appR (by rfl) (fun K hK => ?_)
          refine G.wp_appR _ _ 32 36 3 48 _ (by rfl) Try.underlying32 G.info36 rfl (by decide) (by decide) V2.heap.size xo xc F.x.2.2.length (F.x.2.2.reverse.map X.cells) (by rw [List.length_map]; exact HU1.out) (by rfl) (X.RowI.g.1 PD2.out.2.rs.x) F.x.1 F.x.2.1 F.x.2.2.length (F.x.2.2.map X.cells) (List.length_map _) (by rfl) (KB.out _ PD2.out.1).1.x.1.lies (fun y hy => ?_) (fun y hy u hu => ?_) (KB.out _ PD2.out.1).1.x.2.2 (by omega) PD2.out.1.size ?_
          · obtain ⟨R, hR, rfl⟩ := List.mem_map.1 hy
            rfl
          · obtain ⟨R, hR, rfl⟩ := List.mem_map.1 hy
            unfold X.cells at hu
            simp only [List.mem_cons, List.mem_nil_iff, or_false] at hu
            rcases hu with rfl | rfl | rfl <;> rfl
          intro xo2 xc2 W1 r8 t8
          refine hK _ _ ?_
          clear hK K
          have AX := hide' (PD2.out.2.appX (n := F.x.2.2.length + F.x.2.2.length) (l := F.x.2.2.reverse ++ F.x.2.2) t8 (X.RowI.g.2 (by rw [List.map_append]; exact r8)) (by rw [List.length_append, HU1.out]))
          have d8 : Below V2.heap.size V2 W1 := PD2.out.1.trans (below_own t8 (fun j q => (PD2.out.2.rs.x.lt j q).1) PD2.out.1.size)
          have k9 : W1.cell? ⟨q5, 10, none⟩ = some (.slice xo F.x.2.2.length xc) := by rw [Lib.cell_of_heap AX.out.2]; show some (Value.slice xo F.x.2.2.reverse.length xc) = _; rw [List.length_reverse]
          have f9 : W1.frozen? ⟨q5, 10, none⟩ = false := Lib.frozen_of_heap AX.out.2 10
          have PX := hide' (And.intro (d8.trans (below_own (set_turn q5 10 (.slice xo2 (F.x.2.2.length + F.x.2.2.length) xc2) W1) (fun j q => by rw [q]; exact PD2.out.2.l) d8.size)) AX.out.1)
          clear r8 t8 y9 y1 hlt hlt' hi HU1
          go_wp2_with fail
          clear AX k9 f9 d8 PD2
          generalize W1.setCell ⟨q5, 10, none⟩ (.slice xo2 (F.x.2.2.length + F.x.2.2.length) xc2) = V9 at *
          clear W1
          obtain ⟨J0, hJ0⟩ : ∃ J0 : Pf, J0 = { J with u := (uo2, uc2, F.u.2.2.reverse ++ F.u.2.2), x := (xo2, xc2, F.x.2.2.reverse ++ F.x.2.2) } := ⟨_, rfl⟩
          have E0 : Hid (Ord F J0) := by
            rw [hJ0]
            have rv : ∀ {α : Type} (l : List α) (q : α), q ∈ l.reverse ++ l ↔ q ∈ l := fun l q => mem_both (fun q h => List.mem_reverse.1 h) q
            have ln : ∀ {α : Type} (l : List α), (l.reverse ++ l).length ≤ 2 * l.length := fun l => by rw [List.length_append, List.length_reverse]; omega
            exact ⟨TW.out.a, TW.out.s, TW.out.r, TW.out.o, TW.out.g, ⟨by show J.m.2.2.length ≤ _; rw [TW.out.m]; omega, fun q => by show q ∈ J.m.2.2 ↔ _; rw [TW.out.m]⟩, ⟨by show J.i.2.2.length ≤ _; rw [TW.out.i]; omega, fun q => by show q ∈ J.i.2.2 ↔ _; rw [TW.out.i]⟩, ⟨by show J.p.2.2.length ≤ _; rw [TW.out.p]; omega, fun q => by show q ∈ J.p.2.2 ↔ _; rw [TW.out.p]⟩, ⟨by show J.w.2.2.length ≤ _; rw [TW.out.w]; omega, fun q => by show q ∈ J.w.2.2 ↔ _; rw [TW.out.w]⟩, ⟨ln _, rv _⟩, ⟨ln _, rv _⟩⟩
          have P9 : Hid (Pq w V2.heap.size q5 J0 V9) := by rw [hJ0]; exact PX.out.2
          have D9 := hide' PX.out.1
          clear PX hJ0 TW
          have Hz := hide' Hn.out.2.2.2.2
          have KT : Hid (∀ W, Below V2.heap.size V2 W → W.cell? ⟨q1, 5, none⟩ = some (.slice F.m.1 F.m.2.2.length F.m.2.1)) := fun W b => by rw [Lib.cell_of_heap (KB.out W b).2.1]; rfl
          have hfl : (F.m.2.2.length : Int) ≤ 1048576 := by have := Hf.out.mi; have := Hf.out.n; omega
          have C38 : Hid (∀ W, Below V2.heap.size V2 W → Calls Try.prog 38 #[.slice F.m.1 F.m.2.2.length F.m.2.1, .int .i64 z] W fun e w' => ∃ o c, ∃ zs : List K2, e = .returned (.slice o F.m.2.2.length c) ∧ zs.length = F.m.2.2.length ∧ (∀ q ∈ zs, q ∈ F.m.2.2) ∧ Q.RowI W.heap.size o c zs w' ∧ Below W.heap.size W w') := fun W b => Q.turned_any F.m.1 F.m.2.1 F.m.2.2 z W (KB.out W b).1.m.1 (KB.out W b).1.m.2.1 hfl Hz.out
          have d0 : Below V2.heap.size V2 V9.drew := D9.out.trans ⟨rfl, rfl, rfl, Nat.le_refl _, fun _ _ => rfl⟩
          have P0 := hide' (P9.out.below (⟨rfl, rfl, rfl, Nat.le_refl _, fun _ _ => rfl⟩ : Below V9.heap.size V9 V9.drew))
          refine wp_region_held_drew (S := fun W' => W'.cell? ⟨q1, 5, none⟩ = some (.slice F.m.1 F.m.2.2.length F.m.2.1)) (by kernel_rfl) (KT.out _ d0) (fun hHeld => ?_)
          refine wpAnyH_take (i := 0) (oi := { dst := some 75, op := Op.fieldAddr 34 (Operand.tmp 2) 5, type := 0, pos := "outright.go:181", after := #[], guard := none }) (v := .pointer (some ⟨q1, 5, none⟩)) rfl (by kernel_rfl) (by kernel_rfl) (by kernel_rfl) (fun _ _ _ h => h) (Or.inl ⟨by kernel_rfl, fun w hSw => ?_⟩) (by assumption) ?_
          · clear hSw; go_simp
          (try simp only [Act.put, List.setIfInBounds_toArray, List.set_cons_zero, List.set_cons_succ])
          refine wpAnyH_take (i := 1) (oi := { dst := some 76, op := Op.load 30 (Operand.tmp 75), type := 30, pos := "outright.go:181", after := #[{ on := 0, ground := Ground.data }], guard := none }) (v := .slice F.m.1 F.m.2.2.length F.m.2.1) rfl (by kernel_rfl) (by kernel_rfl) (by kernel_rfl) (fun _ _ _ h => h) (Or.inl ⟨by kernel_rfl, fun w hSw => ?_⟩) (by assumption) ?_
          · go_simp
          (try simp only [Act.put, List.setIfInBounds_toArray, List.set_cons_zero, List.set_cons_succ])
          refine wpAnyH_take (i := 2) (oi := { dst := some 77, op := Op.move (Operand.tmp 1), type := 3, pos := "outright.go:181", after := #[], guard := none }) (v := .int .i64 z) rfl (by kernel_rfl) (by kernel_rfl) (by kernel_rfl) (fun _ _ _ h => h) (Or.inl ⟨by kernel_rfl, fun w hSw => ?_⟩) (by assumption) ?_
          · clear hSw; go_simp
          (try simp only [Act.put, List.setIfInBounds_toArray, List.set_cons_zero, List.set_cons_succ])
          refine wpAnyH_take (i := 4) (oi := { dst := some 79, op := Op.fieldAddr 34 (Operand.tmp 2) 5, type := 0, pos := "outright.go:181", after := #[], guard := none }) (v := .pointer (some ⟨q1, 5, none⟩)) rfl (by kernel_rfl) (by kernel_rfl) (by kernel_rfl) (fun _ _ _ h => h) (Or.inl ⟨by kernel_rfl, fun w hSw => ?_⟩) (by assumption) ?_
          · clear hSw; go_simp
          (try simp only [Act.put, List.setIfInBounds_toArray, List.set_cons_zero, List.set_cons_succ])
          refine wpAnyH_take (i := 5) (oi := { dst := some 80, op := Op.load 30 (Operand.tmp 79), type := 30, pos := "outright.go:181", after := #[{ on := 4, ground := Ground.data }], guard := none }) (v := .slice F.m.1 F.m.2.2.length F.m.2.1) rfl (by kernel_rfl) (by kernel_rfl) (by kernel_rfl) (fun _ _ _ h => h) (Or.inl ⟨by kernel_rfl, fun w hSw => ?_⟩) (by assumption) ?_
          · go_simp
          (try simp only [Act.put, List.setIfInBounds_toArray, List.set_cons_zero, List.set_cons_succ])
          refine wpAnyH_ready (rs := [3]) (by kernel_rfl) (by simp) ?_
          refine AllReadyH.cons (o := { dst := some 78, op := Op.call { callee := Callee.value (Operand.func 38), args := #[Operand.tmp 76, Operand.tmp 77], argTypes := #[30, 3] }, type := 30, pos := "outright.go:181", after := #[{ on := 1, ground := Ground.data }, { on := 2, ground := Ground.data }], guard := none }) rfl (fun K hK => ?_) AllReadyH.nil
          go_simp
          refine (C38.out _ d0).mono ?_
          rintro e x1 ⟨o1, c1, zs, rfl, hzl, hzm, r1, b1⟩
          have d1 : Below V2.heap.size V2 x1 := d0.trans (b1.mono d0.size)
          (try dsimp only)
          refine hK.out _ _ (KT.out _ d1) (fun hHeld => ?_)
          clear hK K
          (try simp only [Act.put, List.setIfInBounds_toArray, List.set_cons_zero, List.set_cons_succ])
          refine wpAnyH_ready (rs := [6]) (by kernel_rfl) (by simp) ?_
          refine AllReadyH.cons (o := { dst := some 81, op := Op.call { callee := Callee.builtin Builtin.append, args := #[Operand.tmp 78, Operand.tmp 80], argTypes := #[30, 30] }, type := 30, pos := "outright.go:181", after := #[{ on := 3, ground := Ground.data }, { on := 5, ground := Ground.data }, { on := 3, ground := Ground.chain }], guard := none }) rfl (fun K hK => ?_) AllReadyH.nil
          refine G.step_appR (by rfl) ?_
          refine G.wp_appR _ _ 30 98 2 32 _ (by rfl) Try.underlying30 G.info98 rfl (by decide) (by decide) V9.drew.heap.size o1 c1 F.m.2.2.length (zs.map Q.cells) (by rw [List.length_map]; exact hzl) (by rfl) (Q.RowI.g.1 r1) F.m.1 F.m.2.1 F.m.2.2.length (F.m.2.2.map Q.cells) (List.length_map _) (by rfl) (KB.out _ d1).1.m.1.lies (fun y hy => by obtain ⟨R, hR, rfl⟩ := List.mem_map.1 hy; rfl) (fun y hy u hu => by obtain ⟨R, hR, rfl⟩ := List.mem_map.1 hy; unfold Q.cells at hu; simp only [List.mem_cons, List.mem_nil_iff, or_false] at hu; rcases hu with rfl | rfl <;> rfl) (KB.out _ d1).1.m.2.2 (by omega) b1.size ?_
          intro o2 c2 x2 r2 t2
          have b2 : Below V9.drew.heap.size V9.drew x2 := b1.trans (below_own t2 (fun j q => (r1.lt j q).1) b1.size)
          have d2 : Below V2.heap.size V2 x2 := d0.trans (b2.mono d0.size)
          have R2 : Hid (Q.RowI V2.heap.size o2 c2 (zs ++ F.m.2.2) x2) := (Q.RowI.g.2 (by rw [List.map_append]; exact r2)).mono d0.size
          have P2 := hide' (P0.out.below b2)
          have k9 : x2.cell? ⟨q5, 5, none⟩ = some (.slice J0.m.1 J0.m.2.2.length J0.m.2.1) := P2.out.c 5
          have f9 : x2.frozen? ⟨q5, 5, none⟩ = false := P2.out.f 5
          have P3 := hide' (P2.out.putM (n := F.m.2.2.length + F.m.2.2.length) R2.out (by rw [List.length_append, hzl]))
          have d3 := hide' (d2.trans (below_own (set_turn q5 5 (.slice o2 (F.m.2.2.length + F.m.2.2.length) c2) x2) (fun j q => by rw [q]; exact P2.out.l) d2.size))
          clear r1 b1 r2 t2 b2
          refine hK.out _ _ (KT.out _ d2) (fun hHeld => ?_)
          clear hK K
          (try simp only [Act.put, List.setIfInBounds_toArray, List.set_cons_zero, List.set_cons_succ])
          refine wpAnyH_take (i := 7) (oi := { dst := some 82, op := Op.fieldAddr 34 (Operand.tmp 7) 5, type := 0, pos := "outright.go:181", after := #[{ on := 0, ground := Ground.phase }, { on := 1, ground := Ground.phase }, { on := 2, ground := Ground.phase }, { on := 3, ground := Ground.phase }, { on := 4, ground := Ground.phase }, { on := 5, ground := Ground.phase }, { on := 6, ground := Ground.phase }], guard := none }) (v := .pointer (some ⟨q5, 5, none⟩)) rfl (by kernel_rfl) (by kernel_rfl) (by kernel_rfl) (fun _ _ _ h => h) (Or.inl ⟨by kernel_rfl, fun w hSw => ?_⟩) (by assumption) ?_
          · clear hSw; go_simp
          (try simp only [Act.put, List.setIfInBounds_toArray, List.set_cons_zero, List.set_cons_succ])
          refine wpAnyH_ready (rs := [8]) (by kernel_rfl) (by simp) ?_
          refine AllReadyH.cons (o := { dst := none, op := Op.store 30 (Operand.tmp 82) (Operand.tmp 81), type := 0, pos := "outright.go:181", after := #[{ on := 7, ground := Ground.data }, { on := 6, ground := Ground.data }, { on := 6, ground := Ground.chain }, { on := 0, ground := Ground.phase }, { on := 1, ground := Ground.phase }, { on := 2, ground := Ground.phase }, { on := 3, ground := Ground.phase }, { on := 4, ground := Ground.phase }, { on := 5, ground := Ground.phase }, { on := 6, ground := Ground.phase }], guard := none }) rfl (fun K hK => ?_) AllReadyH.nil
          go_simp
          refine hK.out _ _ (KT.out _ d3.out) (fun hHeld => ?_)
          clear hK K
          (try simp only [Act.put, List.setIfInBounds_toArray, List.set_cons_zero, List.set_cons_succ])
          refine wpAnyH_done (by kernel_rfl) ?_ _
          obtain ⟨JQ0, hJQ0⟩ : ∃ J' : Pf, J' = { J0 with m := (o2, c2, zs ++ F.m.2.2) } := ⟨_, rfl⟩
          have EQ0 : Hid (Ord F JQ0) := by
            rw [hJQ0]
            have q := E0.out
            exact { q with m := ⟨by show (zs ++ F.m.2.2).length ≤ _; rw [List.length_append, hzl]; omega, mem_both hzm⟩ }
          have PQ0 := P3
          rw [← hJQ0] at PQ0
          have DQ0 := d3
          clear hJQ0 k9 f9 P3 d3 R2 P2 P0 d0 d1 d2 hzl hzm hfl C38 KT E0 P9 D9
          generalize x2.setCell ⟨q5, 5, none⟩ (.slice o2 (F.m.2.2.length + F.m.2.2.length) c2) = VQ0 at *
          go_wp2_with fail
          have KT : Hid (∀ W, Below V2.heap.size V2 W → W.cell? ⟨q1, 6, none⟩ = some (.slice F.i.1 F.i.2.2.length F.i.2.1)) := fun W b => by rw [Lib.cell_of_heap (KB.out W b).2.1]; rfl
          have hfl : (F.i.2.2.length : Int) ≤ 1048576 := by have := Hf.out.mi; have := Hf.out.n; omega
          have C38 : Hid (∀ W, Below V2.heap.size V2 W → Calls Try.prog 38 #[.slice F.i.1 F.i.2.2.length F.i.2.1, .int .i64 z] W fun e w' => ∃ o c, ∃ zs : List K2, e = .returned (.slice o F.i.2.2.length c) ∧ zs.length = F.i.2.2.length ∧ (∀ q ∈ zs, q ∈ F.i.2.2) ∧ Q.RowI W.heap.size o c zs w' ∧ Below W.heap.size W w') := fun W b => Q.turned_any F.i.1 F.i.2.1 F.i.2.2 z W (KB.out W b).1.i.1 (KB.out W b).1.i.2.1 hfl Hz.out
          have d0 : Below V2.heap.size V2 VQ0.drew := DQ0.out.trans ⟨rfl, rfl, rfl, Nat.le_refl _, fun _ _ => rfl⟩
          have P0 := hide' (PQ0.out.below (⟨rfl, rfl, rfl, Nat.le_refl _, fun _ _ => rfl⟩ : Below VQ0.heap.size VQ0 VQ0.drew))
          refine wp_region_held_drew (S := fun W' => W'.cell? ⟨q1, 6, none⟩ = some (.slice F.i.1 F.i.2.2.length F.i.2.1)) (by kernel_rfl) (KT.out _ d0) (fun hHeld => ?_)
          refine wpAnyH_take (i := 0) (oi := { dst := some 83, op := Op.fieldAddr 34 (Operand.tmp 2) 6, type := 0, pos := "outright.go:182", after := #[], guard := none }) (v := .pointer (some ⟨q1, 6, none⟩)) rfl (by kernel_rfl) (by kernel_rfl) (by kernel_rfl) (fun _ _ _ h => h) (Or.inl ⟨by kernel_rfl, fun w hSw => ?_⟩) (by assumption) ?_
          · clear hSw; go_simp
          (try simp only [Act.put, List.setIfInBounds_toArray, List.set_cons_zero, List.set_cons_succ])
          refine wpAnyH_take (i := 1) (oi := { dst := some 84, op := Op.load 30 (Operand.tmp 83), type := 30, pos := "outright.go:182", after := #[{ on := 0, ground := Ground.data }], guard := none }) (v := .slice F.i.1 F.i.2.2.length F.i.2.1) rfl (by kernel_rfl) (by kernel_rfl) (by kernel_rfl) (fun _ _ _ h => h) (Or.inl ⟨by kernel_rfl, fun w hSw => ?_⟩) (by assumption) ?_
          · go_simp
          (try simp only [Act.put, List.setIfInBounds_toArray, List.set_cons_zero, List.set_cons_succ])
          refine wpAnyH_take (i := 2) (oi := { dst := some 85, op := Op.move (Operand.tmp 1), type := 3, pos := "outright.go:182", after := #[], guard := none }) (v := .int .i64 z) rfl (by kernel_rfl) (by kernel_rfl) (by kernel_rfl) (fun _ _ _ h => h) (Or.inl ⟨by kernel_rfl, fun w hSw => ?_⟩) (by assumption) ?_
          · clear hSw; go_simp
          (try simp only [Act.put, List.setIfInBounds_toArray, List.set_cons_zero, List.set_cons_succ])
          refine wpAnyH_take (i := 4) (oi := { dst := some 87, op := Op.fieldAddr 34 (Operand.tmp 2) 6, type := 0, pos := "outright.go:182", after := #[], guard := none }) (v := .pointer (some ⟨q1, 6, none⟩)) rfl (by kernel_rfl) (by kernel_rfl) (by kernel_rfl) (fun _ _ _ h => h) (Or.inl ⟨by kernel_rfl, fun w hSw => ?_⟩) (by assumption) ?_
          · clear hSw; go_simp
          (try simp only [Act.put, List.setIfInBounds_toArray, List.set_cons_zero, List.set_cons_succ])
          refine wpAnyH_take (i := 5) (oi := { dst := some 88, op := Op.load 30 (Operand.tmp 87), type := 30, pos := "outright.go:182", after := #[{ on := 4, ground := Ground.data }], guard := none }) (v := .slice F.i.1 F.i.2.2.length F.i.2.1) rfl (by kernel_rfl) (by kernel_rfl) (by kernel_rfl) (fun _ _ _ h => h) (Or.inl ⟨by kernel_rfl, fun w hSw => ?_⟩) (by assumption) ?_
          · go_simp
          (try simp only [Act.put, List.setIfInBounds_toArray, List.set_cons_zero, List.set_cons_succ])
          refine wpAnyH_ready (rs := [3]) (by kernel_rfl) (by simp) ?_
          refine AllReadyH.cons (o := { dst := some 86, op := Op.call { callee := Callee.value (Operand.func 38), args := #[Operand.tmp 84, Operand.tmp 85], argTypes := #[30, 3] }, type := 30, pos := "outright.go:182", after := #[{ on := 1, ground := Ground.data }, { on := 2, ground := Ground.data }], guard := none }) rfl (fun K hK => ?_) AllReadyH.nil
          go_simp
          refine (C38.out _ d0).mono ?_
          rintro e x1 ⟨o1, c1, zs, rfl, hzl, hzm, r1, b1⟩
          have d1 : Below V2.heap.size V2 x1 := d0.trans (b1.mono d0.size)
          (try dsimp only)
          refine hK.out _ _ (KT.out _ d1) (fun hHeld => ?_)
          clear hK K
          (try simp only [Act.put, List.setIfInBounds_toArray, List.set_cons_zero, List.set_cons_succ])
          refine wpAnyH_ready (rs := [6]) (by kernel_rfl) (by simp) ?_
          refine AllReadyH.cons (o := { dst := some 89, op := Op.call { callee := Callee.builtin Builtin.append, args := #[Operand.tmp 86, Operand.tmp 88], argTypes := #[30, 30] }, type := 30, pos := "outright.go:182", after := #[{ on := 3, ground := Ground.data }, { on := 5, ground := Ground.data }, { on := 3, ground := Ground.chain }], guard := none }) rfl (fun K hK => ?_) AllReadyH.nil
          refine G.step_appR (by rfl) ?_
          refine G.wp_appR _ _ 30 98 2 32 _ (by rfl) Try.underlying30 G.info98 rfl (by decide) (by decide) VQ0.drew.heap.size o1 c1 F.i.2.2.length (zs.map Q.cells) (by rw [List.length_map]; exact hzl) (by rfl) (Q.RowI.g.1 r1) F.i.1 F.i.2.1 F.i.2.2.length (F.i.2.2.map Q.cells) (List.length_map _) (by rfl) (KB.out _ d1).1.i.1.lies (fun y hy => by obtain ⟨R, hR, rfl⟩ := List.mem_map.1 hy; rfl) (fun y hy u hu => by obtain ⟨R, hR, rfl⟩ := List.mem_map.1 hy; unfold Q.cells at hu; simp only [List.mem_cons, List.mem_nil_iff, or_false] at hu; rcases hu with rfl | rfl <;> rfl) (KB.out _ d1).1.i.2.2 (by omega) b1.size ?_
          intro o2 c2 x2 r2 t2
          have b2 : Below VQ0.drew.heap.size VQ0.drew x2 := b1.trans (below_own t2 (fun j q => (r1.lt j q).1) b1.size)
          have d2 : Below V2.heap.size V2 x2 := d0.trans (b2.mono d0.size)
          have R2 : Hid (Q.RowI V2.heap.size o2 c2 (zs ++ F.i.2.2) x2) := (Q.RowI.g.2 (by rw [List.map_append]; exact r2)).mono d0.size
          have P2 := hide' (P0.out.below b2)
          have k9 : x2.cell? ⟨q5, 6, none⟩ = some (.slice JQ0.i.1 JQ0.i.2.2.length JQ0.i.2.1) := P2.out.c 6
          have f9 : x2.frozen? ⟨q5, 6, none⟩ = false := P2.out.f 6
          have P3 := hide' (P2.out.putI (n := F.i.2.2.length + F.i.2.2.length) R2.out (by rw [List.length_append, hzl]))
          have d3 := hide' (d2.trans (below_own (set_turn q5 6 (.slice o2 (F.i.2.2.length + F.i.2.2.length) c2) x2) (fun j q => by rw [q]; exact P2.out.l) d2.size))
          clear r1 b1 r2 t2 b2
          refine hK.out _ _ (KT.out _ d2) (fun hHeld => ?_)
          clear hK K
          (try simp only [Act.put, List.setIfInBounds_toArray, List.set_cons_zero, List.set_cons_succ])
          refine wpAnyH_take (i := 7) (oi := { dst := some 90, op := Op.fieldAddr 34 (Operand.tmp 7) 6, type := 0, pos := "outright.go:182", after := #[{ on := 0, ground := Ground.phase }, { on := 1, ground := Ground.phase }, { on := 2, ground := Ground.phase }, { on := 3, ground := Ground.phase }, { on := 4, ground := Ground.phase }, { on := 5, ground := Ground.phase }, { on := 6, ground := Ground.phase }], guard := none }) (v := .pointer (some ⟨q5, 6, none⟩)) rfl (by kernel_rfl) (by kernel_rfl) (by kernel_rfl) (fun _ _ _ h => h) (Or.inl ⟨by kernel_rfl, fun w hSw => ?_⟩) (by assumption) ?_
          · clear hSw; go_simp
          (try simp only [Act.put, List.setIfInBounds_toArray, List.set_cons_zero, List.set_cons_succ])
          refine wpAnyH_ready (rs := [8]) (by kernel_rfl) (by simp) ?_
          refine AllReadyH.cons (o := { dst := none, op := Op.store 30 (Operand.tmp 90) (Operand.tmp 89), type := 0, pos := "outright.go:182", after := #[{ on := 7, ground := Ground.data }, { on := 6, ground := Ground.data }, { on := 6, ground := Ground.chain }, { on := 0, ground := Ground.phase }, { on := 1, ground := Ground.phase }, { on := 2, ground := Ground.phase }, { on := 3, ground := Ground.phase }, { on := 4, ground := Ground.phase }, { on := 5, ground := Ground.phase }, { on := 6, ground := Ground.phase }], guard := none }) rfl (fun K hK => ?_) AllReadyH.nil
          go_simp
          refine hK.out _ _ (KT.out _ d3.out) (fun hHeld => ?_)
          clear hK K
          (try simp only [Act.put, List.setIfInBounds_toArray, List.set_cons_zero, List.set_cons_succ])
          refine wpAnyH_done (by kernel_rfl) ?_ _
          obtain ⟨JQ1, hJQ1⟩ : ∃ J' : Pf, J' = { JQ0 with i := (o2, c2, zs ++ F.i.2.2) } := ⟨_, rfl⟩
          have EQ1 : Hid (Ord F JQ1) := by
            rw [hJQ1]
            have q := EQ0.out
            exact { q with i := ⟨by show (zs ++ F.i.2.2).length ≤ _; rw [List.length_append, hzl]; omega, mem_both hzm⟩ }
          have PQ1 := P3
          rw [← hJQ1] at PQ1
          have DQ1 := d3
          clear hJQ1 k9 f9 P3 d3 R2 P2 P0 d0 d1 d2 hzl hzm hfl C38 KT EQ0 PQ0 DQ0
          generalize x2.setCell ⟨q5, 6, none⟩ (.slice o2 (F.i.2.2.length + F.i.2.2.length) c2) = VQ1 at *
          go_wp2_with fail
          have KT : Hid (∀ W, Below V2.heap.size V2 W → W.cell? ⟨q1, 7, none⟩ = some (.slice F.p.1 F.p.2.2.length F.p.2.1)) := fun W b => by rw [Lib.cell_of_heap (KB.out W b).2.1]; rfl
          have hfl : (F.p.2.2.length : Int) ≤ 1048576 := by have := Hf.out.pw; have := Hf.out.n; omega
          have C38 : Hid (∀ W, Below V2.heap.size V2 W → Calls Try.prog 38 #[.slice F.p.1 F.p.2.2.length F.p.2.1, .int .i64 z] W fun e w' => ∃ o c, ∃ zs : List K2, e = .returned (.slice o F.p.2.2.length c) ∧ zs.length = F.p.2.2.length ∧ (∀ q ∈ zs, q ∈ F.p.2.2) ∧ Q.RowI W.heap.size o c zs w' ∧ Below W.heap.size W w') := fun W b => Q.turned_any F.p.1 F.p.2.1 F.p.2.2 z W (KB.out W b).1.p.1 (KB.out W b).1.p.2.1 hfl Hz.out
          have d0 : Below V2.heap.size V2 VQ1.drew := DQ1.out.trans ⟨rfl, rfl, rfl, Nat.le_refl _, fun _ _ => rfl⟩
          have P0 := hide' (PQ1.out.below (⟨rfl, rfl, rfl, Nat.le_refl _, fun _ _ => rfl⟩ : Below VQ1.heap.size VQ1 VQ1.drew))
          refine wp_region_held_drew (S := fun W' => W'.cell? ⟨q1, 7, none⟩ = some (.slice F.p.1 F.p.2.2.length F.p.2.1)) (by kernel_rfl) (KT.out _ d0) (fun hHeld => ?_)
          refine wpAnyH_take (i := 0) (oi := { dst := some 91, op := Op.fieldAddr 34 (Operand.tmp 2) 7, type := 0, pos := "outright.go:183", after := #[], guard := none }) (v := .pointer (some ⟨q1, 7, none⟩)) rfl (by kernel_rfl) (by kernel_rfl) (by kernel_rfl) (fun _ _ _ h => h) (Or.inl ⟨by kernel_rfl, fun w hSw => ?_⟩) (by assumption) ?_
          · clear hSw; go_simp
          (try simp only [Act.put, List.setIfInBounds_toArray, List.set_cons_zero, List.set_cons_succ])
          refine wpAnyH_take (i := 1) (oi := { dst := some 92, op := Op.load 30 (Operand.tmp 91), type := 30, pos := "outright.go:183", after := #[{ on := 0, ground := Ground.data }], guard := none }) (v := .slice F.p.1 F.p.2.2.length F.p.2.1) rfl (by kernel_rfl) (by kernel_rfl) (by kernel_rfl) (fun _ _ _ h => h) (Or.inl ⟨by kernel_rfl, fun w hSw => ?_⟩) (by assumption) ?_
          · go_simp
          (try simp only [Act.put, List.setIfInBounds_toArray, List.set_cons_zero, List.set_cons_succ])
          refine wpAnyH_take (i := 2) (oi := { dst := some 93, op := Op.move (Operand.tmp 1), type := 3, pos := "outright.go:183", after := #[], guard := none }) (v := .int .i64 z) rfl (by kernel_rfl) (by kernel_rfl) (by kernel_rfl) (fun _ _ _ h => h) (Or.inl ⟨by kernel_rfl, fun w hSw => ?_⟩) (by assumption) ?_
          · clear hSw; go_simp
          (try simp only [Act.put, List.setIfInBounds_toArray, List.set_cons_zero, List.set_cons_succ])
          refine wpAnyH_take (i := 4) (oi := { dst := some 95, op := Op.fieldAddr 34 (Operand.tmp 2) 7, type := 0, pos := "outright.go:183", after := #[], guard := none }) (v := .pointer (some ⟨q1, 7, none⟩)) rfl (by kernel_rfl) (by kernel_rfl) (by kernel_rfl) (fun _ _ _ h => h) (Or.inl ⟨by kernel_rfl, fun w hSw => ?_⟩) (by assumption) ?_
          · clear hSw; go_simp
          (try simp only [Act.put, List.setIfInBounds_toArray, List.set_cons_zero, List.set_cons_succ])
          refine wpAnyH_take (i := 5) (oi := { dst := some 96, op := Op.load 30 (Operand.tmp 95), type := 30, pos := "outright.go:183", after := #[{ on := 4, ground := Ground.data }], guard := none }) (v := .slice F.p.1 F.p.2.2.length F.p.2.1) rfl (by kernel_rfl) (by kernel_rfl) (by kernel_rfl) (fun _ _ _ h => h) (Or.inl ⟨by kernel_rfl, fun w hSw => ?_⟩) (by assumption) ?_
          · go_simp
          (try simp only [Act.put, List.setIfInBounds_toArray, List.set_cons_zero, List.set_cons_succ])
          refine wpAnyH_ready (rs := [3]) (by kernel_rfl) (by simp) ?_
          refine AllReadyH.cons (o := { dst := some 94, op := Op.call { callee := Callee.value (Operand.func 38), args := #[Operand.tmp 92, Operand.tmp 93], argTypes := #[30, 3] }, type := 30, pos := "outright.go:183", after := #[{ on := 1, ground := Ground.data }, { on := 2, ground := Ground.data }], guard := none }) rfl (fun K hK => ?_) AllReadyH.nil
          go_simp
          refine (C38.out _ d0).mono ?_
          rintro e x1 ⟨o1, c1, zs, rfl, hzl, hzm, r1, b1⟩
          have d1 : Below V2.heap.size V2 x1 := d0.trans (b1.mono d0.size)
          (try dsimp only)
          refine hK.out _ _ (KT.out _ d1) (fun hHeld => ?_)
          clear hK K
          (try simp only [Act.put, List.setIfInBounds_toArray, List.set_cons_zero, List.set_cons_succ])
          refine wpAnyH_ready (rs := [6]) (by kernel_rfl) (by simp) ?_
          refine AllReadyH.cons (o := { dst := some 97, op := Op.call { callee := Callee.builtin Builtin.append, args := #[Operand.tmp 94, Operand.tmp 96], argTypes := #[30, 30] }, type := 30, pos := "outright.go:183", after := #[{ on := 3, ground := Ground.data }, { on := 5, ground := Ground.data }, { on := 3, ground := Ground.chain }], guard := none }) rfl (fun K hK => ?_) AllReadyH.nil
          refine G.step_appR (by rfl) ?_
          refine G.wp_appR _ _ 30 98 2 32 _ (by rfl) Try.underlying30 G.info98 rfl (by decide) (by decide) VQ1.drew.heap.size o1 c1 F.p.2.2.length (zs.map Q.cells) (by rw [List.length_map]; exact hzl) (by rfl) (Q.RowI.g.1 r1) F.p.1 F.p.2.1 F.p.2.2.length (F.p.2.2.map Q.cells) (List.length_map _) (by rfl) (KB.out _ d1).1.p.1.lies (fun y hy => by obtain ⟨R, hR, rfl⟩ := List.mem_map.1 hy; rfl) (fun y hy u hu => by obtain ⟨R, hR, rfl⟩ := List.mem_map.1 hy; unfold Q.cells at hu; simp only [List.mem_cons, List.mem_nil_iff, or_false] at hu; rcases hu with rfl | rfl <;> rfl) (KB.out _ d1).1.p.2.2 (by omega) b1.size ?_
          intro o2 c2 x2 r2 t2
          have b2 : Below VQ1.drew.heap.size VQ1.drew x2 := b1.trans (below_own t2 (fun j q => (r1.lt j q).1) b1.size)
          have d2 : Below V2.heap.size V2 x2 := d0.trans (b2.mono d0.size)
          have R2 : Hid (Q.RowI V2.heap.size o2 c2 (zs ++ F.p.2.2) x2) := (Q.RowI.g.2 (by rw [List.map_append]; exact r2)).mono d0.size
          have P2 := hide' (P0.out.below b2)
          have k9 : x2.cell? ⟨q5, 7, none⟩ = some (.slice JQ1.p.1 JQ1.p.2.2.length JQ1.p.2.1) := P2.out.c 7
          have f9 : x2.frozen? ⟨q5, 7, none⟩ = false := P2.out.f 7
          have P3 := hide' (P2.out.putP (n := F.p.2.2.length + F.p.2.2.length) R2.out (by rw [List.length_append, hzl]))
          have d3 := hide' (d2.trans (below_own (set_turn q5 7 (.slice o2 (F.p.2.2.length + F.p.2.2.length) c2) x2) (fun j q => by rw [q]; exact P2.out.l) d2.size))
          clear r1 b1 r2 t2 b2
          refine hK.out _ _ (KT.out _ d2) (fun hHeld => ?_)
          clear hK K
          (try simp only [Act.put, List.setIfInBounds_toArray, List.set_cons_zero, List.set_cons_succ])
          refine wpAnyH_take (i := 7) (oi := { dst := some 98, op := Op.fieldAddr 34 (Operand.tmp 7) 7, type := 0, pos := "outright.go:183", after := #[{ on := 0, ground := Ground.phase }, { on := 1, ground := Ground.phase }, { on := 2, ground := Ground.phase }, { on := 3, ground := Ground.phase }, { on := 4, ground := Ground.phase }, { on := 5, ground := Ground.phase }, { on := 6, ground := Ground.phase }], guard := none }) (v := .pointer (some ⟨q5, 7, none⟩)) rfl (by kernel_rfl) (by kernel_rfl) (by kernel_rfl) (fun _ _ _ h => h) (Or.inl ⟨by kernel_rfl, fun w hSw => ?_⟩) (by assumption) ?_
          · clear hSw; go_simp
          (try simp only [Act.put, List.setIfInBounds_toArray, List.set_cons_zero, List.set_cons_succ])
          refine wpAnyH_ready (rs := [8]) (by kernel_rfl) (by simp) ?_
          refine AllReadyH.cons (o := { dst := none, op := Op.store 30 (Operand.tmp 98) (Operand.tmp 97), type := 0, pos := "outright.go:183", after := #[{ on := 7, ground := Ground.data }, { on := 6, ground := Ground.data }, { on := 6, ground := Ground.chain }, { on := 0, ground := Ground.phase }, { on := 1, ground := Ground.phase }, { on := 2, ground := Ground.phase }, { on := 3, ground := Ground.phase }, { on := 4, ground := Ground.phase }, { on := 5, ground := Ground.phase }, { on := 6, ground := Ground.phase }], guard := none }) rfl (fun K hK => ?_) AllReadyH.nil
          go_simp
          refine hK.out _ _ (KT.out _ d3.out) (fun hHeld => ?_)
          clear hK K
          (try simp only [Act.put, List.setIfInBounds_toArray, List.set_cons_zero, List.set_cons_succ])
          refine wpAnyH_done (by kernel_rfl) ?_ _
          obtain ⟨JQ2, hJQ2⟩ : ∃ J' : Pf, J' = { JQ1 with p := (o2, c2, zs ++ F.p.2.2) } := ⟨_, rfl⟩
          have EQ2 : Hid (Ord F JQ2) := by
            rw [hJQ2]
            have q := EQ1.out
            exact { q with p := ⟨by show (zs ++ F.p.2.2).length ≤ _; rw [List.length_append, hzl]; omega, mem_both hzm⟩ }
          have PQ2 := P3
          rw [← hJQ2] at PQ2
          have DQ2 := d3
          clear hJQ2 k9 f9 P3 d3 R2 P2 P0 d0 d1 d2 hzl hzm hfl C38 KT EQ1 PQ1 DQ1
          generalize x2.setCell ⟨q5, 7, none⟩ (.slice o2 (F.p.2.2.length + F.p.2.2.length) c2) = VQ2 at *
          go_wp2_with fail
          have KT : Hid (∀ W, Below V2.heap.size V2 W → W.cell? ⟨q1, 8, none⟩ = some (.slice F.w.1 F.w.2.2.length F.w.2.1)) := fun W b => by rw [Lib.cell_of_heap (KB.out W b).2.1]; rfl
          have hfl : (F.w.2.2.length : Int) ≤ 1048576 := by have := Hf.out.pw; have := Hf.out.n; omega
          have C38 : Hid (∀ W, Below V2.heap.size V2 W → Calls Try.prog 38 #[.slice F.w.1 F.w.2.2.length F.w.2.1, .int .i64 z] W fun e w' => ∃ o c, ∃ zs : List K2, e = .returned (.slice o F.w.2.2.length c) ∧ zs.length = F.w.2.2.length ∧ (∀ q ∈ zs, q ∈ F.w.2.2) ∧ Q.RowI W.heap.size o c zs w' ∧ Below W.heap.size W w') := fun W b => Q.turned_any F.w.1 F.w.2.1 F.w.2.2 z W (KB.out W b).1.w.1 (KB.out W b).1.w.2.1 hfl Hz.out
          have d0 : Below V2.heap.size V2 VQ2.drew := DQ2.out.trans ⟨rfl, rfl, rfl, Nat.le_refl _, fun _ _ => rfl⟩
          have P0 := hide' (PQ2.out.below (⟨rfl, rfl, rfl, Nat.le_refl _, fun _ _ => rfl⟩ : Below VQ2.heap.size VQ2 VQ2.drew))
          refine wp_region_held_drew (S := fun W' => W'.cell? ⟨q1, 8, none⟩ = some (.slice F.w.1 F.w.2.2.length F.w.2.1)) (by kernel_rfl) (KT.out _ d0) (fun hHeld => ?_)
          refine wpAnyH_take (i := 0) (oi := { dst := some 99, op := Op.fieldAddr 34 (Operand.tmp 2) 8, type := 0, pos := "outright.go:184", after := #[], guard := none }) (v := .pointer (some ⟨q1, 8, none⟩)) rfl (by kernel_rfl) (by kernel_rfl) (by kernel_rfl) (fun _ _ _ h => h) (Or.inl ⟨by kernel_rfl, fun w hSw => ?_⟩) (by assumption) ?_
          · clear hSw; go_simp
          (try simp only [Act.put, List.setIfInBounds_toArray, List.set_cons_zero, List.set_cons_succ])
          refine wpAnyH_take (i := 1) (oi := { dst := some 100, op := Op.load 30 (Operand.tmp 99), type := 30, pos := "outright.go:184", after := #[{ on := 0, ground := Ground.data }], guard := none }) (v := .slice F.w.1 F.w.2.2.length F.w.2.1) rfl (by kernel_rfl) (by kernel_rfl) (by kernel_rfl) (fun _ _ _ h => h) (Or.inl ⟨by kernel_rfl, fun w hSw => ?_⟩) (by assumption) ?_
          · go_simp
          (try simp only [Act.put, List.setIfInBounds_toArray, List.set_cons_zero, List.set_cons_succ])
          refine wpAnyH_take (i := 2) (oi := { dst := some 101, op := Op.move (Operand.tmp 1), type := 3, pos := "outright.go:184", after := #[], guard := none }) (v := .int .i64 z) rfl (by kernel_rfl) (by kernel_rfl) (by kernel_rfl) (fun _ _ _ h => h) (Or.inl ⟨by kernel_rfl, fun w hSw => ?_⟩) (by assumption) ?_
          · clear hSw; go_simp
          (try simp only [Act.put, List.setIfInBounds_toArray, List.set_cons_zero, List.set_cons_succ])
          refine wpAnyH_take (i := 4) (oi := { dst := some 103, op := Op.fieldAddr 34 (Operand.tmp 2) 8, type := 0, pos := "outright.go:184", after := #[], guard := none }) (v := .pointer (some ⟨q1, 8, none⟩)) rfl (by kernel_rfl) (by kernel_rfl) (by kernel_rfl) (fun _ _ _ h => h) (Or.inl ⟨by kernel_rfl, fun w hSw => ?_⟩) (by assumption) ?_
          · clear hSw; go_simp
          (try simp only [Act.put, List.setIfInBounds_toArray, List.set_cons_zero, List.set_cons_succ])
          refine wpAnyH_take (i := 5) (oi := { dst := some 104, op := Op.load 30 (Operand.tmp 103), type := 30, pos := "outright.go:184", after := #[{ on := 4, ground := Ground.data }], guard := none }) (v := .slice F.w.1 F.w.2.2.length F.w.2.1) rfl (by kernel_rfl) (by kernel_rfl) (by kernel_rfl) (fun _ _ _ h => h) (Or.inl ⟨by kernel_rfl, fun w hSw => ?_⟩) (by assumption) ?_
          · go_simp
          (try simp only [Act.put, List.setIfInBounds_toArray, List.set_cons_zero, List.set_cons_succ])
          refine wpAnyH_ready (rs := [3]) (by kernel_rfl) (by simp) ?_
          refine AllReadyH.cons (o := { dst := some 102, op := Op.call { callee := Callee.value (Operand.func 38), args := #[Operand.tmp 100, Operand.tmp 101], argTypes := #[30, 3] }, type := 30, pos := "outright.go:184", after := #[{ on := 1, ground := Ground.data }, { on := 2, ground := Ground.data }], guard := none }) rfl (fun K hK => ?_) AllReadyH.nil
          go_simp
          refine (C38.out _ d0).mono ?_
          rintro e x1 ⟨o1, c1, zs, rfl, hzl, hzm, r1, b1⟩
          have d1 : Below V2.heap.size V2 x1 := d0.trans (b1.mono d0.size)
          (try dsimp only)
          refine hK.out _ _ (KT.out _ d1) (fun hHeld => ?_)
          clear hK K
          (try simp only [Act.put, List.setIfInBounds_toArray, List.set_cons_zero, List.set_cons_succ])
          refine wpAnyH_ready (rs := [6]) (by kernel_rfl) (by simp) ?_
          refine AllReadyH.cons (o := { dst := some 105, op := Op.call { callee := Callee.builtin Builtin.append, args := #[Operand.tmp 102, Operand.tmp 104], argTypes := #[30, 30] }, type := 30, pos := "outright.go:184", after := #[{ on := 3, ground := Ground.data }, { on := 5, ground := Ground.data }, { on := 3, ground := Ground.chain }], guard := none }) rfl (fun K hK => ?_) AllReadyH.nil
          refine G.step_appR (by rfl) ?_
          refine G.wp_appR _ _ 30 98 2 32 _ (by rfl) Try.underlying30 G.info98 rfl (by decide) (by decide) VQ2.drew.heap.size o1 c1 F.w.2.2.length (zs.map Q.cells) (by rw [List.length_map]; exact hzl) (by rfl) (Q.RowI.g.1 r1) F.w.1 F.w.2.1 F.w.2.2.length (F.w.2.2.map Q.cells) (List.length_map _) (by rfl) (KB.out _ d1).1.w.1.lies (fun y hy => by obtain ⟨R, hR, rfl⟩ := List.mem_map.1 hy; rfl) (fun y hy u hu => by obtain ⟨R, hR, rfl⟩ := List.mem_map.1 hy; unfold Q.cells at hu; simp only [List.mem_cons, List.mem_nil_iff, or_false] at hu; rcases hu with rfl | rfl <;> rfl) (KB.out _ d1).1.w.2.2 (by omega) b1.size ?_
          intro o2 c2 x2 r2 t2
          have b2 : Below VQ2.drew.heap.size VQ2.drew x2 := b1.trans (below_own t2 (fun j q => (r1.lt j q).1) b1.size)
          have d2 : Below V2.heap.size V2 x2 := d0.trans (b2.mono d0.size)
          have R2 : Hid (Q.RowI V2.heap.size o2 c2 (zs ++ F.w.2.2) x2) := (Q.RowI.g.2 (by rw [List.map_append]; exact r2)).mono d0.size
          have P2 := hide' (P0.out.below b2)
          have k9 : x2.cell? ⟨q5, 8, none⟩ = some (.slice JQ2.w.1 JQ2.w.2.2.length JQ2.w.2.1) := P2.out.c 8
          have f9 : x2.frozen? ⟨q5, 8, none⟩ = false := P2.out.f 8
          have P3 := hide' (P2.out.putW (n := F.w.2.2.length + F.w.2.2.length) R2.out (by rw [List.length_append, hzl]))
          have d3 := hide' (d2.trans (below_own (set_turn q5 8 (.slice o2 (F.w.2.2.length + F.w.2.2.length) c2) x2) (fun j q => by rw [q]; exact P2.out.l) d2.size))
          clear r1 b1 r2 t2 b2
          refine hK.out _ _ (KT.out _ d2) (fun hHeld => ?_)
          clear hK K
          (try simp only [Act.put, List.setIfInBounds_toArray, List.set_cons_zero, List.set_cons_succ])
          refine wpAnyH_take (i := 7) (oi := { dst := some 106, op := Op.fieldAddr 34 (Operand.tmp 7) 8, type := 0, pos := "outright.go:184", after := #[{ on := 0, ground := Ground.phase }, { on := 1, ground := Ground.phase }, { on := 2, ground := Ground.phase }, { on := 3, ground := Ground.phase }, { on := 4, ground := Ground.phase }, { on := 5, ground := Ground.phase }, { on := 6, ground := Ground.phase }], guard := none }) (v := .pointer (some ⟨q5, 8, none⟩)) rfl (by kernel_rfl) (by kernel_rfl) (by kernel_rfl) (fun _ _ _ h => h) (Or.inl ⟨by kernel_rfl, fun w hSw => ?_⟩) (by assumption) ?_
          · clear hSw; go_simp
          (try simp only [Act.put, List.setIfInBounds_toArray, List.set_cons_zero, List.set_cons_succ])
          refine wpAnyH_ready (rs := [8]) (by kernel_rfl) (by simp) ?_
          refine AllReadyH.cons (o := { dst := none, op := Op.store 30 (Operand.tmp 106) (Operand.tmp 105), type := 0, pos := "outright.go:184", after := #[{ on := 7, ground := Ground.data }, { on := 6, ground := Ground.data }, { on := 6, ground := Ground.chain }, { on := 0, ground := Ground.phase }, { on := 1, ground := Ground.phase }, { on := 2, ground := Ground.phase }, { on := 3, ground := Ground.phase }, { on := 4, ground := Ground.phase }, { on := 5, ground := Ground.phase }, { on := 6, ground := Ground.phase }], guard := none }) rfl (fun K hK => ?_) AllReadyH.nil
          go_simp
          refine hK.out _ _ (KT.out _ d3.out) (fun hHeld => ?_)
          clear hK K
          (try simp only [Act.put, List.setIfInBounds_toArray, List.set_cons_zero, List.set_cons_succ])
          refine wpAnyH_done (by kernel_rfl) ?_ _
          obtain ⟨JQ3, hJQ3⟩ : ∃ J' : Pf, J' = { JQ2 with w := (o2, c2, zs ++ F.w.2.2) } := ⟨_, rfl⟩
          have EQ3 : Hid (Ord F JQ3) := by
            rw [hJQ3]
            have q := EQ2.out
            exact { q with w := ⟨by show (zs ++ F.w.2.2).length ≤ _; rw [List.length_append, hzl]; omega, mem_both hzm⟩ }
          have PQ3 := P3
          rw [← hJQ3] at PQ3
          have DQ3 := d3
          clear hJQ3 k9 f9 P3 d3 R2 P2 P0 d0 d1 d2 hzl hzm hfl C38 KT EQ2 PQ2 DQ2
          generalize x2.setCell ⟨q5, 8, none⟩ (.slice o2 (F.w.2.2.length + F.w.2.2.length) c2) = VQ3 at *
          go_wp2_with fail
          have RE := hide' (rel_ord EQ3.out)
          have FE : Hid (Fine JQ3 N) := EQ3.out.fine Hf.out Hn.out.1 Hn.out.2.1 Hn.out.2.2.1 Hn.out.2.2.2.1
          have FW : Hid ((fos JQ3.s.2.2).length * ((fo JQ3.o.2.2).length * (fo JQ3.a.2.2).length) ≤ 65536) := by show _ ≤ _; rw [few_ord EQ3.out]; exact Hv.out
          have d0 : Below VQ3.heap.size VQ3 VQ3.drew := ⟨rfl, rfl, rfl, Nat.le_refl _, fun _ _ => rfl⟩
          have KT : Hid (∀ W, Below VQ3.heap.size VQ3 W → W.heap[q5]? = some (.cells JQ3.arr 34 (0, 0)) ∧ W.heap[q1]? = some (.cells F.arr 34 (0, 0))) := fun W b => ⟨(PQ3.out.below b).h, (KB.out W (DQ3.out.trans (b.mono DQ3.out.size))).2.1⟩
          have KI : Hid (∀ W, Below VQ3.heap.size VQ3 W → JQ3.In W ∧ F.In W ∧ Below w.heap.size w W) := fun W b => ⟨(PQ3.out.below b).pin (KB.out W (DQ3.out.trans (b.mono DQ3.out.size))).2.2, (KB.out W (DQ3.out.trans (b.mono DQ3.out.size))).1, (KB.out W (DQ3.out.trans (b.mono DQ3.out.size))).2.2⟩
          have hfl : Hid (((rel F).length : Int) < 1099511627777) := by have := rel_few' Hv.out; show _ < _; omega
          clear EQ3
          refine wp_region_held_drew (S := fun W' => W'.heap[q5]? = some (.cells JQ3.arr 34 (0, 0)) ∧ W'.heap[q1]? = some (.cells F.arr 34 (0, 0))) (by kernel_rfl) (KT.out _ d0) (fun hHeld => ?_)
          refine wpAnyH_take (i := 0) (oi := { dst := some 107, op := Op.move (Operand.tmp 5), type := 4, pos := "outright.go:185", after := #[], guard := none }) (v := .bool true) rfl (by kernel_rfl) (by kernel_rfl) (by kernel_rfl) (fun _ _ _ h => h) (Or.inl ⟨by kernel_rfl, fun w hSw => ?_⟩) (by assumption) ?_
          · clear hSw; go_simp
          (try simp only [Act.put, List.setIfInBounds_toArray, List.set_cons_zero, List.set_cons_succ])
          refine wpAnyH_take (i := 1) (oi := { dst := some 108, op := Op.move (Operand.tmp 107), type := 4, pos := "outright.go:185", after := #[{ on := 0, ground := Ground.data }], guard := none }) (v := .bool true) rfl (by kernel_rfl) (by kernel_rfl) (by kernel_rfl) (fun _ _ _ h => h) (Or.inl ⟨by kernel_rfl, fun w hSw => ?_⟩) (by assumption) ?_
          · clear hSw; go_simp
          (try simp only [Act.put, List.setIfInBounds_toArray, List.set_cons_zero, List.set_cons_succ])
          refine wpAnyH_take (i := 2) (oi := { dst := some 109, op := Op.load 34 (Operand.tmp 7), type := 34, pos := "outright.go:185", after := #[{ on := 1, ground := Ground.guard }], guard := some (1, true) }) (v := .agg JQ3.arr) rfl (by kernel_rfl) (by kernel_rfl) (by kernel_rfl) (fun _ _ _ h => h) (Or.inl ⟨by kernel_rfl, fun w hSw => ?_⟩) (by assumption) ?_
          · exact ex_row 34 _ rfl q5 rfl 34 _ (0, 0) _ hSw.1 Try.underlying34 rfl (size_arr _)
          (try simp only [Act.put, List.setIfInBounds_toArray, List.set_cons_zero, List.set_cons_succ])
          refine wpAnyH_take (i := 4) (oi := { dst := some 111, op := Op.load 34 (Operand.tmp 2), type := 34, pos := "outright.go:185", after := #[{ on := 1, ground := Ground.guard }], guard := some (1, true) }) (v := .agg F.arr) rfl (by kernel_rfl) (by kernel_rfl) (by kernel_rfl) (fun _ _ _ h => h) (Or.inl ⟨by kernel_rfl, fun w hSw => ?_⟩) (by assumption) ?_
          · exact ex_row 34 _ rfl q1 rfl 34 _ (0, 0) _ hSw.2 Try.underlying34 rfl (size_arr _)
          (try simp only [Act.put, List.setIfInBounds_toArray, List.set_cons_zero, List.set_cons_succ])
          refine wpAnyH_ready (rs := [3]) (by kernel_rfl) (by simp) ?_
          refine AllReadyH.cons (o := { dst := some 110, op := Op.call { callee := Callee.value (Operand.func 28), args := #[Operand.tmp 109], argTypes := #[34] }, type := 32, pos := "outright.go:185", after := #[{ on := 2, ground := Ground.data }, { on := 1, ground := Ground.chain }, { on := 1, ground := Ground.guard }], guard := some (1, true) }) rfl (fun K hK => ?_) AllReadyH.nil
          go_simp
          refine (rel_call JQ3 N _ (KI.out _ d0).1 FE.out FW.out).mono ?_
          rintro e x1 ⟨to, tc, rfl, r1, b1⟩
          rw [RE.out] at r1
          rw [RE.out]
          have d1 : Below VQ3.heap.size VQ3 x1 := d0.trans (b1.mono d0.size)
          have R1 := hide' (And.intro r1.ints r1.cap)
          clear r1 b1
          (try dsimp only)
          refine hK.out _ _ (KT.out _ d1) (fun hHeld => ?_)
          clear hK K
          (try simp only [Act.put, List.setIfInBounds_toArray, List.set_cons_zero, List.set_cons_succ])
          refine wpAnyH_ready (rs := [5]) (by kernel_rfl) (by simp) ?_
          refine AllReadyH.cons (o := { dst := some 112, op := Op.call { callee := Callee.value (Operand.func 28), args := #[Operand.tmp 111], argTypes := #[34] }, type := 32, pos := "outright.go:185", after := #[{ on := 4, ground := Ground.data }, { on := 3, ground := Ground.chain }, { on := 1, ground := Ground.guard }], guard := some (1, true) }) rfl (fun K hK => ?_) AllReadyH.nil
          go_simp
          refine (rel_call F N _ (KI.out _ d1).2.1 Hf.out Hv.out).mono ?_
          rintro e x2 ⟨so, sc, rfl, r2, b2⟩
          have d2 : Below VQ3.heap.size VQ3 x2 := d1.trans (b2.mono d1.size)
          have R2 := hide' (And.intro (And.intro (R1.out.1.below b2) R1.out.2) (And.intro r2.ints r2.cap))
          clear r2 b2 R1
          (try dsimp only)
          refine hK.out _ _ (KT.out _ d2) (fun hHeld => ?_)
          clear hK K
          (try simp only [Act.put, List.setIfInBounds_toArray, List.set_cons_zero, List.set_cons_succ])
          refine wpAnyH_ready (rs := [6]) (by kernel_rfl) (by simp) ?_
          refine AllReadyH.cons (o := { dst := some 113, op := Op.call { callee := Callee.value (Operand.func 35), args := #[Operand.tmp 110, Operand.tmp 112], argTypes := #[32, 32] }, type := 4, pos := "outright.go:185", after := #[{ on := 3, ground := Ground.data }, { on := 5, ground := Ground.data }, { on := 5, ground := Ground.chain }, { on := 1, ground := Ground.guard }], guard := some (1, true) }) rfl (fun K hK => ?_) AllReadyH.nil
          go_simp
          refine (equal_self to so tc sc (rel F) _ R2.out.1.1 R2.out.2.1 R2.out.1.2 R2.out.2.2 hfl.out).mono ?_
          rintro e x3 ⟨rfl, b3⟩
          have d3 : Below VQ3.heap.size VQ3 x3 := d2.trans (b3.mono d2.size)
          clear b3
          (try dsimp only)
          refine hK.out _ _ (KT.out _ d3) (fun hHeld => ?_)
          clear hK K
          (try simp only [Act.put, List.setIfInBounds_toArray, List.set_cons_zero, List.set_cons_succ])
          refine wpAnyH_take (i := 7) (oi := { dst := some 114, op := Op.pick (Operand.tmp 108) (Operand.tmp 113) (Operand.const (Value.bool false)), type := 4, pos := "outright.go:185", after := #[{ on := 1, ground := Ground.data }, { on := 6, ground := Ground.data }], guard := none }) (v := .bool true) rfl (by kernel_rfl) (by kernel_rfl) (by kernel_rfl) (fun _ _ _ h => h) (Or.inl ⟨by kernel_rfl, fun w hSw => ?_⟩) (by assumption) ?_
          · clear hSw; go_simp
          (try simp only [Act.put, List.setIfInBounds_toArray, List.set_cons_zero, List.set_cons_succ])
          refine wpAnyH_take (i := 8) (oi := { dst := some 4, op := Op.assign (Operand.tmp 114), type := 4, pos := "outright.go:185", after := #[{ on := 7, ground := Ground.data }, { on := 6, ground := Ground.chain }, { on := 0, ground := Ground.phase }, { on := 1, ground := Ground.phase }, { on := 2, ground := Ground.phase }, { on := 3, ground := Ground.phase }, { on := 4, ground := Ground.phase }, { on := 5, ground := Ground.phase }, { on := 6, ground := Ground.phase }, { on := 7, ground := Ground.phase }], guard := none }) (v := .bool true) rfl (by kernel_rfl) (by kernel_rfl) (by kernel_rfl) (fun _ _ _ h => h) (Or.inl ⟨by kernel_rfl, fun w hSw => ?_⟩) (by assumption) ?_
          · clear hSw; go_simp
          (try simp only [Act.put, List.setIfInBounds_toArray, List.set_cons_zero, List.set_cons_succ])
          refine wpAnyH_done (by kernel_rfl) ?_ _
          go_wp2_with fail
          go_ret
          exact ⟨rfl, (KI.out _ d3).2.2⟩
end U
end Go.Proofs.Ytdhmommfmmiieaa
