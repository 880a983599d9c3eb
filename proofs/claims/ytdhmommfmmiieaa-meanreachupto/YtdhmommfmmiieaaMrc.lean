import Derived.Test.YtdhmommfmmiieaaRch
import Derived.Test.YtdhmommfmmiieaaThq
import Derived.Deep.RegionHeld3
set_option linter.unusedVariables false
set_option linter.unusedSimpArgs false
namespace Go.Proofs.Ytdhmommfmmiieaa
open Go.RowKit Go.Maps
namespace U
/-- a policy, a rule and a triple in boxes -/
structure Br (F : Pf) (R : Ru) (bv : Bool) (t : X.K3) (q3 q4 q5 : Nat) (w V : World) : Prop where
  b : Below w.heap.size w V
  h3 : V.heap[q3]? = some (.cells F.arr 34 (0, 0))
  h4 : V.heap[q4]? = some (.cells #[.bool bv, .string R.who, .string R.what, .slice R.ro R.rl.length R.rc, .int .i8 R.cd, .float .f64 R.lv] 27 (0, 0))
  h5 : V.heap[q5]? = some (.cells #[.string t.1, .string t.2.1, .string t.2.2] 36 (0, 0))
theorem Br.below {F : Pf} {R : Ru} {bv : Bool} {t : X.K3} {q3 q4 q5 : Nat} {w V V' : World} (h : Br F R bv t q3 q4 q5 w V) (k : Below V.heap.size V V') : Br F R bv t q3 q4 q5 w V' := ⟨h.b.trans (k.mono h.b.size), (k.block _ (lt_of_heap h.h3)).trans h.h3, (k.block _ (lt_of_heap h.h4)).trans h.h4, (k.block _ (lt_of_heap h.h5)).trans h.h5⟩
theorem br_new (F : Pf) (R : Ru) (bv : Bool) (t : X.K3) (w : World) : Br F R bv t w.heap.size (w.heap.size + 1) (w.heap.size + 1 + 1) w (((w.alloc (.cells F.arr 34)).alloc (.cells #[.bool bv, .string R.who, .string R.what, .slice R.ro R.rl.length R.rc, .int .i8 R.cd, .float .f64 R.lv] 27)).alloc (.cells #[.string t.1, .string t.2.1, .string t.2.2] 36)) := by
  have B := allocs_below [.cells F.arr 34, .cells #[.bool bv, .string R.who, .string R.what, .slice R.ro R.rl.length R.rc, .int .i8 R.cd, .float .f64 R.lv] 27, .cells #[.string t.1, .string t.2.1, .string t.2.2] 36] w
  have g := allocs_get [.cells F.arr 34, .cells #[.bool bv, .string R.who, .string R.what, .slice R.ro R.rl.length R.rc, .int .i8 R.cd, .float .f64 R.lv] 27, .cells #[.string t.1, .string t.2.1, .string t.2.2] 36] w
  exact ⟨B, g 0 _ rfl, g 1 _ rfl, g 2 _ rfl⟩
/-- the trust of the first subject of a name among those from a place on; 0: there is none -/
def twf (sl : List Sb) (z : ByteArray) : Nat := (tru sl z).getD 0
theorem twf_step {sl : List Sb} {k : Nat} {u : Sb} (h : sl[k]? = some u) (z : ByteArray) : twf (sl.drop k) z = if u.1 = z then u.2 else twf (sl.drop (k + 1)) z := by
  have e : sl.drop k = u :: sl.drop (k + 1) := by
    have hk := (List.getElem?_eq_some_iff.1 h)
    rw [List.drop_eq_getElem_cons hk.1, hk.2]
  rw [e]
  unfold twf tru
  by_cases q : u.1 = z
  · rw [if_pos q, List.find?_cons_of_pos (by simpa using q)]; rfl
  · rw [if_neg q, List.find?_cons_of_neg (by simpa using q)]
theorem isIn_grow2 {l : List ByteArray} {k : Nat} {z t : ByteArray} (hz : l[k]? = some z) : isIn (l.take (k + 1)) t = (isIn (l.take k) t || decide (z = t)) := isIn_grow hz
/-- what the law says of a rule -/
def wnr (F : Pf) (R : Ru) (t : X.K3) : Bool := thr F t && isIn (N.clo (F.m.2.2 ++ F.i.2.2) t.1) R.who && isIn (N.clo (F.p.2.2 ++ F.w.2.2) t.2.1) R.what && (R.rl.isEmpty || isIn R.rl t.2.2) && M.pass R.cd R.lv (twf F.s.2.2 t.1)
theorem mtc_wnr (F : Pf) (R : Ru) (t : X.K3) : mtc F.po R t.1 t.2.1 t.2.2 = wnr F R t := by
  cases h : thr F t with
  | false => rw [mtc_thr h]; unfold wnr; rw [h]; rfl
  | true =>
    unfold wnr
    rw [h]
    unfold thr at h
    rw [Bool.and_eq_true, Bool.and_eq_true] at h
    obtain ⟨⟨h1, h2⟩, h3⟩ := h
    have e : ∃ tr, tru F.s.2.2 t.1 = some tr := by
      cases q : tru F.s.2.2 t.1 with
      | some tr => exact ⟨tr, rfl⟩
      | none =>
        exfalso
        unfold tru at q
        rw [Option.map_eq_none_iff, List.find?_eq_none] at q
        rw [isIn_mem] at h1
        obtain ⟨u, hu, hu2⟩ := List.mem_map.1 h1
        exact q u hu (by simpa using hu2)
    obtain ⟨tr, etr⟩ := e
    have e2 : twf F.s.2.2 t.1 = tr := by unfold twf; rw [etr]; rfl
    rw [e2]
    unfold mtc
    show (isIn F.a.2.2 t.2.2 && (R.rl.isEmpty || isIn R.rl t.2.2) && (match tru F.s.2.2 t.1 with | some t' => isIn (N.clo (F.m.2.2 ++ F.i.2.2) t.1) R.who && M.pass R.cd R.lv t' | none => false) && (isIn F.o.2.2 t.2.1 && isIn (N.clo (F.p.2.2 ++ F.w.2.2) t.2.1) R.what)) = _
    rw [etr, h2, h3]
    dsimp only
    generalize isIn (N.clo (F.m.2.2 ++ F.i.2.2) t.1) R.who = b1
    generalize isIn (N.clo (F.p.2.2 ++ F.w.2.2) t.2.1) R.what = b2
    generalize (R.rl.isEmpty || isIn R.rl t.2.2) = b3
    generalize M.pass R.cd R.lv tr = b4
    cases b1 <;> cases b2 <;> cases b3 <;> cases b4 <;> rfl
theorem len_in {l : Nat} {b : Bool} (h : 0 < l ↔ b = true) : (b = true → (0 : Int) < (l : Int)) ∧ (b = false → ¬ (0 : Int) < (l : Int)) := by
  refine ⟨fun e => by have := h.2 e; omega, fun e q => ?_⟩
  have := h.1 (by omega)
  rw [e] at this; cases this
set_option maxRecDepth 100000 in
set_option maxHeartbeats 16000000 in
theorem meanReach_walk (F : Pf) (Nn : Nat) (R : Ru) (bv : Bool) (t : X.K3) (w : World) (h : F.In w) (f : Fine F Nn) (hb : R.d = .bool bv) (hr : Ok3 S.Ints (R.ro, R.rc, R.rl) w) (hz : R.who.size ≤ 1048576 ∧ R.what.size ≤ 1048576 ∧ R.rl.length ≤ 1048576) (ht : t.1.size ≤ 1048576 ∧ t.2.1.size ≤ 1048576 ∧ t.2.2.size ≤ 1048576) : Calls Try.prog 14 #[.agg F.arr, .agg #[.bool bv, .string R.who, .string R.what, .slice R.ro R.rl.length R.rc, .int .i8 R.cd, .float .f64 R.lv], .agg #[.string t.1, .string t.2.1, .string t.2.2]] w fun e w' => e = .returned (.bool true) ∧ Below w.heap.size w w' := by
  have H := hide' h
  have Hf := hide' f
  have Hr := hide' (And.intro hb (And.intro hr (And.intro hz ht)))
  have hsl : (F.s.2.2.length : Int) ≤ 1048576 := by have := f.s; have := f.n; omega
  have hrl : (R.rl.length : Int) ≤ 1048576 := by omega
  have csl := h.s.2.1
  have crl : R.rl.length ≤ R.rc := hr.2.1
  clear h f hb hr hz ht
  go_enter Try.func14, Try.ntmps14
  go_wp2_with fail
  have B0 := hide' (br_new F R bv t w)
  generalize ((w.alloc (.cells F.arr 34)).alloc (.cells #[.bool bv, .string R.who, .string R.what, .slice R.ro R.rl.length R.rc, .int .i8 R.cd, .float .f64 R.lv] 27)).alloc (.cells #[.string t.1, .string t.2.1, .string t.2.2] 36) = V at *
  obtain ⟨q3, hq3⟩ : ∃ q3, q3 = w.heap.size := ⟨_, rfl⟩
  generalize hq5 : w.heap.size + 1 + 1 = q5 at *
  generalize hq4 : w.heap.size + 1 = q4 at *
  rw [← hq3] at B0
  rw [← hq3]
  clear hq3 hq4 hq5
  refine (alive_any V).mono ?_
  rintro e V1 ⟨rfl, b1⟩
  have B1 := hide' (B0.out.below b1)
  clear B0 b1 V
  go_wp2_with fail
  have KT : Hid (∀ W, Below V1.heap.size V1 W → (fun W' => W'.cell? ⟨q3, 5, none⟩ = some (.slice F.m.1 F.m.2.2.length F.m.2.1) ∧ W'.cell? ⟨q3, 6, none⟩ = some (.slice F.i.1 F.i.2.2.length F.i.2.1) ∧ W'.cell? ⟨q5, 0, none⟩ = some (.string t.1) ∧ W'.cell? ⟨q4, 1, none⟩ = some (.string R.who)) W) := fun W b => by
    have k := B1.out.below b
    exact ⟨by rw [Lib.cell_of_heap k.h3]; rfl, by rw [Lib.cell_of_heap k.h3]; rfl, by rw [Lib.cell_of_heap k.h5]; rfl, by rw [Lib.cell_of_heap k.h4]; rfl⟩
  have d0 : Below V1.heap.size V1 V1.drew := ⟨rfl, rfl, rfl, Nat.le_refl _, fun _ _ => rfl⟩
  refine wp_region_held_drew (S := (fun W' => W'.cell? ⟨q3, 5, none⟩ = some (.slice F.m.1 F.m.2.2.length F.m.2.1) ∧ W'.cell? ⟨q3, 6, none⟩ = some (.slice F.i.1 F.i.2.2.length F.i.2.1) ∧ W'.cell? ⟨q5, 0, none⟩ = some (.string t.1) ∧ W'.cell? ⟨q4, 1, none⟩ = some (.string R.who))) (by kernel_rfl) (KT.out _ d0) (fun hHeld => ?_)
  refine wpAnyH_take (i := 0) (oi := { dst := some 16, op := Op.fieldAddr 34 (Operand.tmp 3) 5, type := 0, pos := "outright.go:265", after := #[], guard := none }) (v := .pointer (some ⟨q3, 5, none⟩)) rfl (by kernel_rfl) (by kernel_rfl) (by kernel_rfl) (fun _ _ _ h => h) (Or.inl ⟨by kernel_rfl, fun w hSw => ?_⟩) (by assumption) ?_
  · clear hSw; go_simp
  (try simp only [Act.put, List.setIfInBounds_toArray, List.set_cons_zero, List.set_cons_succ])
  refine wpAnyH_take (i := 1) (oi := { dst := some 17, op := Op.load 30 (Operand.tmp 16), type := 30, pos := "outright.go:265", after := #[{ on := 0, ground := Ground.data }], guard := none }) (v := .slice F.m.1 F.m.2.2.length F.m.2.1) rfl (by kernel_rfl) (by kernel_rfl) (by kernel_rfl) (fun _ _ _ h => h) (Or.inl ⟨by kernel_rfl, fun w hSw => ?_⟩) (by assumption) ?_
  · have h0 := hSw.1; clear hSw; go_simp
  (try simp only [Act.put, List.setIfInBounds_toArray, List.set_cons_zero, List.set_cons_succ])
  refine wpAnyH_take (i := 2) (oi := { dst := some 18, op := Op.fieldAddr 34 (Operand.tmp 3) 6, type := 0, pos := "outright.go:265", after := #[], guard := none }) (v := .pointer (some ⟨q3, 6, none⟩)) rfl (by kernel_rfl) (by kernel_rfl) (by kernel_rfl) (fun _ _ _ h => h) (Or.inl ⟨by kernel_rfl, fun w hSw => ?_⟩) (by assumption) ?_
  · clear hSw; go_simp
  (try simp only [Act.put, List.setIfInBounds_toArray, List.set_cons_zero, List.set_cons_succ])
  refine wpAnyH_take (i := 3) (oi := { dst := some 19, op := Op.load 30 (Operand.tmp 18), type := 30, pos := "outright.go:265", after := #[{ on := 2, ground := Ground.data }], guard := none }) (v := .slice F.i.1 F.i.2.2.length F.i.2.1) rfl (by kernel_rfl) (by kernel_rfl) (by kernel_rfl) (fun _ _ _ h => h) (Or.inl ⟨by kernel_rfl, fun w hSw => ?_⟩) (by assumption) ?_
  · have h0 := hSw.2.1; clear hSw; go_simp
  (try simp only [Act.put, List.setIfInBounds_toArray, List.set_cons_zero, List.set_cons_succ])
  refine wpAnyH_take (i := 5) (oi := { dst := some 21, op := Op.fieldAddr 36 (Operand.tmp 5) 0, type := 0, pos := "outright.go:265", after := #[], guard := none }) (v := .pointer (some ⟨q5, 0, none⟩)) rfl (by kernel_rfl) (by kernel_rfl) (by kernel_rfl) (fun _ _ _ h => h) (Or.inl ⟨by kernel_rfl, fun w hSw => ?_⟩) (by assumption) ?_
  · clear hSw; go_simp
  (try simp only [Act.put, List.setIfInBounds_toArray, List.set_cons_zero, List.set_cons_succ])
  refine wpAnyH_take (i := 6) (oi := { dst := some 22, op := Op.load 9 (Operand.tmp 21), type := 9, pos := "outright.go:265", after := #[{ on := 5, ground := Ground.data }], guard := none }) (v := .string t.1) rfl (by kernel_rfl) (by kernel_rfl) (by kernel_rfl) (fun _ _ _ h => h) (Or.inl ⟨by kernel_rfl, fun w hSw => ?_⟩) (by assumption) ?_
  · have h0 := hSw.2.2.1; clear hSw; go_simp
  (try simp only [Act.put, List.setIfInBounds_toArray, List.set_cons_zero, List.set_cons_succ])
  refine wpAnyH_take (i := 7) (oi := { dst := some 23, op := Op.fieldAddr 27 (Operand.tmp 4) 1, type := 0, pos := "outright.go:265", after := #[], guard := none }) (v := .pointer (some ⟨q4, 1, none⟩)) rfl (by kernel_rfl) (by kernel_rfl) (by kernel_rfl) (fun _ _ _ h => h) (Or.inl ⟨by kernel_rfl, fun w hSw => ?_⟩) (by assumption) ?_
  · clear hSw; go_simp
  (try simp only [Act.put, List.setIfInBounds_toArray, List.set_cons_zero, List.set_cons_succ])
  refine wpAnyH_take (i := 8) (oi := { dst := some 24, op := Op.load 9 (Operand.tmp 23), type := 9, pos := "outright.go:265", after := #[{ on := 7, ground := Ground.data }], guard := none }) (v := .string R.who) rfl (by kernel_rfl) (by kernel_rfl) (by kernel_rfl) (fun _ _ _ h => h) (Or.inl ⟨by kernel_rfl, fun w hSw => ?_⟩) (by assumption) ?_
  · have h0 := hSw.2.2.2; clear hSw; go_simp
  (try simp only [Act.put, List.setIfInBounds_toArray, List.set_cons_zero, List.set_cons_succ])
  refine wpAnyH_ready (rs := [4]) (by kernel_rfl) (by simp) ?_
  refine AllReadyH.cons (o := { dst := some 20, op := Op.call { callee := Callee.value (Operand.func 41), args := #[Operand.tmp 17, Operand.tmp 19], argTypes := #[30, 30] }, type := 30, pos := "outright.go:265", after := #[{ on := 1, ground := Ground.data }, { on := 3, ground := Ground.data }], guard := none }) rfl (fun K hK => ?_) AllReadyH.nil
  go_simp
  refine (joined_any F.m F.i _ (H.out.below (B1.out.below d0).b).m (H.out.below (B1.out.below d0).b).i (Nat.le_trans Hf.out.mi Hf.out.n)).mono ?_
  rintro e x1 ⟨o1, c1, rfl, r1, b1⟩
  have d1 : Below V1.heap.size V1 x1 := d0.trans (b1.mono d0.size)
  have R1 := hide' r1
  clear r1 b1
  (try dsimp only)
  refine hK.out _ _ (KT.out _ d1) (fun hHeld => ?_)
  clear hK K
  (try simp only [Act.put, List.setIfInBounds_toArray, List.set_cons_zero, List.set_cons_succ])
  refine wpAnyH_ready (rs := [9]) (by kernel_rfl) (by simp) ?_
  refine AllReadyH.cons (o := { dst := some 25, op := Op.call { callee := Callee.value (Operand.func 40), args := #[Operand.tmp 20, Operand.tmp 22, Operand.tmp 24], argTypes := #[30, 9, 9] }, type := 25, pos := "outright.go:265", after := #[{ on := 4, ground := Ground.data }, { on := 6, ground := Ground.data }, { on := 8, ground := Ground.data }, { on := 4, ground := Ground.chain }], guard := none }) rfl (fun K hK => ?_) AllReadyH.nil
  go_simp
  refine (pathlen_any o1 c1 (F.m.2.2.length + F.i.2.2.length) (F.m.2.2 ++ F.i.2.2) List.length_append t.1 R.who _ R1.out.ints (by have := R1.out.cap; rw [List.length_append] at this; exact this) (fun p hp => by have := Hf.out.n; have q := Hf.out.zm p hp; exact ⟨by omega, by omega⟩) Hr.out.2.2.2.1 Hr.out.2.2.1.1 (Nat.le_trans Hf.out.mi Hf.out.n)).mono ?_
  rintro e x2 ⟨o1, l1, k1, rfl, E1, b2⟩
  have d2 : Below V1.heap.size V1 x2 := d1.trans (b2.mono d1.size)
  clear b2 R1
  (try dsimp only)
  refine hK.out _ _ (KT.out _ d2) (fun hHeld => ?_)
  clear hK K
  (try simp only [Act.put, List.setIfInBounds_toArray, List.set_cons_zero, List.set_cons_succ])
  refine wpAnyH_take (i := 10) (oi := { dst := some 8, op := Op.assign (Operand.tmp 25), type := 25, pos := "outright.go:265", after := #[{ on := 9, ground := Ground.data }, { on := 9, ground := Ground.chain }, { on := 0, ground := Ground.phase }, { on := 1, ground := Ground.phase }, { on := 2, ground := Ground.phase }, { on := 3, ground := Ground.phase }, { on := 4, ground := Ground.phase }, { on := 5, ground := Ground.phase }, { on := 6, ground := Ground.phase }, { on := 7, ground := Ground.phase }, { on := 8, ground := Ground.phase }, { on := 9, ground := Ground.phase }], guard := none }) (v := .slice o1 l1 k1) rfl (by kernel_rfl) (by kernel_rfl) (by kernel_rfl) (fun _ _ _ h => h) (Or.inl ⟨by kernel_rfl, fun w hSw => ?_⟩) (by assumption) ?_
  · clear hSw; go_simp
  (try simp only [Act.put, List.setIfInBounds_toArray, List.set_cons_zero, List.set_cons_succ])
  refine wpAnyH_done (by kernel_rfl) ?_ _
  have B2 := hide' (B1.out.below d2)
  clear KT d0 d1 d2 B1
  go_wp2_with fail
  have KT : Hid (∀ W, Below x2.heap.size x2 W → (fun W' => W'.cell? ⟨q3, 7, none⟩ = some (.slice F.p.1 F.p.2.2.length F.p.2.1) ∧ W'.cell? ⟨q3, 8, none⟩ = some (.slice F.w.1 F.w.2.2.length F.w.2.1) ∧ W'.cell? ⟨q5, 1, none⟩ = some (.string t.2.1) ∧ W'.cell? ⟨q4, 2, none⟩ = some (.string R.what)) W) := fun W b => by
    have k := B2.out.below b
    exact ⟨by rw [Lib.cell_of_heap k.h3]; rfl, by rw [Lib.cell_of_heap k.h3]; rfl, by rw [Lib.cell_of_heap k.h5]; rfl, by rw [Lib.cell_of_heap k.h4]; rfl⟩
  have d0 : Below x2.heap.size x2 x2.drew := ⟨rfl, rfl, rfl, Nat.le_refl _, fun _ _ => rfl⟩
  refine wp_region_held_drew (S := (fun W' => W'.cell? ⟨q3, 7, none⟩ = some (.slice F.p.1 F.p.2.2.length F.p.2.1) ∧ W'.cell? ⟨q3, 8, none⟩ = some (.slice F.w.1 F.w.2.2.length F.w.2.1) ∧ W'.cell? ⟨q5, 1, none⟩ = some (.string t.2.1) ∧ W'.cell? ⟨q4, 2, none⟩ = some (.string R.what))) (by kernel_rfl) (KT.out _ d0) (fun hHeld => ?_)
  refine wpAnyH_take (i := 0) (oi := { dst := some 26, op := Op.fieldAddr 34 (Operand.tmp 3) 7, type := 0, pos := "outright.go:266", after := #[], guard := none }) (v := .pointer (some ⟨q3, 7, none⟩)) rfl (by kernel_rfl) (by kernel_rfl) (by kernel_rfl) (fun _ _ _ h => h) (Or.inl ⟨by kernel_rfl, fun w hSw => ?_⟩) (by assumption) ?_
  · clear hSw; go_simp
  (try simp only [Act.put, List.setIfInBounds_toArray, List.set_cons_zero, List.set_cons_succ])
  refine wpAnyH_take (i := 1) (oi := { dst := some 27, op := Op.load 30 (Operand.tmp 26), type := 30, pos := "outright.go:266", after := #[{ on := 0, ground := Ground.data }], guard := none }) (v := .slice F.p.1 F.p.2.2.length F.p.2.1) rfl (by kernel_rfl) (by kernel_rfl) (by kernel_rfl) (fun _ _ _ h => h) (Or.inl ⟨by kernel_rfl, fun w hSw => ?_⟩) (by assumption) ?_
  · have h0 := hSw.1; clear hSw; go_simp
  (try simp only [Act.put, List.setIfInBounds_toArray, List.set_cons_zero, List.set_cons_succ])
  refine wpAnyH_take (i := 2) (oi := { dst := some 28, op := Op.fieldAddr 34 (Operand.tmp 3) 8, type := 0, pos := "outright.go:266", after := #[], guard := none }) (v := .pointer (some ⟨q3, 8, none⟩)) rfl (by kernel_rfl) (by kernel_rfl) (by kernel_rfl) (fun _ _ _ h => h) (Or.inl ⟨by kernel_rfl, fun w hSw => ?_⟩) (by assumption) ?_
  · clear hSw; go_simp
  (try simp only [Act.put, List.setIfInBounds_toArray, List.set_cons_zero, List.set_cons_succ])
  refine wpAnyH_take (i := 3) (oi := { dst := some 29, op := Op.load 30 (Operand.tmp 28), type := 30, pos := "outright.go:266", after := #[{ on := 2, ground := Ground.data }], guard := none }) (v := .slice F.w.1 F.w.2.2.length F.w.2.1) rfl (by kernel_rfl) (by kernel_rfl) (by kernel_rfl) (fun _ _ _ h => h) (Or.inl ⟨by kernel_rfl, fun w hSw => ?_⟩) (by assumption) ?_
  · have h0 := hSw.2.1; clear hSw; go_simp
  (try simp only [Act.put, List.setIfInBounds_toArray, List.set_cons_zero, List.set_cons_succ])
  refine wpAnyH_take (i := 5) (oi := { dst := some 31, op := Op.fieldAddr 36 (Operand.tmp 5) 1, type := 0, pos := "outright.go:266", after := #[], guard := none }) (v := .pointer (some ⟨q5, 1, none⟩)) rfl (by kernel_rfl) (by kernel_rfl) (by kernel_rfl) (fun _ _ _ h => h) (Or.inl ⟨by kernel_rfl, fun w hSw => ?_⟩) (by assumption) ?_
  · clear hSw; go_simp
  (try simp only [Act.put, List.setIfInBounds_toArray, List.set_cons_zero, List.set_cons_succ])
  refine wpAnyH_take (i := 6) (oi := { dst := some 32, op := Op.load 9 (Operand.tmp 31), type := 9, pos := "outright.go:266", after := #[{ on := 5, ground := Ground.data }], guard := none }) (v := .string t.2.1) rfl (by kernel_rfl) (by kernel_rfl) (by kernel_rfl) (fun _ _ _ h => h) (Or.inl ⟨by kernel_rfl, fun w hSw => ?_⟩) (by assumption) ?_
  · have h0 := hSw.2.2.1; clear hSw; go_simp
  (try simp only [Act.put, List.setIfInBounds_toArray, List.set_cons_zero, List.set_cons_succ])
  refine wpAnyH_take (i := 7) (oi := { dst := some 33, op := Op.fieldAddr 27 (Operand.tmp 4) 2, type := 0, pos := "outright.go:266", after := #[], guard := none }) (v := .pointer (some ⟨q4, 2, none⟩)) rfl (by kernel_rfl) (by kernel_rfl) (by kernel_rfl) (fun _ _ _ h => h) (Or.inl ⟨by kernel_rfl, fun w hSw => ?_⟩) (by assumption) ?_
  · clear hSw; go_simp
  (try simp only [Act.put, List.setIfInBounds_toArray, List.set_cons_zero, List.set_cons_succ])
  refine wpAnyH_take (i := 8) (oi := { dst := some 34, op := Op.load 9 (Operand.tmp 33), type := 9, pos := "outright.go:266", after := #[{ on := 7, ground := Ground.data }], guard := none }) (v := .string R.what) rfl (by kernel_rfl) (by kernel_rfl) (by kernel_rfl) (fun _ _ _ h => h) (Or.inl ⟨by kernel_rfl, fun w hSw => ?_⟩) (by assumption) ?_
  · have h0 := hSw.2.2.2; clear hSw; go_simp
  (try simp only [Act.put, List.setIfInBounds_toArray, List.set_cons_zero, List.set_cons_succ])
  refine wpAnyH_ready (rs := [4]) (by kernel_rfl) (by simp) ?_
  refine AllReadyH.cons (o := { dst := some 30, op := Op.call { callee := Callee.value (Operand.func 41), args := #[Operand.tmp 27, Operand.tmp 29], argTypes := #[30, 30] }, type := 30, pos := "outright.go:266", after := #[{ on := 1, ground := Ground.data }, { on := 3, ground := Ground.data }], guard := none }) rfl (fun K hK => ?_) AllReadyH.nil
  go_simp
  refine (joined_any F.p F.w _ (H.out.below (B2.out.below d0).b).p (H.out.below (B2.out.below d0).b).w (Nat.le_trans Hf.out.pw Hf.out.n)).mono ?_
  rintro e y1 ⟨o1, c1, rfl, r1, b1⟩
  have d1 : Below x2.heap.size x2 y1 := d0.trans (b1.mono d0.size)
  have R1 := hide' r1
  clear r1 b1
  (try dsimp only)
  refine hK.out _ _ (KT.out _ d1) (fun hHeld => ?_)
  clear hK K
  (try simp only [Act.put, List.setIfInBounds_toArray, List.set_cons_zero, List.set_cons_succ])
  refine wpAnyH_ready (rs := [9]) (by kernel_rfl) (by simp) ?_
  refine AllReadyH.cons (o := { dst := some 35, op := Op.call { callee := Callee.value (Operand.func 40), args := #[Operand.tmp 30, Operand.tmp 32, Operand.tmp 34], argTypes := #[30, 9, 9] }, type := 25, pos := "outright.go:266", after := #[{ on := 4, ground := Ground.data }, { on := 6, ground := Ground.data }, { on := 8, ground := Ground.data }, { on := 4, ground := Ground.chain }], guard := none }) rfl (fun K hK => ?_) AllReadyH.nil
  go_simp
  refine (pathlen_any o1 c1 (F.p.2.2.length + F.w.2.2.length) (F.p.2.2 ++ F.w.2.2) List.length_append t.2.1 R.what _ R1.out.ints (by have := R1.out.cap; rw [List.length_append] at this; exact this) (fun p hp => by have := Hf.out.n; have q := Hf.out.zp p hp; exact ⟨by omega, by omega⟩) Hr.out.2.2.2.2.1 Hr.out.2.2.1.2.1 (Nat.le_trans Hf.out.pw Hf.out.n)).mono ?_
  rintro e y2 ⟨o2, l2, k2, rfl, E2, b2⟩
  have d2 : Below x2.heap.size x2 y2 := d1.trans (b2.mono d1.size)
  clear b2 R1
  (try dsimp only)
  refine hK.out _ _ (KT.out _ d2) (fun hHeld => ?_)
  clear hK K
  (try simp only [Act.put, List.setIfInBounds_toArray, List.set_cons_zero, List.set_cons_succ])
  refine wpAnyH_take (i := 10) (oi := { dst := some 9, op := Op.assign (Operand.tmp 35), type := 25, pos := "outright.go:266", after := #[{ on := 9, ground := Ground.data }, { on := 9, ground := Ground.chain }, { on := 0, ground := Ground.phase }, { on := 1, ground := Ground.phase }, { on := 2, ground := Ground.phase }, { on := 3, ground := Ground.phase }, { on := 4, ground := Ground.phase }, { on := 5, ground := Ground.phase }, { on := 6, ground := Ground.phase }, { on := 7, ground := Ground.phase }, { on := 8, ground := Ground.phase }, { on := 9, ground := Ground.phase }], guard := none }) (v := .slice o2 l2 k2) rfl (by kernel_rfl) (by kernel_rfl) (by kernel_rfl) (fun _ _ _ h => h) (Or.inl ⟨by kernel_rfl, fun w hSw => ?_⟩) (by assumption) ?_
  · clear hSw; go_simp
  (try simp only [Act.put, List.setIfInBounds_toArray, List.set_cons_zero, List.set_cons_succ])
  refine wpAnyH_done (by kernel_rfl) ?_ _
  have B3 := hide' (B2.out.below d2)
  clear KT d0 d1 d2 B2
  have L1 := hide' (len_in E1.out.1)
  have L2 := hide' (len_in E2.out.1)
  have z1 : (l1 : Int) ≤ 2097153 := by have := E1.out.2; omega
  have z2 : (l2 : Int) ≤ 2097153 := by have := E2.out.2; omega
  clear E1 E2
  have hBc : Hid (∀ W, Br F R bv t q3 q4 q5 w W → W.cell? ⟨q3, 1, none⟩ = some (.slice F.s.1 F.s.2.2.length F.s.2.1) ∧ W.cell? ⟨q5, 0, none⟩ = some (.string t.1) ∧ W.cell? ⟨q4, 3, none⟩ = some (.slice R.ro R.rl.length R.rc) ∧ W.cell? ⟨q5, 2, none⟩ = some (.string t.2.2)) := fun W k => ⟨by rw [Lib.cell_of_heap k.h3]; rfl, by rw [Lib.cell_of_heap k.h5]; rfl, by rw [Lib.cell_of_heap k.h4]; rfl, by rw [Lib.cell_of_heap k.h5]; rfl⟩
  obtain ⟨e1, e2, e3, e4⟩ := hBc.out _ B3.out
  go_wp2_with fail
  clear e1 e2 e3 e4
  go_loopw [10, 11] (fun tv iv wx => ∃ k : Nat, k ≤ F.s.2.2.length ∧ iv = .int .i64 ((k : Int) - 1) ∧ tv = .float .f64 (twf (F.s.2.2.drop k) t.1) ∧ Hid (Br F R bv t q3 q4 q5 w wx)) (fun _ iv _ => (intOf iv + 1).toNat)
  case atStart => exact ⟨F.s.2.2.length, Nat.le_refl _, by go_num, by rw [List.drop_length]; rfl, B3⟩
  case round =>
    obtain ⟨k, hk, rfl, rfl, UU⟩ := hrel
    clear B3
    obtain ⟨e1, e2, e3, e4⟩ := hBc.out _ UU.out
    cases k with
    | succ j =>
      have ej : ((j + 1 : Nat) : Int) - 1 = (j : Int) := by omega
      rw [ej]
      have hj0 : (0 : Int) ≤ (j : Int) := by omega
      have hjl : (j : Int) < (F.s.2.2.length : Int) := by omega
      obtain ⟨u, hu⟩ : ∃ u, F.s.2.2[j]? = some u := ⟨_, List.getElem?_eq_getElem (by omega)⟩
      obtain ⟨y, off, hy, hyl, d1, d2⟩ := (H.out.below UU.out.b).s.1.at hu
      have ST := hide' (twf_step hu t.1)
      rw [hy] at e1
      clear hu hy hyl ej e3 e4
      generalize twf (F.s.2.2.drop (j + 1)) t.1 = tv0 at *
      by_cases q : u.1 = t.1
      · have g1 : (u.1.toList == t.1.toList) = true := by rw [q]; exact text_eq _
        rw [if_pos q] at ST
        clear q
        go_wp2_with fail
        go_quiet (fail)
        have UV := hide' (UU.out.below (bdrew wr nq))
        clear UU
        have g2 : (wr.drewN nq).cell? ⟨q3, 1, none⟩ = some (.slice (some ⟨y, off, none⟩) F.s.2.2.length F.s.2.1) := e1
        have g3 : (wr.drewN nq).cell? ⟨y, off + j * 2 + 1, none⟩ = some (.float .f64 u.2) := d2
        clear e1 e2 d1 d2
        generalize wr.drewN nq = wq at *
        go_wp2_with fail
        exact ⟨⟨j, by omega, by go_num, by rw [ST.out], UV⟩, by simp [intOf] <;> omega⟩
      · have g1 : (u.1.toList == t.1.toList) = false := text_ne q
        rw [if_neg q] at ST
        clear q
        go_wp2_with fail
        go_quiet (fail)
        go_wp2_with fail
        exact ⟨⟨j, by omega, by go_num, by rw [ST.out], UU.out.below (bdrew wr nq)⟩, by simp [intOf] <;> omega⟩
    | zero =>
      have hn : ¬ (0 : Int) ≤ ((0 : Nat) : Int) - 1 := by omega
      rw [List.drop_zero]
      obtain ⟨tw, htw⟩ : ∃ tw, tw = twf F.s.2.2 t.1 := ⟨_, rfl⟩
      rw [← htw]
      have Htw := hide' htw
      clear htw
      cases hre : R.rl.isEmpty with
      | true =>
        have Hre := hide' hre
        have hl0 : (R.rl.length : Int) = 0 := by rw [List.isEmpty_iff] at hre; rw [hre]; rfl
        clear hre
        go_wp2_with fail
        clear e1 e2 e3 e4
        go_loopw [12, 13] (fun av iv wx => ∃ i : Nat, iv = .int .i64 (i : Int) ∧ i ≤ R.rl.length ∧ av = .bool (true) ∧ Hid (Br F R bv t q3 q4 q5 w wx)) (fun _ iv _ => R.rl.length - (intOf iv).toNat)
        case atStart => exact ⟨0, rfl, Nat.zero_le _, by rfl, UU⟩
        case round =>
          obtain ⟨i, rfl, hi, rfl, UV⟩ := hrel
          clear UU
          obtain ⟨e1, e2, e3, e4⟩ := hBc.out _ UV.out
          clear e1 e2
          have hlt' : ¬ (i : Int) < (R.rl.length : Int) := by omega
          clear hi
          have Hav : Hid (true = (R.rl.isEmpty || isIn R.rl t.2.2)) := by show _ = _; rw [Hre.out]; rfl
          go_wp2_with (with_reducible refine stay_load 34 _ rfl ?_)
          unfold Stay
          refine wpList_load_row rfl 34 _ rfl q3 rfl 34 F.arr (0, 0) _ UV.out.h3 Try.underlying34 rfl (size_arr F) ?_
          go_wp2_with (with_reducible refine stay_load 36 _ rfl ?_)
          unfold Stay
          refine wpList_load_row rfl 36 _ rfl q5 rfl 36 #[.string t.1, .string t.2.1, .string t.2.2] (0, 0) _ UV.out.h5 Try.underlying36 rfl (by kernel_rfl) ?_
          go_wp2_with fail
          refine (there_any F t _ (H.out.below UV.out.b) Hf.out.small).mono ?_
          rintro e Wt ⟨rfl, bt⟩
          have BT := hide' (UV.out.below bt)
          clear bt
          have MW := hide' (mtc_wnr F R t)
          cases hth : thr F t with
          | false =>
            have HM : Hid (mtc F.po R t.1 t.2.1 t.2.2 = false) := by show _ = _; rw [MW.out]; unfold wnr; rw [hth]; rfl
            clear hth MW
            go_wp2_with (with_reducible refine stay_load 34 _ rfl ?_)
            unfold Stay
            refine wpList_load_w (by kernel_rfl) 34 _ rfl q3 rfl 34 F.arr (0, 0) _ BT.out.h3 Try.underlying34 rfl (size_arr F) ?_
            go_wp2_with (with_reducible refine stay_load 27 _ rfl ?_)
            unfold Stay
            refine wpList_load_w (by kernel_rfl) 27 _ rfl q4 rfl 27 #[.bool bv, .string R.who, .string R.what, .slice R.ro R.rl.length R.rc, .int .i8 R.cd, .float .f64 R.lv] (0, 0) _ BT.out.h4 Try.underlying27 rfl (by kernel_rfl) ?_
            go_wp2_with (with_reducible refine stay_load 36 _ rfl ?_)
            unfold Stay
            refine wpList_load_w (by kernel_rfl) 36 _ rfl q5 rfl 36 #[.string t.1, .string t.2.1, .string t.2.2] (0, 0) _ BT.out.h5 Try.underlying36 rfl (by kernel_rfl) ?_
            go_wp2_with fail
            refine (mtc_call F Nn R bv t.1 t.2.1 t.2.2 _ (H.out.below BT.out.b) Hf.out Hr.out.1 ⟨Hr.out.2.1.1.below BT.out.b, Hr.out.2.1.2⟩ ⟨Hr.out.2.2.2.1, Hr.out.2.2.2.2.1, Hr.out.2.2.1.1, Hr.out.2.2.1.2.1, Hr.out.2.2.1.2.2⟩).mono ?_
            rintro e Wz ⟨rfl, bz⟩
            rw [HM.out]
            have Bz := hide' (BT.out.below bz)
            clear bz
            go_wp2_with fail
            go_ret
            exact ⟨rfl, Bz.out.b⟩
          | true =>
          cases hw1 : isIn (N.clo (F.m.2.2 ++ F.i.2.2) t.1) R.who with
          | false =>
            have HM : Hid (mtc F.po R t.1 t.2.1 t.2.2 = false) := by show _ = _; rw [MW.out]; unfold wnr; rw [hth, hw1]; rfl
            have g1 := L1.out.2 hw1
            clear hth hw1 MW
            go_wp2_with (with_reducible refine stay_load 34 _ rfl ?_)
            unfold Stay
            refine wpList_load_w (by kernel_rfl) 34 _ rfl q3 rfl 34 F.arr (0, 0) _ BT.out.h3 Try.underlying34 rfl (size_arr F) ?_
            go_wp2_with (with_reducible refine stay_load 27 _ rfl ?_)
            unfold Stay
            refine wpList_load_w (by kernel_rfl) 27 _ rfl q4 rfl 27 #[.bool bv, .string R.who, .string R.what, .slice R.ro R.rl.length R.rc, .int .i8 R.cd, .float .f64 R.lv] (0, 0) _ BT.out.h4 Try.underlying27 rfl (by kernel_rfl) ?_
            go_wp2_with (with_reducible refine stay_load 36 _ rfl ?_)
            unfold Stay
            refine wpList_load_w (by kernel_rfl) 36 _ rfl q5 rfl 36 #[.string t.1, .string t.2.1, .string t.2.2] (0, 0) _ BT.out.h5 Try.underlying36 rfl (by kernel_rfl) ?_
            go_wp2_with fail
            refine (mtc_call F Nn R bv t.1 t.2.1 t.2.2 _ (H.out.below BT.out.b) Hf.out Hr.out.1 ⟨Hr.out.2.1.1.below BT.out.b, Hr.out.2.1.2⟩ ⟨Hr.out.2.2.2.1, Hr.out.2.2.2.2.1, Hr.out.2.2.1.1, Hr.out.2.2.1.2.1, Hr.out.2.2.1.2.2⟩).mono ?_
            rintro e Wz ⟨rfl, bz⟩
            rw [HM.out]
            have Bz := hide' (BT.out.below bz)
            clear bz
            go_wp2_with fail
            go_ret
            exact ⟨rfl, Bz.out.b⟩
          | true =>
          have g1 := L1.out.1 hw1
          cases hw2 : isIn (N.clo (F.p.2.2 ++ F.w.2.2) t.2.1) R.what with
          | false =>
            have HM : Hid (mtc F.po R t.1 t.2.1 t.2.2 = false) := by show _ = _; rw [MW.out]; unfold wnr; rw [hth, hw1, hw2]; rfl
            have g2 := L2.out.2 hw2
            clear hth hw1 hw2 MW
            go_wp2_with (with_reducible refine stay_load 34 _ rfl ?_)
            unfold Stay
            refine wpList_load_w (by kernel_rfl) 34 _ rfl q3 rfl 34 F.arr (0, 0) _ BT.out.h3 Try.underlying34 rfl (size_arr F) ?_
            go_wp2_with (with_reducible refine stay_load 27 _ rfl ?_)
            unfold Stay
            refine wpList_load_w (by kernel_rfl) 27 _ rfl q4 rfl 27 #[.bool bv, .string R.who, .string R.what, .slice R.ro R.rl.length R.rc, .int .i8 R.cd, .float .f64 R.lv] (0, 0) _ BT.out.h4 Try.underlying27 rfl (by kernel_rfl) ?_
            go_wp2_with (with_reducible refine stay_load 36 _ rfl ?_)
            unfold Stay
            refine wpList_load_w (by kernel_rfl) 36 _ rfl q5 rfl 36 #[.string t.1, .string t.2.1, .string t.2.2] (0, 0) _ BT.out.h5 Try.underlying36 rfl (by kernel_rfl) ?_
            go_wp2_with fail
            refine (mtc_call F Nn R bv t.1 t.2.1 t.2.2 _ (H.out.below BT.out.b) Hf.out Hr.out.1 ⟨Hr.out.2.1.1.below BT.out.b, Hr.out.2.1.2⟩ ⟨Hr.out.2.2.2.1, Hr.out.2.2.2.2.1, Hr.out.2.2.1.1, Hr.out.2.2.1.2.1, Hr.out.2.2.1.2.2⟩).mono ?_
            rintro e Wz ⟨rfl, bz⟩
            rw [HM.out]
            have Bz := hide' (BT.out.below bz)
            clear bz
            go_wp2_with fail
            go_ret
            exact ⟨rfl, Bz.out.b⟩
          | true =>
          have g2 := L2.out.1 hw2
          obtain ⟨pv, hpv⟩ : ∃ pv, pv = M.pass R.cd R.lv tw := ⟨_, rfl⟩
          have HM : Hid (mtc F.po R t.1 t.2.1 t.2.2 = pv) := by show _ = _; rw [MW.out, hpv, Htw.out]; unfold wnr; rw [hth, hw1, hw2, ← Hav.out]; rfl
          have Hpv := hide' hpv
          clear hth hw1 hw2 MW hpv
          go_wp2_with (with_reducible refine stay_load 27 _ rfl ?_)
          unfold Stay
          refine wpList_load_w (by kernel_rfl) 27 _ rfl q4 rfl 27 #[.bool bv, .string R.who, .string R.what, .slice R.ro R.rl.length R.rc, .int .i8 R.cd, .float .f64 R.lv] (0, 0) _ BT.out.h4 Try.underlying27 rfl (by kernel_rfl) ?_
          go_wp2_with fail
          refine (M.passes_any (.bool bv) (.string R.who) (.string R.what) (.slice R.ro R.rl.length R.rc) R.cd R.lv tw _).mono ?_
          rintro e Wp ⟨rfl, bp⟩
          rw [← Hpv.out]
          have BP := hide' (BT.out.below bp)
          have gg : (pv == pv) = true := by simp
          clear bp BT
          go_wp2_with (with_reducible refine stay_load 34 _ rfl ?_)
          unfold Stay
          refine wpList_load_w (by kernel_rfl) 34 _ rfl q3 rfl 34 F.arr (0, 0) _ BP.out.h3 Try.underlying34 rfl (size_arr F) ?_
          go_wp2_with (with_reducible refine stay_load 27 _ rfl ?_)
          unfold Stay
          refine wpList_load_w (by kernel_rfl) 27 _ rfl q4 rfl 27 #[.bool bv, .string R.who, .string R.what, .slice R.ro R.rl.length R.rc, .int .i8 R.cd, .float .f64 R.lv] (0, 0) _ BP.out.h4 Try.underlying27 rfl (by kernel_rfl) ?_
          go_wp2_with (with_reducible refine stay_load 36 _ rfl ?_)
          unfold Stay
          refine wpList_load_w (by kernel_rfl) 36 _ rfl q5 rfl 36 #[.string t.1, .string t.2.1, .string t.2.2] (0, 0) _ BP.out.h5 Try.underlying36 rfl (by kernel_rfl) ?_
          go_wp2_with fail
          refine (mtc_call F Nn R bv t.1 t.2.1 t.2.2 _ (H.out.below BP.out.b) Hf.out Hr.out.1 ⟨Hr.out.2.1.1.below BP.out.b, Hr.out.2.1.2⟩ ⟨Hr.out.2.2.2.1, Hr.out.2.2.2.2.1, Hr.out.2.2.1.1, Hr.out.2.2.1.2.1, Hr.out.2.2.1.2.2⟩).mono ?_
          rintro e Wz ⟨rfl, bz⟩
          rw [HM.out]
          have Bz := hide' (BP.out.below bz)
          clear bz
          go_wp2_with fail
          go_ret
          exact ⟨rfl, Bz.out.b⟩
      | false =>
        have Hre := hide' hre
        have hl0 : ¬ (R.rl.length : Int) = 0 := by
          intro q
          have q2 : R.rl = [] := List.eq_nil_of_length_eq_zero (by omega)
          rw [q2] at hre; cases hre
        clear hre
        go_wp2_with fail
        clear e1 e2 e3 e4
        go_loopw [12, 13] (fun av iv wx => ∃ i : Nat, iv = .int .i64 (i : Int) ∧ i ≤ R.rl.length ∧ av = .bool (isIn (R.rl.take i) t.2.2) ∧ Hid (Br F R bv t q3 q4 q5 w wx)) (fun _ iv _ => R.rl.length - (intOf iv).toNat)
        case atStart => exact ⟨0, rfl, Nat.zero_le _, (by simp [isIn]; intro q; rw [q] at hl0; exact hl0 rfl), UU⟩
        case round =>
          obtain ⟨i, rfl, hi, rfl, UV⟩ := hrel
          clear UU
          obtain ⟨e1, e2, e3, e4⟩ := hBc.out _ UV.out
          clear e1 e2
          by_cases hlt : i < R.rl.length
          · have hlt' : (i : Int) < (R.rl.length : Int) := by omega
            obtain ⟨z, hz⟩ : ∃ z, R.rl[i]? = some z := ⟨_, List.getElem?_eq_getElem hlt⟩
            obtain ⟨y, off, hy, hyl, d1⟩ := (Hr.out.2.1.1.below UV.out.b).at hz
            have hy' : R.ro = some ⟨y, off, none⟩ := hy
            have IG := hide' (isIn_grow (t := t.2.2) hz)
            rw [hy'] at e3
            clear hz hy hyl hy'
            cases hb : isIn (R.rl.take i) t.2.2 with
            | true =>
              rw [hb, Bool.true_or] at IG
              clear hb
              go_wp2_with fail
              go_quiet (fail)
              go_wp2_with fail
              exact ⟨⟨i + 1, by go_num, by omega, by rw [IG.out], UV.out.below (bdrew wr nq)⟩, by simp [intOf]; omega⟩
            | false =>
              rw [hb, Bool.false_or] at IG
              clear hb
              by_cases e : z = t.2.2
              · have g1 : (z.toList == t.2.2.toList) = true := by rw [e]; exact text_eq _
                rw [decide_eq_true e] at IG
                clear e
                go_wp2_with fail
                go_quiet (fail)
                go_wp2_with fail
                exact ⟨⟨i + 1, by go_num, by omega, by rw [IG.out], UV.out.below (bdrew wr nq)⟩, by simp [intOf]; omega⟩
              · have g1 : (z.toList == t.2.2.toList) = false := text_ne e
                rw [decide_eq_false e] at IG
                clear e
                go_wp2_with fail
                go_quiet (fail)
                go_wp2_with fail
                exact ⟨⟨i + 1, by go_num, by omega, by rw [IG.out], UV.out.below (bdrew wr nq)⟩, by simp [intOf]; omega⟩
          · have hk : i = R.rl.length := by omega
            have hlt' : ¬ (i : Int) < (R.rl.length : Int) := by omega
            rw [show R.rl.take i = R.rl from List.take_of_length_le (by omega)]
            obtain ⟨av, hav⟩ : ∃ av, av = isIn R.rl t.2.2 := ⟨_, rfl⟩
            have Hav : Hid (av = (R.rl.isEmpty || isIn R.rl t.2.2)) := by show _ = _; rw [hav, Hre.out, Bool.false_or]
            rw [← hav]
            clear hav hk hlt hi
            go_wp2_with (with_reducible refine stay_load 34 _ rfl ?_)
            unfold Stay
            refine wpList_load_row rfl 34 _ rfl q3 rfl 34 F.arr (0, 0) _ UV.out.h3 Try.underlying34 rfl (size_arr F) ?_
            go_wp2_with (with_reducible refine stay_load 36 _ rfl ?_)
            unfold Stay
            refine wpList_load_row rfl 36 _ rfl q5 rfl 36 #[.string t.1, .string t.2.1, .string t.2.2] (0, 0) _ UV.out.h5 Try.underlying36 rfl (by kernel_rfl) ?_
            go_wp2_with fail
            refine (there_any F t _ (H.out.below UV.out.b) Hf.out.small).mono ?_
            rintro e Wt ⟨rfl, bt⟩
            have BT := hide' (UV.out.below bt)
            clear bt
            have MW := hide' (mtc_wnr F R t)
            cases hth : thr F t with
            | false =>
              have HM : Hid (mtc F.po R t.1 t.2.1 t.2.2 = false) := by show _ = _; rw [MW.out]; unfold wnr; rw [hth]; rfl
              clear hth MW
              go_wp2_with (with_reducible refine stay_load 34 _ rfl ?_)
              unfold Stay
              refine wpList_load_w (by kernel_rfl) 34 _ rfl q3 rfl 34 F.arr (0, 0) _ BT.out.h3 Try.underlying34 rfl (size_arr F) ?_
              go_wp2_with (with_reducible refine stay_load 27 _ rfl ?_)
              unfold Stay
              refine wpList_load_w (by kernel_rfl) 27 _ rfl q4 rfl 27 #[.bool bv, .string R.who, .string R.what, .slice R.ro R.rl.length R.rc, .int .i8 R.cd, .float .f64 R.lv] (0, 0) _ BT.out.h4 Try.underlying27 rfl (by kernel_rfl) ?_
              go_wp2_with (with_reducible refine stay_load 36 _ rfl ?_)
              unfold Stay
              refine wpList_load_w (by kernel_rfl) 36 _ rfl q5 rfl 36 #[.string t.1, .string t.2.1, .string t.2.2] (0, 0) _ BT.out.h5 Try.underlying36 rfl (by kernel_rfl) ?_
              go_wp2_with fail
              refine (mtc_call F Nn R bv t.1 t.2.1 t.2.2 _ (H.out.below BT.out.b) Hf.out Hr.out.1 ⟨Hr.out.2.1.1.below BT.out.b, Hr.out.2.1.2⟩ ⟨Hr.out.2.2.2.1, Hr.out.2.2.2.2.1, Hr.out.2.2.1.1, Hr.out.2.2.1.2.1, Hr.out.2.2.1.2.2⟩).mono ?_
              rintro e Wz ⟨rfl, bz⟩
              rw [HM.out]
              have Bz := hide' (BT.out.below bz)
              clear bz
              go_wp2_with fail
              go_ret
              exact ⟨rfl, Bz.out.b⟩
            | true =>
            cases hw1 : isIn (N.clo (F.m.2.2 ++ F.i.2.2) t.1) R.who with
            | false =>
              have HM : Hid (mtc F.po R t.1 t.2.1 t.2.2 = false) := by show _ = _; rw [MW.out]; unfold wnr; rw [hth, hw1]; rfl
              have g1 := L1.out.2 hw1
              clear hth hw1 MW
              go_wp2_with (with_reducible refine stay_load 34 _ rfl ?_)
              unfold Stay
              refine wpList_load_w (by kernel_rfl) 34 _ rfl q3 rfl 34 F.arr (0, 0) _ BT.out.h3 Try.underlying34 rfl (size_arr F) ?_
              go_wp2_with (with_reducible refine stay_load 27 _ rfl ?_)
              unfold Stay
              refine wpList_load_w (by kernel_rfl) 27 _ rfl q4 rfl 27 #[.bool bv, .string R.who, .string R.what, .slice R.ro R.rl.length R.rc, .int .i8 R.cd, .float .f64 R.lv] (0, 0) _ BT.out.h4 Try.underlying27 rfl (by kernel_rfl) ?_
              go_wp2_with (with_reducible refine stay_load 36 _ rfl ?_)
              unfold Stay
              refine wpList_load_w (by kernel_rfl) 36 _ rfl q5 rfl 36 #[.string t.1, .string t.2.1, .string t.2.2] (0, 0) _ BT.out.h5 Try.underlying36 rfl (by kernel_rfl) ?_
              go_wp2_with fail
              refine (mtc_call F Nn R bv t.1 t.2.1 t.2.2 _ (H.out.below BT.out.b) Hf.out Hr.out.1 ⟨Hr.out.2.1.1.below BT.out.b, Hr.out.2.1.2⟩ ⟨Hr.out.2.2.2.1, Hr.out.2.2.2.2.1, Hr.out.2.2.1.1, Hr.out.2.2.1.2.1, Hr.out.2.2.1.2.2⟩).mono ?_
              rintro e Wz ⟨rfl, bz⟩
              rw [HM.out]
              have Bz := hide' (BT.out.below bz)
              clear bz
              go_wp2_with fail
              go_ret
              exact ⟨rfl, Bz.out.b⟩
            | true =>
            have g1 := L1.out.1 hw1
            cases hw2 : isIn (N.clo (F.p.2.2 ++ F.w.2.2) t.2.1) R.what with
            | false =>
              have HM : Hid (mtc F.po R t.1 t.2.1 t.2.2 = false) := by show _ = _; rw [MW.out]; unfold wnr; rw [hth, hw1, hw2]; rfl
              have g2 := L2.out.2 hw2
              clear hth hw1 hw2 MW
              go_wp2_with (with_reducible refine stay_load 34 _ rfl ?_)
              unfold Stay
              refine wpList_load_w (by kernel_rfl) 34 _ rfl q3 rfl 34 F.arr (0, 0) _ BT.out.h3 Try.underlying34 rfl (size_arr F) ?_
              go_wp2_with (with_reducible refine stay_load 27 _ rfl ?_)
              unfold Stay
              refine wpList_load_w (by kernel_rfl) 27 _ rfl q4 rfl 27 #[.bool bv, .string R.who, .string R.what, .slice R.ro R.rl.length R.rc, .int .i8 R.cd, .float .f64 R.lv] (0, 0) _ BT.out.h4 Try.underlying27 rfl (by kernel_rfl) ?_
              go_wp2_with (with_reducible refine stay_load 36 _ rfl ?_)
              unfold Stay
              refine wpList_load_w (by kernel_rfl) 36 _ rfl q5 rfl 36 #[.string t.1, .string t.2.1, .string t.2.2] (0, 0) _ BT.out.h5 Try.underlying36 rfl (by kernel_rfl) ?_
              go_wp2_with fail
              refine (mtc_call F Nn R bv t.1 t.2.1 t.2.2 _ (H.out.below BT.out.b) Hf.out Hr.out.1 ⟨Hr.out.2.1.1.below BT.out.b, Hr.out.2.1.2⟩ ⟨Hr.out.2.2.2.1, Hr.out.2.2.2.2.1, Hr.out.2.2.1.1, Hr.out.2.2.1.2.1, Hr.out.2.2.1.2.2⟩).mono ?_
              rintro e Wz ⟨rfl, bz⟩
              rw [HM.out]
              have Bz := hide' (BT.out.below bz)
              clear bz
              go_wp2_with fail
              go_ret
              exact ⟨rfl, Bz.out.b⟩
            | true =>
            have g2 := L2.out.1 hw2
            cases av with
            | false =>
              have HM : Hid (mtc F.po R t.1 t.2.1 t.2.2 = false) := by show _ = _; rw [MW.out]; unfold wnr; rw [hth, hw1, hw2, ← Hav.out]; rfl
              clear hth hw1 hw2 MW
              go_wp2_with (with_reducible refine stay_load 34 _ rfl ?_)
              unfold Stay
              refine wpList_load_w (by kernel_rfl) 34 _ rfl q3 rfl 34 F.arr (0, 0) _ BT.out.h3 Try.underlying34 rfl (size_arr F) ?_
              go_wp2_with (with_reducible refine stay_load 27 _ rfl ?_)
              unfold Stay
              refine wpList_load_w (by kernel_rfl) 27 _ rfl q4 rfl 27 #[.bool bv, .string R.who, .string R.what, .slice R.ro R.rl.length R.rc, .int .i8 R.cd, .float .f64 R.lv] (0, 0) _ BT.out.h4 Try.underlying27 rfl (by kernel_rfl) ?_
              go_wp2_with (with_reducible refine stay_load 36 _ rfl ?_)
              unfold Stay
              refine wpList_load_w (by kernel_rfl) 36 _ rfl q5 rfl 36 #[.string t.1, .string t.2.1, .string t.2.2] (0, 0) _ BT.out.h5 Try.underlying36 rfl (by kernel_rfl) ?_
              go_wp2_with fail
              refine (mtc_call F Nn R bv t.1 t.2.1 t.2.2 _ (H.out.below BT.out.b) Hf.out Hr.out.1 ⟨Hr.out.2.1.1.below BT.out.b, Hr.out.2.1.2⟩ ⟨Hr.out.2.2.2.1, Hr.out.2.2.2.2.1, Hr.out.2.2.1.1, Hr.out.2.2.1.2.1, Hr.out.2.2.1.2.2⟩).mono ?_
              rintro e Wz ⟨rfl, bz⟩
              rw [HM.out]
              have Bz := hide' (BT.out.below bz)
              clear bz
              go_wp2_with fail
              go_ret
              exact ⟨rfl, Bz.out.b⟩
            | true =>
            obtain ⟨pv, hpv⟩ : ∃ pv, pv = M.pass R.cd R.lv tw := ⟨_, rfl⟩
            have HM : Hid (mtc F.po R t.1 t.2.1 t.2.2 = pv) := by show _ = _; rw [MW.out, hpv, Htw.out]; unfold wnr; rw [hth, hw1, hw2, ← Hav.out]; rfl
            have Hpv := hide' hpv
            clear hth hw1 hw2 MW hpv
            go_wp2_with (with_reducible refine stay_load 27 _ rfl ?_)
            unfold Stay
            refine wpList_load_w (by kernel_rfl) 27 _ rfl q4 rfl 27 #[.bool bv, .string R.who, .string R.what, .slice R.ro R.rl.length R.rc, .int .i8 R.cd, .float .f64 R.lv] (0, 0) _ BT.out.h4 Try.underlying27 rfl (by kernel_rfl) ?_
            go_wp2_with fail
            refine (M.passes_any (.bool bv) (.string R.who) (.string R.what) (.slice R.ro R.rl.length R.rc) R.cd R.lv tw _).mono ?_
            rintro e Wp ⟨rfl, bp⟩
            rw [← Hpv.out]
            have BP := hide' (BT.out.below bp)
            have gg : (pv == pv) = true := by simp
            clear bp BT
            go_wp2_with (with_reducible refine stay_load 34 _ rfl ?_)
            unfold Stay
            refine wpList_load_w (by kernel_rfl) 34 _ rfl q3 rfl 34 F.arr (0, 0) _ BP.out.h3 Try.underlying34 rfl (size_arr F) ?_
            go_wp2_with (with_reducible refine stay_load 27 _ rfl ?_)
            unfold Stay
            refine wpList_load_w (by kernel_rfl) 27 _ rfl q4 rfl 27 #[.bool bv, .string R.who, .string R.what, .slice R.ro R.rl.length R.rc, .int .i8 R.cd, .float .f64 R.lv] (0, 0) _ BP.out.h4 Try.underlying27 rfl (by kernel_rfl) ?_
            go_wp2_with (with_reducible refine stay_load 36 _ rfl ?_)
            unfold Stay
            refine wpList_load_w (by kernel_rfl) 36 _ rfl q5 rfl 36 #[.string t.1, .string t.2.1, .string t.2.2] (0, 0) _ BP.out.h5 Try.underlying36 rfl (by kernel_rfl) ?_
            go_wp2_with fail
            refine (mtc_call F Nn R bv t.1 t.2.1 t.2.2 _ (H.out.below BP.out.b) Hf.out Hr.out.1 ⟨Hr.out.2.1.1.below BP.out.b, Hr.out.2.1.2⟩ ⟨Hr.out.2.2.2.1, Hr.out.2.2.2.2.1, Hr.out.2.2.1.1, Hr.out.2.2.1.2.1, Hr.out.2.2.1.2.2⟩).mono ?_
            rintro e Wz ⟨rfl, bz⟩
            rw [HM.out]
            have Bz := hide' (BP.out.below bz)
            clear bz
            go_wp2_with fail
            go_ret
            exact ⟨rfl, Bz.out.b⟩
end U
end Go.Proofs.Ytdhmommfmmiieaa
