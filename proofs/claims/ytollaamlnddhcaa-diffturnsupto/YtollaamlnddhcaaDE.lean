import Derived.Test.YtollaamlnddhcaaTwd
import Derived.Deep.RegionHeld3
set_option linter.unusedVariables false
set_option linter.unusedSimpArgs false
namespace Go.Proofs.Ytollaamlnddhcaa
open Go.RowKit Go.Maps
namespace D
open U (Pf Tp URow cells_ne Ru Sb Stay TwinIs Tw)
theorem stay_app2 {P : Program} {ops : Array Oper} {rest : List Oper} {o : Oper} {a : Act} {Q : Exit → Act → World → Prop} {w : World} (s x : Operand) (t : TypeId) (hop : o.op = Op.call { callee := Callee.builtin Builtin.append, args := #[s, x], argTypes := #[t, t] }) (h : Stay (wpList P ops Q (o :: rest) a w)) : wpList P ops Q (o :: rest) a w := h
theorem rest_turns {B : Nat} {J : Pf} {V V' : World} {Z : Nat → Prop} (h : U.Rest B J V) (t : Turn Z V V') (hZ : ∀ j, Z j → ∃ c, V.heap[j]? = some (.cells c 67 (0, 0))) {o : Option Addr} {c : Nat} {l : List Sb} (r : T.RowI B o c l V') : U.Rest B { J with s := (o, c, l) } V' := by
  have ks : ∀ {o : Option Addr} {c : Nat} {l : List ByteArray}, S.RowI B o c l V → S.RowI B o c l V' := fun r => r.turn t (fun j q z => by obtain ⟨cur, k⟩ := U.kindS r q; obtain ⟨c', k'⟩ := hZ j z; exact cells_ne k k' (by decide) rfl)
  have kq : ∀ {o : Option Addr} {c : Nat} {l : List (ByteArray × ByteArray)}, Q.RowI B o c l V → Q.RowI B o c l V' := fun r => r.turn t (fun j q z => by obtain ⟨cur, k⟩ := U.kindQ r q; obtain ⟨c', k'⟩ := hZ j z; exact cells_ne k k' (by decide) rfl)
  exact ⟨ks h.a, r, ks h.r, ks h.o, ks h.g, kq h.m, kq h.i, kq h.p, kq h.w, fun R hR => ⟨ks (h.ur R hR).1, (h.ur R hR).2⟩, h.x.turn t (fun j q z => by obtain ⟨cur, k⟩ := kindX h.x q; obtain ⟨c', k'⟩ := hZ j z; exact cells_ne k k' (by decide) rfl)⟩
theorem tp_tfs {F : Pf} {b1 b2 b3 : Nat} {J : Pf} {w V V' : World} (h : Tp F b1 b2 b3 J w V) (t : Turn (T.At J.s.1) V V') : U.Tf F b1 b2 b3 J.arr w V' := by
  have ne : ∀ {b : Nat} {c : Array Value}, V.heap[b]? = some (.cells c 28 (0, 0)) → ¬ T.At J.s.1 b := fun k q => by obtain ⟨cur, k2⟩ := U.kindT h.rs.s q; exact cells_ne k k2 (by decide) rfl
  obtain ⟨c, hc, hz⟩ := h.h2
  exact ⟨h.b.trans (below_own t (fun j q => (h.rs.s.lt j q).1) h.b.size), (t.block _ (lt_of_heap h.h1) (ne h.h1)).trans h.h1, ⟨c, (t.block _ (lt_of_heap hc) (ne hc)).trans hc, hz⟩, (t.block _ (lt_of_heap h.h3) (ne h.h3)).trans h.h3, h.n1, h.n2, h.l2, h.l3⟩
/-- a subject was appended, and its slice is written into the block -/
theorem tp_sub {F : Pf} {b1 b2 b3 : Nat} {J J' : Pf} {z : Sb} {w V V' : World} {g cap : Nat} (h : Tp F b1 b2 b3 J w V) (t : Turn (T.At J.s.1) V V') (r : T.RowI w.heap.size (some ⟨g, 0, none⟩) cap (J.s.2.2 ++ [z]) V') (e : J' = { J with s := (some ⟨g, 0, none⟩, cap, J.s.2.2 ++ [z]) }) :
    Tp F b1 b2 b3 J' w (V'.setCell ⟨b3, 1, none⟩ (.slice (some ⟨g, 0, none⟩) (J.s.2.2.length + 1) cap)) := by
  subst e
  refine (tp_tfs h t).put 1 _ (by show _ = Pf.arr _; simp [U.Pf.arr]) (rest_turns h.rs t (fun j q => U.kindT h.rs.s q) r) ?_
  exact h.u.turn t (fun j a z => by obtain ⟨cur, k⟩ := U.kindG h.u a; obtain ⟨c, k'⟩ := U.kindT h.rs.s z; exact cells_ne k k' (by decide) rfl)
theorem flen6 (us : List Ru) : ((us.map Ru.cells).flatten).length = (us.map Ru.cells).length * 6 := by
  induction us with
  | nil => rfl
  | cons a r ih => simp only [List.map_cons, List.flatten_cons, List.length_append, List.length_cons, ih]; show 6 + _ = _; omega
abbrev R0 : Ru := ⟨.bool false, kSpare, ⟨#[]⟩, none, 0, [], 0, 0⟩
set_option maxRecDepth 100000 in
set_option maxHeartbeats 8000000 in
theorem twin_any (F : Pf) (w : World) (h : F.In w) (hs : F.Small) : Calls Try.prog 11 #[.agg F.arr] w fun e w' => TwinIs F w e w' := by
  have H := hide' h
  have Hs := hide' hs
  clear h hs
  go_enter Try.func11, Try.ntmps11
  go_wp2_with fail
  obtain ⟨V, hV⟩ : ∃ V, V = ((w.alloc (.cells F.arr 28)).alloc (.cells #[.slice none 0 0, .slice none 0 0, .slice none 0 0, .slice none 0 0, .slice none 0 0, .slice none 0 0, .slice none 0 0, .slice none 0 0, .slice none 0 0, .slice none 0 0, .slice none 0 0] 28)) := ⟨_, rfl⟩
  rw [← hV]
  have K0 : Hid (Below w.heap.size w V ∧ V.heap[w.heap.size]? = some (.cells F.arr 28 (0, 0)) ∧ V.heap[w.heap.size + 1]? = some (.cells #[.slice none 0 0, .slice none 0 0, .slice none 0 0, .slice none 0 0, .slice none 0 0, .slice none 0 0, .slice none 0 0, .slice none 0 0, .slice none 0 0, .slice none 0 0, .slice none 0 0] 28 (0, 0))) := by
    have a1 := heap_alloc_new w (.cells F.arr 28)
    have a2 := heap_alloc_new (w.alloc (.cells F.arr 28)) (.cells #[.slice none 0 0, .slice none 0 0, .slice none 0 0, .slice none 0 0, .slice none 0 0, .slice none 0 0, .slice none 0 0, .slice none 0 0, .slice none 0 0, .slice none 0 0, .slice none 0 0] 28)
    have z1 : (w.alloc (.cells F.arr 28)).heap.size = w.heap.size + 1 := by simp
    rw [z1] at a2
    rw [hV]
    exact ⟨((Below.refl _ _).alloc (Nat.le_refl _) _).alloc (by simp) _, (Below.heap_alloc _ _ _ (by omega)).trans a1, a2⟩
  clear hV
  obtain ⟨b1, hb1⟩ : ∃ b1, b1 = w.heap.size := ⟨_, rfl⟩
  obtain ⟨b2, hb2⟩ : ∃ b2, b2 = w.heap.size + 1 := ⟨_, rfl⟩
  rw [← hb2, ← hb1]
  have HB : Hid (w.heap.size ≤ b2 ∧ (#[.slice none 0 0, .slice none 0 0, .slice none 0 0, .slice none 0 0, .slice none 0 0, .slice none 0 0, .slice none 0 0, .slice none 0 0, .slice none 0 0, .slice none 0 0, .slice none 0 0] : Array Value).size = 11) := ⟨by omega, rfl⟩
  have K1 : Hid (Below w.heap.size w V ∧ V.heap[b1]? = some (.cells F.arr 28 (0, 0)) ∧ V.heap[b2]? = some (.cells #[.slice none 0 0, .slice none 0 0, .slice none 0 0, .slice none 0 0, .slice none 0 0, .slice none 0 0, .slice none 0 0, .slice none 0 0, .slice none 0 0, .slice none 0 0, .slice none 0 0] 28 (0, 0))) := by rw [hb1, hb2]; exact K0
  clear K0 hb1 hb2
  have KI : Hid (∀ W, Below w.heap.size w W → F.In W) := fun W b => H.out.below b
  have hdr : Below V.heap.size V V.drew := ⟨rfl, rfl, rfl, Nat.le_refl _, fun _ _ => rfl⟩
  refine wp_region_held_drew (S := fun V => V.heap[b1]? = some (.cells F.arr 28 (0, 0))) (by kernel_rfl) K1.out.2.1 (fun hHeld => ?_)
  refine wpAnyH_take (i := 0) (oi := { dst := some 7, op := Op.fieldAddr 28 (Operand.tmp 1) 0, type := 0, pos := "policy.go:39", after := #[], guard := none }) (v := .pointer (some ⟨b1, 0, none⟩)) rfl (by kernel_rfl) (by kernel_rfl) (by kernel_rfl) (fun _ _ _ h => h) (Or.inl ⟨by kernel_rfl, fun w hSw => ?_⟩) (by assumption) ?_
  · clear hSw; go_simp
  (try simp only [Act.put, List.setIfInBounds_toArray, List.set_cons_zero, List.set_cons_succ])
  refine wpAnyH_take (i := 1) (oi := { dst := some 8, op := Op.load 22 (Operand.tmp 7), type := 22, pos := "policy.go:39", after := #[{ on := 0, ground := Ground.data }], guard := none }) (v := .slice F.a.1 F.a.2.2.length F.a.2.1) rfl (by kernel_rfl) (by kernel_rfl) (by kernel_rfl) (fun _ _ _ h => h) (Or.inl ⟨by kernel_rfl, fun w hSw => ?_⟩) (by assumption) ?_
  · have h0 : w.cell? ⟨b1, 0, none⟩ = some (.slice F.a.1 F.a.2.2.length F.a.2.1) := by rw [Lib.cell_of_heap hSw]; rfl
    clear hSw; go_simp
  (try simp only [Act.put, List.setIfInBounds_toArray, List.set_cons_zero, List.set_cons_succ])
  refine wpAnyH_take (i := 3) (oi := { dst := some 10, op := Op.fieldAddr 28 (Operand.tmp 1) 2, type := 0, pos := "policy.go:39", after := #[], guard := none }) (v := .pointer (some ⟨b1, 2, none⟩)) rfl (by kernel_rfl) (by kernel_rfl) (by kernel_rfl) (fun _ _ _ h => h) (Or.inl ⟨by kernel_rfl, fun w hSw => ?_⟩) (by assumption) ?_
  · clear hSw; go_simp
  (try simp only [Act.put, List.setIfInBounds_toArray, List.set_cons_zero, List.set_cons_succ])
  refine wpAnyH_take (i := 4) (oi := { dst := some 11, op := Op.load 22 (Operand.tmp 10), type := 22, pos := "policy.go:39", after := #[{ on := 3, ground := Ground.data }], guard := none }) (v := .slice F.r.1 F.r.2.2.length F.r.2.1) rfl (by kernel_rfl) (by kernel_rfl) (by kernel_rfl) (fun _ _ _ h => h) (Or.inl ⟨by kernel_rfl, fun w hSw => ?_⟩) (by assumption) ?_
  · have h0 : w.cell? ⟨b1, 2, none⟩ = some (.slice F.r.1 F.r.2.2.length F.r.2.1) := by rw [Lib.cell_of_heap hSw]; rfl
    clear hSw; go_simp
  (try simp only [Act.put, List.setIfInBounds_toArray, List.set_cons_zero, List.set_cons_succ])
  refine wpAnyH_take (i := 6) (oi := { dst := some 13, op := Op.fieldAddr 28 (Operand.tmp 1) 3, type := 0, pos := "policy.go:39", after := #[], guard := none }) (v := .pointer (some ⟨b1, 3, none⟩)) rfl (by kernel_rfl) (by kernel_rfl) (by kernel_rfl) (fun _ _ _ h => h) (Or.inl ⟨by kernel_rfl, fun w hSw => ?_⟩) (by assumption) ?_
  · clear hSw; go_simp
  (try simp only [Act.put, List.setIfInBounds_toArray, List.set_cons_zero, List.set_cons_succ])
  refine wpAnyH_take (i := 7) (oi := { dst := some 14, op := Op.load 22 (Operand.tmp 13), type := 22, pos := "policy.go:39", after := #[{ on := 6, ground := Ground.data }], guard := none }) (v := .slice F.o.1 F.o.2.2.length F.o.2.1) rfl (by kernel_rfl) (by kernel_rfl) (by kernel_rfl) (fun _ _ _ h => h) (Or.inl ⟨by kernel_rfl, fun w hSw => ?_⟩) (by assumption) ?_
  · have h0 : w.cell? ⟨b1, 3, none⟩ = some (.slice F.o.1 F.o.2.2.length F.o.2.1) := by rw [Lib.cell_of_heap hSw]; rfl
    clear hSw; go_simp
  (try simp only [Act.put, List.setIfInBounds_toArray, List.set_cons_zero, List.set_cons_succ])
  refine wpAnyH_take (i := 9) (oi := { dst := some 16, op := Op.fieldAddr 28 (Operand.tmp 1) 4, type := 0, pos := "policy.go:39", after := #[], guard := none }) (v := .pointer (some ⟨b1, 4, none⟩)) rfl (by kernel_rfl) (by kernel_rfl) (by kernel_rfl) (fun _ _ _ h => h) (Or.inl ⟨by kernel_rfl, fun w hSw => ?_⟩) (by assumption) ?_
  · clear hSw; go_simp
  (try simp only [Act.put, List.setIfInBounds_toArray, List.set_cons_zero, List.set_cons_succ])
  refine wpAnyH_take (i := 10) (oi := { dst := some 17, op := Op.load 22 (Operand.tmp 16), type := 22, pos := "policy.go:39", after := #[{ on := 9, ground := Ground.data }], guard := none }) (v := .slice F.g.1 F.g.2.2.length F.g.2.1) rfl (by kernel_rfl) (by kernel_rfl) (by kernel_rfl) (fun _ _ _ h => h) (Or.inl ⟨by kernel_rfl, fun w hSw => ?_⟩) (by assumption) ?_
  · have h0 : w.cell? ⟨b1, 4, none⟩ = some (.slice F.g.1 F.g.2.2.length F.g.2.1) := by rw [Lib.cell_of_heap hSw]; rfl
    clear hSw; go_simp
  (try simp only [Act.put, List.setIfInBounds_toArray, List.set_cons_zero, List.set_cons_succ])
  refine wpAnyH_take (i := 12) (oi := { dst := some 19, op := Op.fieldAddr 28 (Operand.tmp 1) 5, type := 0, pos := "policy.go:39", after := #[], guard := none }) (v := .pointer (some ⟨b1, 5, none⟩)) rfl (by kernel_rfl) (by kernel_rfl) (by kernel_rfl) (fun _ _ _ h => h) (Or.inl ⟨by kernel_rfl, fun w hSw => ?_⟩) (by assumption) ?_
  · clear hSw; go_simp
  (try simp only [Act.put, List.setIfInBounds_toArray, List.set_cons_zero, List.set_cons_succ])
  refine wpAnyH_take (i := 13) (oi := { dst := some 20, op := Op.load 24 (Operand.tmp 19), type := 24, pos := "policy.go:39", after := #[{ on := 12, ground := Ground.data }], guard := none }) (v := .slice F.m.1 F.m.2.2.length F.m.2.1) rfl (by kernel_rfl) (by kernel_rfl) (by kernel_rfl) (fun _ _ _ h => h) (Or.inl ⟨by kernel_rfl, fun w hSw => ?_⟩) (by assumption) ?_
  · have h0 : w.cell? ⟨b1, 5, none⟩ = some (.slice F.m.1 F.m.2.2.length F.m.2.1) := by rw [Lib.cell_of_heap hSw]; rfl
    clear hSw; go_simp
  (try simp only [Act.put, List.setIfInBounds_toArray, List.set_cons_zero, List.set_cons_succ])
  refine wpAnyH_take (i := 15) (oi := { dst := some 22, op := Op.fieldAddr 28 (Operand.tmp 1) 6, type := 0, pos := "policy.go:39", after := #[], guard := none }) (v := .pointer (some ⟨b1, 6, none⟩)) rfl (by kernel_rfl) (by kernel_rfl) (by kernel_rfl) (fun _ _ _ h => h) (Or.inl ⟨by kernel_rfl, fun w hSw => ?_⟩) (by assumption) ?_
  · clear hSw; go_simp
  (try simp only [Act.put, List.setIfInBounds_toArray, List.set_cons_zero, List.set_cons_succ])
  refine wpAnyH_take (i := 16) (oi := { dst := some 23, op := Op.load 24 (Operand.tmp 22), type := 24, pos := "policy.go:39", after := #[{ on := 15, ground := Ground.data }], guard := none }) (v := .slice F.i.1 F.i.2.2.length F.i.2.1) rfl (by kernel_rfl) (by kernel_rfl) (by kernel_rfl) (fun _ _ _ h => h) (Or.inl ⟨by kernel_rfl, fun w hSw => ?_⟩) (by assumption) ?_
  · have h0 : w.cell? ⟨b1, 6, none⟩ = some (.slice F.i.1 F.i.2.2.length F.i.2.1) := by rw [Lib.cell_of_heap hSw]; rfl
    clear hSw; go_simp
  (try simp only [Act.put, List.setIfInBounds_toArray, List.set_cons_zero, List.set_cons_succ])
  refine wpAnyH_take (i := 18) (oi := { dst := some 25, op := Op.fieldAddr 28 (Operand.tmp 1) 7, type := 0, pos := "policy.go:39", after := #[], guard := none }) (v := .pointer (some ⟨b1, 7, none⟩)) rfl (by kernel_rfl) (by kernel_rfl) (by kernel_rfl) (fun _ _ _ h => h) (Or.inl ⟨by kernel_rfl, fun w hSw => ?_⟩) (by assumption) ?_
  · clear hSw; go_simp
  (try simp only [Act.put, List.setIfInBounds_toArray, List.set_cons_zero, List.set_cons_succ])
  refine wpAnyH_take (i := 19) (oi := { dst := some 26, op := Op.load 24 (Operand.tmp 25), type := 24, pos := "policy.go:39", after := #[{ on := 18, ground := Ground.data }], guard := none }) (v := .slice F.p.1 F.p.2.2.length F.p.2.1) rfl (by kernel_rfl) (by kernel_rfl) (by kernel_rfl) (fun _ _ _ h => h) (Or.inl ⟨by kernel_rfl, fun w hSw => ?_⟩) (by assumption) ?_
  · have h0 : w.cell? ⟨b1, 7, none⟩ = some (.slice F.p.1 F.p.2.2.length F.p.2.1) := by rw [Lib.cell_of_heap hSw]; rfl
    clear hSw; go_simp
  (try simp only [Act.put, List.setIfInBounds_toArray, List.set_cons_zero, List.set_cons_succ])
  refine wpAnyH_take (i := 21) (oi := { dst := some 28, op := Op.fieldAddr 28 (Operand.tmp 1) 8, type := 0, pos := "policy.go:39", after := #[], guard := none }) (v := .pointer (some ⟨b1, 8, none⟩)) rfl (by kernel_rfl) (by kernel_rfl) (by kernel_rfl) (fun _ _ _ h => h) (Or.inl ⟨by kernel_rfl, fun w hSw => ?_⟩) (by assumption) ?_
  · clear hSw; go_simp
  (try simp only [Act.put, List.setIfInBounds_toArray, List.set_cons_zero, List.set_cons_succ])
  refine wpAnyH_take (i := 22) (oi := { dst := some 29, op := Op.load 24 (Operand.tmp 28), type := 24, pos := "policy.go:39", after := #[{ on := 21, ground := Ground.data }], guard := none }) (v := .slice F.w.1 F.w.2.2.length F.w.2.1) rfl (by kernel_rfl) (by kernel_rfl) (by kernel_rfl) (fun _ _ _ h => h) (Or.inl ⟨by kernel_rfl, fun w hSw => ?_⟩) (by assumption) ?_
  · have h0 : w.cell? ⟨b1, 8, none⟩ = some (.slice F.w.1 F.w.2.2.length F.w.2.1) := by rw [Lib.cell_of_heap hSw]; rfl
    clear hSw; go_simp
  (try simp only [Act.put, List.setIfInBounds_toArray, List.set_cons_zero, List.set_cons_succ])
  refine wpAnyH_take (i := 24) (oi := { dst := some 31, op := Op.fieldAddr 28 (Operand.tmp 1) 10, type := 0, pos := "policy.go:39", after := #[], guard := none }) (v := .pointer (some ⟨b1, 10, none⟩)) rfl (by kernel_rfl) (by kernel_rfl) (by kernel_rfl) (fun _ _ _ h => h) (Or.inl ⟨by kernel_rfl, fun w hSw => ?_⟩) (by assumption) ?_
  · clear hSw; go_simp
  (try simp only [Act.put, List.setIfInBounds_toArray, List.set_cons_zero, List.set_cons_succ])
  refine wpAnyH_take (i := 25) (oi := { dst := some 32, op := Op.load 26 (Operand.tmp 31), type := 26, pos := "policy.go:39", after := #[{ on := 24, ground := Ground.data }], guard := none }) (v := .slice F.x.1 F.x.2.2.length F.x.2.1) rfl (by kernel_rfl) (by kernel_rfl) (by kernel_rfl) (fun _ _ _ h => h) (Or.inl ⟨by kernel_rfl, fun w hSw => ?_⟩) (by assumption) ?_
  · have h0 : w.cell? ⟨b1, 10, none⟩ = some (.slice F.x.1 F.x.2.2.length F.x.2.1) := by rw [Lib.cell_of_heap hSw]; rfl
    clear hSw; go_simp
  (try simp only [Act.put, List.setIfInBounds_toArray, List.set_cons_zero, List.set_cons_succ])
  refine T0_0 Hs KI HB ?_ V.drew (K1.out.1.trans (hdr.mono K1.out.1.size)) K1.out.2.1 K1.out.2.2
  clear hHeld hdr K1 V HB KI
  intro b3 o1 c1 o2 c2 o3 c3 o4 c4 o5 c5 o6 c6 o7 c7 o8 c8 o9 c9 V1 tp
  have TP1 := hide' tp
  clear tp
  simp only [Exit.then]
  have INV : Hid (∀ (J : Pf) W, Tp F b1 b2 b3 J w W → F.In W) := fun J W q => H.out.below q.b
  have x1a : V1.cell? ⟨b3, 1, none⟩ = some (.slice none 0 0) := TP1.out.c3 1
  have x1b : V1.cell? ⟨b1, 1, none⟩ = some (.slice F.s.1 F.s.2.2.length F.s.2.1) := TP1.out.c1 1
  have I1 := hide' (INV.out _ _ TP1.out)
  go_wp2_with (at_builtin; refine stay_app2 _ _ _ rfl ?_)
  unfold Stay
  refine T.wpList_appS _ rfl _ _ rfl w.heap.size F.s.1 F.s.2.1 F.s.2.2 rfl rfl I1.out.s.1 I1.out.s.2.2 (by have := Hs.out.s; show _ < _; omega) TP1.out.b.size ?_
  intro o11 c11 w11 r11 t11
  have q11 : w11.cell? ⟨b3, 1, none⟩ = some (.slice none 0 0) := (TP1.out.below t11).c3 1
  have f11 := (TP1.out.below t11).f3 1
  have TP2 : Hid (Tp F b1 b2 b3 (⟨(o1, c1, F.a.2.2), (o11, c11, F.s.2.2), (o2, c2, F.r.2.2), (o3, c3, F.o.2.2), (o4, c4, F.g.2.2), (o5, c5, F.m.2.2), (o6, c6, F.i.2.2), (o7, c7, F.p.2.2), (o8, c8, F.w.2.2), (none, 0, []), (o9, c9, F.x.2.2)⟩ : Pf) w (w11.setCell ⟨b3, 1, none⟩ (.slice o11 F.s.2.2.length c11))) := (TP1.out.below t11).put 1 _ rfl { (TP1.out.below t11).rs with s := r11 } (TP1.out.below t11).u
  clear r11 t11 I1 TP1 x1a x1b
  go_wp2_with fail
  generalize w11.setCell ⟨b3, 1, none⟩ (.slice o11 F.s.2.2.length c11) = V2 at *
  clear q11 f11
  have hul : (F.u.2.2.length : Int) ≤ 1048576 := by have := Hs.out.u; omega
  go_loopw [4] (fun iv wx => ∃ (i : Nat) (us : List Ru) (uo : Option Addr) (uc : Nat), iv = .int .i64 (i : Int) ∧ i ≤ F.u.2.2.length ∧ Hid (us.length = i ∧ us.map Ru.core = (F.u.2.2.take i).map Ru.core) ∧ Hid (Tp F b1 b2 b3 (⟨(o1, c1, F.a.2.2), (o11, c11, F.s.2.2), (o2, c2, F.r.2.2), (o3, c3, F.o.2.2), (o4, c4, F.g.2.2), (o5, c5, F.m.2.2), (o6, c6, F.i.2.2), (o7, c7, F.p.2.2), (o8, c8, F.w.2.2), (uo, uc, us), (o9, c9, F.x.2.2)⟩ : Pf) w wx)) (fun iv _ => F.u.2.2.length - (intOf iv).toNat)
  case atStart => exact ⟨0, [], none, 0, rfl, Nat.zero_le _, ⟨rfl, rfl⟩, TP2⟩
  case round =>
    obtain ⟨i, us, uo, uc, rfl, hi, HU, TQ⟩ := hrel
    clear TP2
    have y1 : wr.cell? ⟨b1, 9, none⟩ = some (.slice F.u.1 F.u.2.2.length F.u.2.1) := TQ.out.c1 9
    by_cases hlt : i < F.u.2.2.length
    · have hlt' : (i : Int) < (F.u.2.2.length : Int) := by omega
      have IN := hide' (INV.out _ _ TQ.out)
      obtain ⟨R, hR⟩ : ∃ R, F.u.2.2[i]? = some R := ⟨_, List.getElem?_eq_getElem hlt⟩
      obtain ⟨ub, uoff, huo, hub, hc⟩ := IN.out.u.1.1.at (show (F.u.2.2.map Ru.cells)[i]? = some R.cells by rw [List.getElem?_map, hR]; rfl)
      obtain ⟨hRo, hbv, hRl⟩ := IN.out.u.1.2 R (List.mem_of_getElem? hR)
      have hcu := IN.out.u.2.1
      have RG : Hid (wr.rangeAt ub (uoff + i * 6) R.cells) := fun j v hv => hc j v hv
      have HR := hide' (And.intro hR (And.intro hbv hRl))
      have HO := hide' hRo
      rw [huo] at y1
      have Huo := hide' huo
      clear hR hbv hRl hRo hc huo hub
      go_wp2_with (with_reducible refine U.stay_load 65 _ rfl ?_)
      unfold Stay
      refine wpList_load_mid rfl 65 _ rfl ub (uoff + i * 6) rfl R.cells _ RG.out Try.underlying65 rfl (by kernel_rfl) ?_
      go_wp2_with (with_reducible refine U.stay_store 65 _ _ rfl ?_)
      unfold Stay
      refine wpList_store_row rfl 65 _ _ rfl wr.heap.size R.cells.toArray rfl rfl 65 _ (heap_alloc_new wr _) (by kernel_rfl) rfl (by obtain ⟨bv, hb⟩ := HR.out.2.1; simp [Ru.cells, hb, Value.oneCell']) ?_
      rw [World.setRow_alloc_new]
      have q5 : Hid ((wr.alloc (.cells R.cells.toArray 65)).heap[wr.heap.size]? = some (.cells R.cells.toArray 65 (0, 0))) := heap_alloc_new wr _
      have b5 : Hid (Below wr.heap.size wr (wr.alloc (.cells R.cells.toArray 65))) := (Below.refl _ _).alloc (Nat.le_refl _) _
      generalize wr.alloc (.cells R.cells.toArray 65) = X5 at *
      have hus : Hid (∀ j, G.At uo j → j ≠ wr.heap.size) := fun j q e => by have := (TQ.out.u.lt j q).2; omega
      have hl5 : Hid (w.heap.size ≤ wr.heap.size) := TQ.out.b.size
      have TR := hide' (TQ.out.below b5.out)
      have HO5 := hide' (And.intro (HO.out.1.below b5.out) HO.out.2)
      clear TQ b5 RG HO IN y1
      generalize wr.heap.size = q at *
      have y3 : X5.cell? ⟨q, 3, none⟩ = some (.slice R.ro R.rl.length R.rc) := by rw [Lib.cell_of_heap q5.out]; rfl
      go_wp2_with fail
      refine (S.names_any R.ro R.rc R.rl X5 HO5.out.1 HO5.out.2.2 HR.out.2.2).mono ?_
      rintro e X6 ⟨ao, ac, rfl, ra, t6⟩
      have q6 := hide' ((t6.block _ (lt_of_heap q5.out)).trans q5.out)
      have TS := hide' (TR.out.below t6)
      have RA : Hid (S.RowI w.heap.size ao ac R.rl X6) := ra.mono TR.out.b.size
      have z3 : X6.cell? ⟨q, 3, none⟩ = some (.slice R.ro R.rl.length R.rc) := by rw [Lib.cell_of_heap q6.out]; rfl
      have z4 : X6.frozen? ⟨q, 3, none⟩ = false := Lib.frozen_of_heap q6.out 3
      have TU : Hid (Turn (fun j => j = q) X6 (X6.setCell ⟨q, 3, none⟩ (.slice ao R.rl.length ac))) := U.set_turn q 3 _ X6
      have q7 : Hid ((X6.setCell ⟨q, 3, none⟩ (.slice ao R.rl.length ac)).heap[q]? = some (.cells ({ R with ro := ao, rc := ac } : Ru).cells.toArray 65 (0, 0))) := by show _ = _; rw [U.heap_set q6.out]; rfl
      clear ra t6 TR HO5 q5 y3
      go_wp2_with (with_reducible refine U.stay_fa3 (k := 9) rfl ?_)
      unfold Stay
      have TV := hide' (TS.out.box TU.out q6.out hus.out hl5.out)
      have RA2 := hide' (U.srow_soft RA.out TU.out (fun j e => by
        have e' : j = q := e
        subst e'
        exact ⟨_, 65, q6.out, .inr rfl⟩))
      clear TS RA TU q6 z3 z4
      generalize X6.setCell ⟨q, 3, none⟩ (.slice ao R.rl.length ac) = X7 at *
      have y9 : X7.cell? ⟨b3, 9, none⟩ = some (.slice uo us.length uc) := TV.out.c3 9
      go_wp2_with (with_reducible refine U.stay_load 65 _ rfl ?_)
      unfold Stay
      obtain ⟨bv, hbv⟩ := HR.out.2.1
      have Hbv := hide' hbv
      have q8 : Hid (X7.heap[q]? = some (.cells #[.bool bv, .string R.who, .string R.what, .slice ao R.rl.length ac, .int .i8 R.cd, .float .f64 R.lv] 65 (0, 0))) := by rw [← hbv]; exact q7
      clear hbv q7
      refine wpList_load_row rfl 65 _ rfl q rfl 65 #[.bool bv, .string R.who, .string R.what, .slice ao R.rl.length ac, .int .i8 R.cd, .float .f64 R.lv] (0, 0) _ q8.out Try.underlying65 rfl (by kernel_rfl) ?_
      go_wp2_with (at_builtin; refine stay_app2 _ _ _ rfl ?_)
      unfold Stay
      have hcl : (us.map Ru.cells).length = us.length := List.length_map _
      have hul2 : us.length < 1073741824 := by have := HU.out.1; omega
      refine G.wpList_app1 X7 rfl _ _ 25 65 6 80 _ rfl Try.underlying25 G.info27 rfl (by decide) (by decide) w.heap.size uo uc (us.map Ru.cells) [.bool bv, .string R.who, .string R.what, .slice ao R.rl.length ac, .int .i8 R.cd, .float .f64 R.lv] rfl (by simp [Value.oneCell']) 65 _ (by rw [hcl]; rfl) TV.out.u rfl (by show _ < _; rw [hcl]; exact hul2) TV.out.b.size ?_
      intro g cap X8 r8 t8 hg hl8
      rw [hcl]
      clear hcl hul2
      have k9 : X8.cell? ⟨b3, 9, none⟩ = some (.slice uo us.length uc) := by rw [Lib.cell_of_heap (TV.out.tfu t8).h3]; rfl
      have f9 : X8.frozen? ⟨b3, 9, none⟩ = false := Lib.frozen_of_heap (TV.out.tfu t8).h3 9
      have TY := hide' (TV.out.rule (R := ⟨.bool bv, R.who, R.what, ao, ac, R.rl, R.cd, R.lv⟩) t8 r8 ⟨RA2.out, ⟨bv, rfl⟩, HR.out.2.2⟩ rfl)
      have HU2 : Hid ((us ++ [(⟨.bool bv, R.who, R.what, ao, ac, R.rl, R.cd, R.lv⟩ : Ru)]).length = i + 1 ∧ (us ++ [(⟨.bool bv, R.who, R.what, ao, ac, R.rl, R.cd, R.lv⟩ : Ru)]).map Ru.core = (F.u.2.2.take (i + 1)).map Ru.core) := by
        refine ⟨by rw [List.length_append, HU.out.1]; rfl, ?_⟩
        rw [List.map_append, HU.out.2, List.take_add_one, HR.out.1, List.map_append]
        congr 1
        show [(⟨.bool bv, R.who, R.what, none, 0, R.rl, R.cd, R.lv⟩ : Ru)] = [(⟨R.d, R.who, R.what, none, 0, R.rl, R.cd, R.lv⟩ : Ru)]
        rw [Hbv.out]
      clear hg hl8 r8 t8 TV RA2 q8
      go_wp2_with fail
      exact ⟨⟨i + 1, _, _, _, by go_num, by omega, HU2, TY⟩, by simp [intOf]; omega⟩
    · have hk : i = F.u.2.2.length := by omega
      have hlt' : ¬ (i : Int) < (F.u.2.2.length : Int) := by omega
      have HU3 : Hid (us.length = F.u.2.2.length ∧ us.map Ru.core = F.u.2.2.map Ru.core) := by have q := HU.out; rw [hk, List.take_length] at q; exact q
      clear hk HU
      go_wp2_with fail
      generalize wr = V3 at *
      clear hlt hlt' y1 hi
      go_loopw [6] (fun kv wx => ∃ (k : Nat) (ss : List Sb) (so : Option Addr) (sc : Nat) (vs : List Ru) (vo : Option Addr) (vc : Nat), kv = .int .i64 (k : Int) ∧ k ≤ 20 ∧ Hid (ss = F.s.2.2 ++ List.replicate k (kSpare, 0) ∧ vs = us ++ List.replicate k R0) ∧ Hid (Tp F b1 b2 b3 (⟨(o1, c1, F.a.2.2), (so, sc, ss), (o2, c2, F.r.2.2), (o3, c3, F.o.2.2), (o4, c4, F.g.2.2), (o5, c5, F.m.2.2), (o6, c6, F.i.2.2), (o7, c7, F.p.2.2), (o8, c8, F.w.2.2), (vo, vc, vs), (o9, c9, F.x.2.2)⟩ : Pf) w wx)) (fun kv _ => 20 - (intOf kv).toNat)
      case atStart => exact ⟨0, F.s.2.2, o11, c11, us, uo, uc, rfl, by omega, ⟨by simp, by simp⟩, TQ⟩
      case round =>
        obtain ⟨k, ss, so, sc, vs, vo, vc, rfl, hk, HV, TV⟩ := hrel
        clear TQ
        have HL : Hid (ss.length = F.s.2.2.length + k ∧ vs.length = us.length + k) := ⟨by rw [HV.out.1, List.length_append, List.length_replicate], by rw [HV.out.2, List.length_append, List.length_replicate]⟩
        by_cases hk20 : k < 20
        · have hk' : (k : Int) < 20 := by omega
          have y1 : wr.cell? ⟨b3, 1, none⟩ = some (.slice so ss.length sc) := TV.out.c3 1
          have hbs : Hid (ss.length < 1099511627776) := by have := HL.out.1; have := Hs.out.s; show _ < _; omega
          go_wp2_with (at_builtin; refine stay_app2 _ _ _ rfl ?_)
          unfold Stay
          refine T.wpList_app1 wr rfl _ _ rfl w.heap.size so sc ss (kSpare, 0) _ _ rfl TV.out.rs.s rfl hbs TV.out.b.size ?_
          intro g cg X1 r1 t1 hg1 hl1
          have k1 : X1.cell? ⟨b3, 1, none⟩ = some (.slice so ss.length sc) := by rw [Lib.cell_of_heap (tp_tfs TV.out t1).h3]; rfl
          have f1 : X1.frozen? ⟨b3, 1, none⟩ = false := Lib.frozen_of_heap (tp_tfs TV.out t1).h3 1
          have TA := hide' (tp_sub TV.out t1 r1 rfl)
          clear hg1 hl1 r1 t1 TV y1
          go_wp2_with (with_reducible refine U.stay_fa3 (k := 9) rfl ?_)
          unfold Stay
          have y9 : (X1.setCell ⟨b3, 1, none⟩ (.slice (some ⟨g, 0, none⟩) (ss.length + 1) cg)).cell? ⟨b3, 9, none⟩ = some (.slice vo vs.length vc) := TA.out.c3 9
          generalize X1.setCell ⟨b3, 1, none⟩ (.slice (some ⟨g, 0, none⟩) (ss.length + 1) cg) = X2 at *
          clear k1 f1
          go_wp2_with (at_builtin; refine stay_app2 _ _ _ rfl ?_)
          unfold Stay
          have hcl : (vs.map Ru.cells).length = vs.length := List.length_map _
          have hvl : vs.length < 1073741824 := by have := HL.out.2; have := HU3.out.1; have := Hs.out.u; omega
          refine G.wpList_app1 X2 rfl _ _ 25 65 6 80 _ rfl Try.underlying25 G.info27 rfl (by decide) (by decide) w.heap.size vo vc (vs.map Ru.cells) [.bool false, .string kSpare, .string ⟨#[]⟩, .slice none 0 0, .int .i8 0, .float .f64 0] rfl (by simp [Value.oneCell']) 65 _ (by rw [hcl]; rfl) TA.out.u rfl (by show _ < _; rw [hcl]; exact hvl) TA.out.b.size ?_
          intro g8 cap X8 r8 t8 hg hl8
          rw [hcl]
          clear hcl hvl
          have k9 : X8.cell? ⟨b3, 9, none⟩ = some (.slice vo vs.length vc) := by rw [Lib.cell_of_heap (TA.out.tfu t8).h3]; rfl
          have f9 : X8.frozen? ⟨b3, 9, none⟩ = false := Lib.frozen_of_heap (TA.out.tfu t8).h3 9
          have TY := hide' (TA.out.rule (R := R0) t8 r8 ⟨S.RowI.nil _ _, ⟨false, rfl⟩, by show 0 ≤ _; decide⟩ rfl)
          clear hg hl8 r8 t8 TA
          go_wp2_with fail
          refine ⟨⟨k + 1, ss ++ [(kSpare, 0)], some ⟨g, 0, none⟩, cg, vs ++ [R0], some ⟨g8, 0, none⟩, cap, by go_num, by omega, ⟨?_, ?_⟩, TY⟩, by simp [intOf]; omega⟩
          · rw [HV.out.1, List.append_assoc, ← List.replicate_succ']
          · rw [HV.out.2, List.append_assoc, ← List.replicate_succ']
        · have hk20' : k = 20 := by omega
          subst hk20'
          have y1 : wr.cell? ⟨b3, 1, none⟩ = some (.slice so ss.length sc) := TV.out.c3 1
          have y2 : wr.cell? ⟨b1, 1, none⟩ = some (.slice F.s.1 F.s.2.2.length F.s.2.1) := TV.out.c1 1
          have f1 := TV.out.f3 1
          have hcs : ss.length ≤ sc := TV.out.rs.s.cap
          have hls : F.s.2.2.length ≤ ss.length := by have := HL.out.1; omega
          have hls2 : F.s.2.2.length ≤ sc := by omega
          have hs64 : (F.s.2.2.length : Int) ≤ 1048576 := by have := Hs.out.s; omega
          obtain ⟨gs, rfl⟩ : ∃ gs, so = some ⟨gs, 0, none⟩ := by
            rcases TV.out.rs.s.form with ⟨_, e, _⟩ | ⟨g, e, _⟩
            · have := HL.out.1; have e' : ss = [] := e; rw [e'] at this; simp at this
            · exact ⟨g, e⟩
          have rs' : T.RowI w.heap.size (some ⟨gs, 0, none⟩) sc F.s.2.2 wr := by
            have r : T.RowI w.heap.size (some ⟨gs, 0, none⟩) sc ss wr := TV.out.rs.s
            unfold T.RowI at r ⊢
            rw [HL.out.1, HV.out.1, List.flatMap_append] at r
            exact own_cut r (T.flat_len _)
          have TA := hide' (TV.out.put (J' := (⟨(o1, c1, F.a.2.2), (some ⟨gs, 0, none⟩, sc, F.s.2.2), (o2, c2, F.r.2.2), (o3, c3, F.o.2.2), (o4, c4, F.g.2.2), (o5, c5, F.m.2.2), (o6, c6, F.i.2.2), (o7, c7, F.p.2.2), (o8, c8, F.w.2.2), (vo, vc, vs), (o9, c9, F.x.2.2)⟩ : Pf)) 1 (.slice (some ⟨gs, 0, none⟩) F.s.2.2.length sc) rfl { TV.out.rs with s := rs' } TV.out.u)
          clear TV rs' hcs
          go_wp2_with (with_reducible refine U.stay_fa3 (k := 9) rfl ?_)
          unfold Stay
          generalize wr.setCell ⟨b3, 1, none⟩ (.slice (some ⟨gs, 0, none⟩) F.s.2.2.length sc) = X2 at *
          clear y1 y2 f1 hls hls2
          have y9 : X2.cell? ⟨b3, 9, none⟩ = some (.slice vo vs.length vc) := TA.out.c3 9
          have y8 : X2.cell? ⟨b1, 9, none⟩ = some (.slice F.u.1 F.u.2.2.length F.u.2.1) := TA.out.c1 9
          have f9 := TA.out.f3 9
          have hcu : vs.length ≤ vc := by have q := TA.out.u.cap; rw [List.length_map] at q; exact q
          have hlu : F.u.2.2.length ≤ vs.length := by have := HL.out.2; have := HU3.out.1; omega
          have hlu2 : F.u.2.2.length ≤ vc := by omega
          have hu64 : (F.u.2.2.length : Int) ≤ 1048576 := by have := Hs.out.u; omega
          obtain ⟨gu, hgu⟩ : ∃ gu, vo = some ⟨gu, 0, none⟩ := by
            rcases TA.out.u.form with ⟨_, e, _⟩ | ⟨g, e, _⟩
            · have := HL.out.2; have e' : vs.map Ru.cells = [] := e; have e2 := congrArg List.length e'; rw [List.length_map] at e2; simp at e2; rw [e2] at this; simp at this
            · exact ⟨g, e⟩
          subst hgu
          have ru' : G.RowI 65 6 w.heap.size (some ⟨gu, 0, none⟩) vc (us.map Ru.cells) X2 := by
            have r : G.RowI 65 6 w.heap.size (some ⟨gu, 0, none⟩) vc (vs.map Ru.cells) X2 := TA.out.u
            unfold G.RowI at r ⊢
            rw [HV.out.2, List.map_append, List.length_append, List.flatten_append] at r
            exact own_cut r (flen6 us)
          have TB := hide' (TA.out.put (J' := (⟨(o1, c1, F.a.2.2), (some ⟨gs, 0, none⟩, sc, F.s.2.2), (o2, c2, F.r.2.2), (o3, c3, F.o.2.2), (o4, c4, F.g.2.2), (o5, c5, F.m.2.2), (o6, c6, F.i.2.2), (o7, c7, F.p.2.2), (o8, c8, F.w.2.2), (some ⟨gu, 0, none⟩, vc, us), (o9, c9, F.x.2.2)⟩ : Pf)) 9 (.slice (some ⟨gu, 0, none⟩) F.u.2.2.length vc) (by rw [← HU3.out.1]; rfl) { TA.out.rs with ur := fun R hR => TA.out.rs.ur R (by show R ∈ vs; rw [HV.out.2]; exact List.mem_append.2 (.inl hR)) } ru')
          clear TA ru' hcu
          go_wp2_with (with_reducible refine U.stay_load 28 _ rfl ?_)
          unfold Stay
          generalize X2.setCell ⟨b3, 9, none⟩ (.slice (some ⟨gu, 0, none⟩) F.u.2.2.length vc) = V8 at *
          clear y9 y8 f9 hlu hlu2
          refine wpList_load_row rfl 28 _ rfl b3 rfl 28 (⟨(o1, c1, F.a.2.2), (some ⟨gs, 0, none⟩, sc, F.s.2.2), (o2, c2, F.r.2.2), (o3, c3, F.o.2.2), (o4, c4, F.g.2.2), (o5, c5, F.m.2.2), (o6, c6, F.i.2.2), (o7, c7, F.p.2.2), (o8, c8, F.w.2.2), (some ⟨gu, 0, none⟩, vc, us), (o9, c9, F.x.2.2)⟩ : Pf).arr (0, 0) _ TB.out.h3 Try.underlying28 rfl (U.size_arr _) ?_
          obtain ⟨c2', hc2, hz2⟩ := TB.out.h2
          go_wp2_with (with_reducible refine U.stay_store 28 _ _ rfl ?_)
          unfold Stay
          refine wpList_store_row rfl 28 _ _ rfl b2 (⟨(o1, c1, F.a.2.2), (some ⟨gs, 0, none⟩, sc, F.s.2.2), (o2, c2, F.r.2.2), (o3, c3, F.o.2.2), (o4, c4, F.g.2.2), (o5, c5, F.m.2.2), (o6, c6, F.i.2.2), (o7, c7, F.p.2.2), (o8, c8, F.w.2.2), (some ⟨gu, 0, none⟩, vc, us), (o9, c9, F.x.2.2)⟩ : Pf).arr rfl rfl 28 c2' hc2 (U.size_arr _) (by rw [hz2]; rfl) (by simp [U.Pf.arr, Value.oneCell']) ?_
          have qB := hide' (setRow_heap V8 b2 c2' (⟨(o1, c1, F.a.2.2), (some ⟨gs, 0, none⟩, sc, F.s.2.2), (o2, c2, F.r.2.2), (o3, c3, F.o.2.2), (o4, c4, F.g.2.2), (o5, c5, F.m.2.2), (o6, c6, F.i.2.2), (o7, c7, F.p.2.2), (o8, c8, F.w.2.2), (some ⟨gu, 0, none⟩, vc, us), (o9, c9, F.x.2.2)⟩ : Pf).arr 28 (0, 0) hc2)
          have tB : Hid (Turn (fun j => j = b2) V8 (V8.setRow b2 (⟨(o1, c1, F.a.2.2), (some ⟨gs, 0, none⟩, sc, F.s.2.2), (o2, c2, F.r.2.2), (o3, c3, F.o.2.2), (o4, c4, F.g.2.2), (o5, c5, F.m.2.2), (o6, c6, F.i.2.2), (o7, c7, F.p.2.2), (o8, c8, F.w.2.2), (some ⟨gu, 0, none⟩, vc, us), (o9, c9, F.x.2.2)⟩ : Pf).arr)) := U.setRow_turn V8 b2 _
          have hT : U.Soft2 (fun j => j = b2) V8 := fun j e => by
            have e' : j = b2 := e
            subst e'
            exact ⟨_, 28, hc2, .inl rfl⟩
          have RB := hide' (And.intro (TB.out.rs.turn tB.out hT) (And.intro (show URow w.heap.size (⟨(o1, c1, F.a.2.2), (some ⟨gs, 0, none⟩, sc, F.s.2.2), (o2, c2, F.r.2.2), (o3, c3, F.o.2.2), (o4, c4, F.g.2.2), (o5, c5, F.m.2.2), (o6, c6, F.i.2.2), (o7, c7, F.p.2.2), (o8, c8, F.w.2.2), (some ⟨gu, 0, none⟩, vc, us), (o9, c9, F.x.2.2)⟩ : Pf) _ from TB.out.u.turn tB.out (fun j q e => by obtain ⟨cur, k⟩ := U.kindG TB.out.u q; rw [e] at k; exact cells_ne k hc2 (by decide) rfl)) (TB.out.b.trans (below_own tB.out (fun j q => by rw [q]; exact TB.out.l2) TB.out.b.size))))
          clear hT tB hc2 hz2 TB
          generalize V8.setRow b2 (⟨(o1, c1, F.a.2.2), (some ⟨gs, 0, none⟩, sc, F.s.2.2), (o2, c2, F.r.2.2), (o3, c3, F.o.2.2), (o4, c4, F.g.2.2), (o5, c5, F.m.2.2), (o6, c6, F.i.2.2), (o7, c7, F.p.2.2), (o8, c8, F.w.2.2), (some ⟨gu, 0, none⟩, vc, us), (o9, c9, F.x.2.2)⟩ : Pf).arr = V9 at *
          go_wp2_with fail
          exact bodyPost_ret (results_cell_row rfl _ _ b2 28 (⟨(o1, c1, F.a.2.2), (some ⟨gs, 0, none⟩, sc, F.s.2.2), (o2, c2, F.r.2.2), (o3, c3, F.o.2.2), (o4, c4, F.g.2.2), (o5, c5, F.m.2.2), (o6, c6, F.i.2.2), (o7, c7, F.p.2.2), (o8, c8, F.w.2.2), (some ⟨gu, 0, none⟩, vc, us), (o9, c9, F.x.2.2)⟩ : Pf).arr (0, 0) _ rfl qB.out Try.underlying28 rfl (U.size_arr _)) rfl ⟨_, rfl, ⟨rfl, rfl, rfl, rfl, rfl, rfl, rfl, rfl, rfl, HU3.out.2, rfl⟩, RB.out.1, RB.out.2.1, RB.out.2.2⟩
end D
end Go.Proofs.Ytollaamlnddhcaa
set_option linter.unusedVariables false
set_option linter.unusedSimpArgs false
namespace Go.Proofs.Ytollaamlnddhcaa
open Go.RowKit Go.Maps
namespace D
open U (Pf Fine rel fo fos Tw)
theorem fo_nodup_take (xs : List ByteArray) (n : Nat) : (fo (xs.take n)).Nodup := by
  induction n with
  | zero => simp [fo]
  | succ n ih =>
    cases h : xs[n]? with
    | none =>
      have e1 : xs.take (n + 1) = xs.take n := by rw [List.take_add_one, h]; simp
      rw [e1]; exact ih
    | some s =>
      rw [U.fo_take h]
      split
      · exact ih
      · rename_i q
        refine List.nodup_append.2 ⟨ih, by simp, ?_⟩
        intro a ha b hb e
        rw [List.mem_singleton] at hb
        subst hb
        exact q (isIn_yes (e ▸ ha))
theorem fo_nodup (xs : List ByteArray) : (fo xs).Nodup := by have := fo_nodup_take xs xs.length; rwa [List.take_length] at this
theorem trs_nodup {al ol sl : List ByteArray} (ha : al.Nodup) (ho : ol.Nodup) (hs : sl.Nodup) : (U.trs al ol sl).Nodup := by
  unfold U.trs
  refine List.pairwise_flatMap.2 ⟨fun s _ => List.pairwise_flatMap.2 ⟨fun o _ => List.pairwise_map.2 (ha.imp (fun h e => h (by cases e; rfl))), ho.imp (fun h x hx y hy e => ?_)⟩, hs.imp (fun h x hx y hy e => ?_)⟩
  · obtain ⟨a, _, rfl⟩ := List.mem_map.1 hx
    obtain ⟨b, _, rfl⟩ := List.mem_map.1 hy
    cases e; exact h rfl
  · obtain ⟨a, _, hx⟩ := List.mem_flatMap.1 hx
    obtain ⟨a', _, rfl⟩ := List.mem_map.1 hx
    obtain ⟨b, _, hy⟩ := List.mem_flatMap.1 hy
    obtain ⟨b', _, rfl⟩ := List.mem_map.1 hy
    cases e; exact h rfl
theorem rel_nodup (F : Pf) : (rel F).Nodup := by
  rw [U.rel_trs]
  exact (trs_nodup (fo_nodup _) (fo_nodup _) (fo_nodup _)).filter _
theorem wo_nodup {ts us : List X.K3} (h : ts.Nodup) : (wo ts us).Nodup := h.filter _
theorem chg_nodup {ts us : List X.K3} (h1 : ts.Nodup) (h2 : us.Nodup) : (chg ts us).Nodup := by
  unfold chg
  refine List.nodup_append.2 ⟨List.pairwise_map.2 ((wo_nodup h1).imp (fun h e => h (by cases e; rfl))), List.pairwise_map.2 ((wo_nodup h2).imp (fun h e => h (by cases e; rfl))), ?_⟩
  intro a ha b hb e
  obtain ⟨x, _, rfl⟩ := List.mem_map.1 ha
  obtain ⟨y, _, rfl⟩ := List.mem_map.1 hb
  cases e
theorem cnt_one {zs : List Ch} {c : Ch} (h : zs.Nodup) (hc : c ∈ zs) : cnt zs c = 1 := by
  unfold cnt
  induction zs with
  | nil => cases hc
  | cons a r ih =>
    obtain ⟨h1, h2⟩ := List.nodup_cons.1 h
    by_cases e : a = c
    · subst e
      have : r.filter (fun z => decide (z = a)) = [] := by
        rw [List.filter_eq_nil_iff]
        intro z hz
        simp
        rintro rfl
        exact h1 hz
      simp [this]
    · rw [List.filter_cons_of_neg (by simpa using e)]
      rcases List.mem_cons.1 hc with q | q
      · exact absurd q.symm e
      · exact ih h2 q
theorem chg_mem {ts us : List X.K3} {t : X.K3} {g : Bool} (h : (t, g) ∈ chg ts us) : (t, !g) ∈ chg us ts := by
  unfold chg at h ⊢
  rcases List.mem_append.1 h with q | q
  · obtain ⟨x, hx, e⟩ := List.mem_map.1 q
    cases e
    exact List.mem_append.2 (.inr (List.mem_map.2 ⟨_, hx, rfl⟩))
  · obtain ⟨x, hx, e⟩ := List.mem_map.1 q
    cases e
    exact List.mem_append.2 (.inl (List.mem_map.2 ⟨_, hx, rfl⟩))
theorem chg_back {F G : Pf} {t : X.K3} {g : Bool} {i : Nat} (h : (chg (rel F) (rel G))[i]? = some (t, g)) : cnt (chg (rel G) (rel F)) (t, !g) = 1 := cnt_one (chg_nodup (rel_nodup G) (rel_nodup F)) (chg_mem (List.mem_of_getElem? h))
theorem chg_len_comm (ts us : List X.K3) : (chg ts us).length = (chg us ts).length := by rw [chg_len, chg_len, Nat.add_comm]
theorem rel_tw {F J : Pf} (h : Tw F J) : rel J = rel F := by
  rw [U.rel_trs, U.rel_trs, U.trs_nm h.nm]
  congr 1
  funext t
  show U.alw J t.1 t.2.1 t.2.2 = U.alw F t.1 t.2.1 t.2.2
  have id : Tw F F := ⟨rfl, rfl, rfl, rfl, rfl, rfl, rfl, rfl, rfl, rfl, rfl⟩
  rw [U.alw_tw h.nm h.u, U.alw_tw id.nm id.u, h.x]
theorem few_tw {F J : Pf} (h : Tw F J) (hf : few F) : few J := by unfold few; rw [U.few_nm h.nm]; exact hf
end D
end Go.Proofs.Ytollaamlnddhcaa
set_option linter.unusedVariables false
set_option linter.unusedSimpArgs false
namespace Go.Proofs.Ytollaamlnddhcaa
open Go.RowKit Go.Maps
namespace D
open U (Pf Fine rel fo fos Tw vst)
/-- a twin, fit to be asked of -/
def TwC (F : Pf) (N : Nat) (w : World) (e : Ending) (w' : World) : Prop := ∃ J : Pf, e = .returned (.agg J.arr) ∧ rel J = rel F ∧ J.In w' ∧ Fine J N ∧ few J ∧ Below w.heap.size w w'
theorem twin_call (F : Pf) (N : Nat) (w : World) (h : F.In w) (f : Fine F N) (hv : few F) : Calls Try.prog 11 #[.agg F.arr] w fun e w' => TwC F N w e w' := by
  refine (twin_any F w h f.small).mono ?_
  rintro e w' ⟨J, rfl, tw, rs, u, b⟩
  exact ⟨J, rfl, rel_tw tw, rs.pin u, tw.fine f, few_tw tw hv, b⟩
theorem VI_two (A B : Pf) (V : World) : VI (some ⟨V.heap.size, 0, none⟩) [A, B] (V.alloc (.cells #[.slice A.a.1 A.a.2.2.length A.a.2.1, .slice A.s.1 A.s.2.2.length A.s.2.1, .slice A.r.1 A.r.2.2.length A.r.2.1, .slice A.o.1 A.o.2.2.length A.o.2.1, .slice A.g.1 A.g.2.2.length A.g.2.1, .slice A.m.1 A.m.2.2.length A.m.2.1, .slice A.i.1 A.i.2.2.length A.i.2.1, .slice A.p.1 A.p.2.2.length A.p.2.1, .slice A.w.1 A.w.2.2.length A.w.2.1, .slice A.u.1 A.u.2.2.length A.u.2.1, .slice A.x.1 A.x.2.2.length A.x.2.1, .slice B.a.1 B.a.2.2.length B.a.2.1, .slice B.s.1 B.s.2.2.length B.s.2.1, .slice B.r.1 B.r.2.2.length B.r.2.1, .slice B.o.1 B.o.2.2.length B.o.2.1, .slice B.g.1 B.g.2.2.length B.g.2.1, .slice B.m.1 B.m.2.2.length B.m.2.1, .slice B.i.1 B.i.2.2.length B.i.2.1, .slice B.p.1 B.p.2.2.length B.p.2.1, .slice B.w.1 B.w.2.2.length B.w.2.1, .slice B.u.1 B.u.2.2.length B.u.2.1, .slice B.x.1 B.x.2.2.length B.x.2.1] 28)) := by
  have h := heap_alloc_new V (.cells #[.slice A.a.1 A.a.2.2.length A.a.2.1, .slice A.s.1 A.s.2.2.length A.s.2.1, .slice A.r.1 A.r.2.2.length A.r.2.1, .slice A.o.1 A.o.2.2.length A.o.2.1, .slice A.g.1 A.g.2.2.length A.g.2.1, .slice A.m.1 A.m.2.2.length A.m.2.1, .slice A.i.1 A.i.2.2.length A.i.2.1, .slice A.p.1 A.p.2.2.length A.p.2.1, .slice A.w.1 A.w.2.2.length A.w.2.1, .slice A.u.1 A.u.2.2.length A.u.2.1, .slice A.x.1 A.x.2.2.length A.x.2.1, .slice B.a.1 B.a.2.2.length B.a.2.1, .slice B.s.1 B.s.2.2.length B.s.2.1, .slice B.r.1 B.r.2.2.length B.r.2.1, .slice B.o.1 B.o.2.2.length B.o.2.1, .slice B.g.1 B.g.2.2.length B.g.2.1, .slice B.m.1 B.m.2.2.length B.m.2.1, .slice B.i.1 B.i.2.2.length B.i.2.1, .slice B.p.1 B.p.2.2.length B.p.2.1, .slice B.w.1 B.w.2.2.length B.w.2.1, .slice B.u.1 B.u.2.2.length B.u.2.1, .slice B.x.1 B.x.2.2.length B.x.2.1] 28)
  refine .inr ⟨V.heap.size, 0, rfl, by simp, fun i F q => ?_⟩
  match i, q with
  | 0, q => simp at q; subst q; exact ⟨by rw [Lib.cell_of_heap h]; rfl, by rw [Lib.cell_of_heap h]; rfl, by rw [Lib.cell_of_heap h]; rfl⟩
  | 1, q => simp at q; subst q; exact ⟨by rw [Lib.cell_of_heap h]; rfl, by rw [Lib.cell_of_heap h]; rfl, by rw [Lib.cell_of_heap h]; rfl⟩
  | j + 2, q => simp at q
theorem vs_few {F : Pf} (h : vs F = false) : few F := U.vst_few h
set_option maxRecDepth 100000 in
set_option maxHeartbeats 8000000 in
theorem diffBack_walk (A B : Pf) (N N' : Nat) (w : World) (hA : A.In w) (hB : B.In w) (fA : Fine A N) (fB : Fine B N') : Calls Try.prog 7 #[.agg A.arr, .agg B.arr] w fun e w' => e = .returned (.bool true) ∧ Below w.heap.size w w' := by
  have HA := hide' (And.intro hA fA)
  have HB := hide' (And.intro hB fB)
  clear hA hB fA fB
  go_enter Try.func7, Try.ntmps7
  go_wp2_with fail
  have B0 : Hid (Below w.heap.size w ((w.alloc (.cells A.arr 28)).alloc (.cells B.arr 28)) ∧ ((w.alloc (.cells A.arr 28)).alloc (.cells B.arr 28)).heap[w.heap.size]? = some (.cells A.arr 28 (0, 0)) ∧ ((w.alloc (.cells A.arr 28)).alloc (.cells B.arr 28)).heap[w.heap.size + 1]? = some (.cells B.arr 28 (0, 0))) := ⟨((Below.refl _ _).alloc (Nat.le_refl _) _).alloc (by simp) _, (Below.heap_alloc _ _ _ (by simp)).trans (heap_alloc_new w _), by have := heap_alloc_new (w.alloc (.cells A.arr 28)) (.cells B.arr 28); rwa [World.size_alloc] at this⟩
  generalize (w.alloc (.cells A.arr 28)).alloc (.cells B.arr 28) = V at *
  obtain ⟨q2, hq2⟩ : ∃ q2, q2 = w.heap.size := ⟨_, rfl⟩
  obtain ⟨q3, hq3⟩ : ∃ q3, q3 = w.heap.size + 1 := ⟨_, rfl⟩
  rw [← hq3, ← hq2]
  have B1 : Hid (Below w.heap.size w V ∧ V.heap[q2]? = some (.cells A.arr 28 (0, 0)) ∧ V.heap[q3]? = some (.cells B.arr 28 (0, 0))) := by rw [hq2, hq3]; exact B0
  clear hq2 hq3 B0
  have BW : Hid (∀ (V V' : World), (Below w.heap.size w V ∧ V.heap[q2]? = some (.cells A.arr 28 (0, 0)) ∧ V.heap[q3]? = some (.cells B.arr 28 (0, 0))) → Below V.heap.size V V' → (Below w.heap.size w V' ∧ V'.heap[q2]? = some (.cells A.arr 28 (0, 0)) ∧ V'.heap[q3]? = some (.cells B.arr 28 (0, 0)))) := fun V V' p b => ⟨p.1.trans (b.mono p.1.size), (b.block _ (lt_of_heap p.2.1)).trans p.2.1, (b.block _ (lt_of_heap p.2.2)).trans p.2.2⟩
  refine (alive_any V).mono ?_
  rintro e V1 ⟨rfl, b1⟩
  have B2 := hide' (BW.out _ _ B1.out b1)
  clear B1 b1 V
  go_wp2_with (with_reducible refine U.stay_load 28 _ rfl ?_)
  unfold U.Stay
  refine wpList_load_row rfl 28 _ rfl q2 rfl 28 #[.slice A.a.1 A.a.2.2.length A.a.2.1, .slice A.s.1 A.s.2.2.length A.s.2.1, .slice A.r.1 A.r.2.2.length A.r.2.1, .slice A.o.1 A.o.2.2.length A.o.2.1, .slice A.g.1 A.g.2.2.length A.g.2.1, .slice A.m.1 A.m.2.2.length A.m.2.1, .slice A.i.1 A.i.2.2.length A.i.2.1, .slice A.p.1 A.p.2.2.length A.p.2.1, .slice A.w.1 A.w.2.2.length A.w.2.1, .slice A.u.1 A.u.2.2.length A.u.2.1, .slice A.x.1 A.x.2.2.length A.x.2.1] (0, 0) _ B2.out.2.1 Try.underlying28 rfl (U.size_arr A) ?_
  go_wp2_with (with_reducible refine U.stay_load 28 _ rfl ?_)
  unfold U.Stay
  refine wpList_load_row rfl 28 _ rfl q3 rfl 28 #[.slice B.a.1 B.a.2.2.length B.a.2.1, .slice B.s.1 B.s.2.2.length B.s.2.1, .slice B.r.1 B.r.2.2.length B.r.2.1, .slice B.o.1 B.o.2.2.length B.o.2.1, .slice B.g.1 B.g.2.2.length B.g.2.1, .slice B.m.1 B.m.2.2.length B.m.2.1, .slice B.i.1 B.i.2.2.length B.i.2.1, .slice B.p.1 B.p.2.2.length B.p.2.1, .slice B.w.1 B.w.2.2.length B.w.2.1, .slice B.u.1 B.u.2.2.length B.u.2.1, .slice B.x.1 B.x.2.2.length B.x.2.1] (0, 0) _ B2.out.2.2 Try.underlying28 rfl (U.size_arr B) ?_
  go_wp2_with fail
  have b2 : Below V1.heap.size V1 (V1.alloc (.cells #[.slice A.a.1 A.a.2.2.length A.a.2.1, .slice A.s.1 A.s.2.2.length A.s.2.1, .slice A.r.1 A.r.2.2.length A.r.2.1, .slice A.o.1 A.o.2.2.length A.o.2.1, .slice A.g.1 A.g.2.2.length A.g.2.1, .slice A.m.1 A.m.2.2.length A.m.2.1, .slice A.i.1 A.i.2.2.length A.i.2.1, .slice A.p.1 A.p.2.2.length A.p.2.1, .slice A.w.1 A.w.2.2.length A.w.2.1, .slice A.u.1 A.u.2.2.length A.u.2.1, .slice A.x.1 A.x.2.2.length A.x.2.1, .slice B.a.1 B.a.2.2.length B.a.2.1, .slice B.s.1 B.s.2.2.length B.s.2.1, .slice B.r.1 B.r.2.2.length B.r.2.1, .slice B.o.1 B.o.2.2.length B.o.2.1, .slice B.g.1 B.g.2.2.length B.g.2.1, .slice B.m.1 B.m.2.2.length B.m.2.1, .slice B.i.1 B.i.2.2.length B.i.2.1, .slice B.p.1 B.p.2.2.length B.p.2.1, .slice B.w.1 B.w.2.2.length B.w.2.1, .slice B.u.1 B.u.2.2.length B.u.2.1, .slice B.x.1 B.x.2.2.length B.x.2.1] 28)) := (Below.refl _ _).alloc (Nat.le_refl _) _
  refine (vast_any [A, B] (some ⟨V1.heap.size, 0, none⟩) 2 _ (VI_two A B V1) (by simp) (by simp) (fun F hF => by simp only [List.mem_cons, List.mem_nil_iff, or_false] at hF; rcases hF with rfl | rfl; exact HA.out.2.small; exact HB.out.2.small)).mono ?_
  rintro e V2 ⟨rfl, b3⟩
  have B3 := hide' (BW.out _ _ (BW.out _ _ B2.out b2) b3)
  clear B2 b2 b3
  cases hv : [A, B].any vs with
  | true =>
    clear hv
    go_wp2_with fail
    go_ret
    exact ⟨rfl, B3.out.1⟩
  | false =>
  have vA : Hid (few A) := vs_few (by simp at hv; exact hv.1)
  have vB : Hid (few B) := vs_few (by simp at hv; exact hv.2)
  clear hv
  have TA : Hid (∀ V, (Below w.heap.size w V ∧ V.heap[q2]? = some (.cells A.arr 28 (0, 0)) ∧ V.heap[q3]? = some (.cells B.arr 28 (0, 0))) → Calls Try.prog 11 #[.agg A.arr] V fun e w' => TwC A N V e w') := fun V b => twin_call A N V (HA.out.1.below b.1) HA.out.2 vA.out
  have TB : Hid (∀ V, (Below w.heap.size w V ∧ V.heap[q2]? = some (.cells A.arr 28 (0, 0)) ∧ V.heap[q3]? = some (.cells B.arr 28 (0, 0))) → Calls Try.prog 11 #[.agg B.arr] V fun e w' => TwC B N' V e w') := fun V b => twin_call B N' V (HB.out.1.below b.1) HB.out.2 vB.out
  obtain ⟨n, hn⟩ : ∃ n, n = (chg (rel A) (rel B)).length := ⟨_, rfl⟩
  have HN := hide' hn
  clear hn
  have hn64 : (n : Int) ≤ 131072 := by have := HN.out; rw [chg_len] at this; have := wo_le (rel A) (rel B); have := wo_le (rel B) (rel A); have := rel_few vA.out; have := rel_few vB.out; omega
  have LA : Hid (∀ (J K : Pf) (V : World), rel J = rel A → rel K = rel B → J.In V → K.In V → Fine J N → Fine K N' → few J → few K → Calls Try.prog 12 #[.agg J.arr, .agg K.arr] V fun e w' => ∃ o c, e = .returned (.slice o n c) ∧ Cr V.heap.size o c (chg (rel A) (rel B)) w' ∧ Below V.heap.size V w') := fun J K V e1 e2 i1 i2 f1 f2 v1 v2 => by
    refine (list_call J K N N' V i1 i2 f1 f2 v1 v2).mono ?_
    rintro e w' ⟨o, c, rfl, r, b⟩
    rw [e1, e2] at r
    rw [e1, e2, ← HN.out]
    exact ⟨o, c, rfl, r, b⟩
  have LB : Hid (∀ (K J : Pf) (V : World), rel K = rel B → rel J = rel A → K.In V → J.In V → Fine K N' → Fine J N → few K → few J → Calls Try.prog 12 #[.agg K.arr, .agg J.arr] V fun e w' => ∃ o c, e = .returned (.slice o n c) ∧ Cr V.heap.size o c (chg (rel B) (rel A)) w' ∧ Below V.heap.size V w') := fun K J V e1 e2 i1 i2 f1 f2 v1 v2 => by
    refine (list_call K J N' N V i1 i2 f1 f2 v1 v2).mono ?_
    rintro e w' ⟨o, c, rfl, r, b⟩
    rw [e1, e2] at r
    rw [e1, e2, chg_len_comm, ← HN.out]
    exact ⟨o, c, rfl, r, b⟩
  obtain ⟨sb, hsb⟩ : ∃ sb : Bool, sb = (n == 0) := ⟨_, rfl⟩
  have HSB := hide' hsb
  clear hsb
  have SA : Hid (∀ (J K : Pf) (V : World), rel J = rel A → rel K = rel B → J.In V → K.In V → Fine J N → Fine K N' → few J → few K → Calls Try.prog 15 #[.agg J.arr, .agg K.arr] V fun e w' => e = .returned (.bool sb) ∧ Below V.heap.size V w') := fun J K V e1 e2 i1 i2 f1 f2 v1 v2 => by
    refine (same_call J K N N' V i1 i2 f1 f2 v1 v2).mono ?_
    rintro e w' ⟨rfl, b⟩
    rw [e1, e2, ← HN.out, ← HSB.out]
    exact ⟨rfl, b⟩
  have SB : Hid (∀ (K J : Pf) (V : World), rel K = rel B → rel J = rel A → K.In V → J.In V → Fine K N' → Fine J N → few K → few J → Calls Try.prog 15 #[.agg K.arr, .agg J.arr] V fun e w' => e = .returned (.bool sb) ∧ Below V.heap.size V w') := fun K J V e1 e2 i1 i2 f1 f2 v1 v2 => by
    refine (same_call K J N' N V i1 i2 f1 f2 v1 v2).mono ?_
    rintro e w' ⟨rfl, b⟩
    rw [e1, e2, chg_len_comm, ← HN.out, ← HSB.out]
    exact ⟨rfl, b⟩
  go_wp2_with fail
  have d0 : Below V2.heap.size V2 V2.drew := ⟨rfl, rfl, rfl, Nat.le_refl _, fun _ _ => rfl⟩
  have xB0 := hide' (BW.out _ _ B3.out d0)
  refine wp_region_held_drew (S := (fun V => V.heap[q2]? = some (.cells A.arr 28 (0, 0)) ∧ V.heap[q3]? = some (.cells B.arr 28 (0, 0)))) (by kernel_rfl) ⟨xB0.out.2.1, xB0.out.2.2⟩ (fun hHeld => ?_)
  refine wpAnyH_take (i := 0) (oi := { dst := some 18, op := Op.load 28 (Operand.tmp 2), type := 28, pos := "outright.go:104", after := #[], guard := none }) (v := .agg A.arr) rfl (by kernel_rfl) (by kernel_rfl) (by kernel_rfl) (fun _ _ _ h => h) (Or.inl ⟨by kernel_rfl, fun w hSw => ?_⟩) (by assumption) ?_
  · exact U.ex_row 28 _ rfl q2 rfl 28 _ (0, 0) _ hSw.1 Try.underlying28 rfl (U.size_arr _)
  (try simp only [Act.put, List.setIfInBounds_toArray, List.set_cons_zero, List.set_cons_succ])
  refine wpAnyH_take (i := 2) (oi := { dst := some 20, op := Op.load 28 (Operand.tmp 3), type := 28, pos := "outright.go:104", after := #[], guard := none }) (v := .agg B.arr) rfl (by kernel_rfl) (by kernel_rfl) (by kernel_rfl) (fun _ _ _ h => h) (Or.inl ⟨by kernel_rfl, fun w hSw => ?_⟩) (by assumption) ?_
  · exact U.ex_row 28 _ rfl q3 rfl 28 _ (0, 0) _ hSw.2 Try.underlying28 rfl (U.size_arr _)
  (try simp only [Act.put, List.setIfInBounds_toArray, List.set_cons_zero, List.set_cons_succ])
  refine wpAnyH_ready (rs := [1]) (by kernel_rfl) (by simp) ?_
  refine AllReadyH.cons (o := { dst := some 19, op := Op.call { callee := Callee.value (Operand.func 11), args := #[Operand.tmp 18], argTypes := #[28] }, type := 28, pos := "outright.go:104", after := #[{ on := 0, ground := Ground.data }], guard := none }) rfl (fun K hK => ?_) AllReadyH.nil
  go_simp
  refine (TA.out _ xB0.out).mono ?_
  rintro e x1 ⟨Jx, rfl, ex1, nx1, fx1, vx1, b⟩
  have xB1 := hide' (BW.out _ _ xB0.out b)
  have xD1 : Hid (Below V2.heap.size V2 x1) := d0.trans (b.mono d0.size)
  have xT1 := hide' (And.intro ex1 (And.intro nx1 (And.intro fx1 vx1)))
  clear ex1 nx1 fx1 vx1 b
  (try dsimp only)
  refine hK.out _ _ (⟨xB1.out.2.1, xB1.out.2.2⟩) (fun hHeld => ?_)
  clear hK K
  (try simp only [Act.put, List.setIfInBounds_toArray, List.set_cons_zero, List.set_cons_succ])
  refine wpAnyH_ready (rs := [3]) (by kernel_rfl) (by simp) ?_
  refine AllReadyH.cons (o := { dst := some 21, op := Op.call { callee := Callee.value (Operand.func 11), args := #[Operand.tmp 20], argTypes := #[28] }, type := 28, pos := "outright.go:104", after := #[{ on := 2, ground := Ground.data }, { on := 1, ground := Ground.chain }], guard := none }) rfl (fun K hK => ?_) AllReadyH.nil
  go_simp
  refine (TB.out _ xB1.out).mono ?_
  rintro e x2 ⟨Kx, rfl, ex2, nx2, fx2, vx2, b⟩
  have xB2 := hide' (BW.out _ _ xB1.out b)
  have xD2 : Hid (Below V2.heap.size V2 x2) := xD1.out.trans (b.mono xD1.out.size)
  have xT2 := hide' (And.intro (And.intro xT1.out.1 (And.intro (xT1.out.2.1.below b) xT1.out.2.2)) (And.intro ex2 (And.intro nx2 (And.intro fx2 vx2))))
  clear ex2 nx2 fx2 vx2 b xT1 xB1
  (try dsimp only)
  refine hK.out _ _ (⟨xB2.out.2.1, xB2.out.2.2⟩) (fun hHeld => ?_)
  clear hK K
  (try simp only [Act.put, List.setIfInBounds_toArray, List.set_cons_zero, List.set_cons_succ])
  refine wpAnyH_ready (rs := [4]) (by kernel_rfl) (by simp) ?_
  refine AllReadyH.cons (o := { dst := some 22, op := Op.call { callee := Callee.value (Operand.func 12), args := #[Operand.tmp 19, Operand.tmp 21], argTypes := #[28, 28] }, type := 30, pos := "outright.go:104", after := #[{ on := 1, ground := Ground.data }, { on := 3, ground := Ground.data }, { on := 3, ground := Ground.chain }], guard := none }) rfl (fun K hK => ?_) AllReadyH.nil
  go_simp
  refine (LA.out Jx Kx _ xT2.out.1.1 xT2.out.2.1 xT2.out.1.2.1 xT2.out.2.2.1 xT2.out.1.2.2.1 xT2.out.2.2.2.1 xT2.out.1.2.2.2 xT2.out.2.2.2.2).mono ?_
  rintro e x3 ⟨o1, c1, rfl, r1, b⟩
  have xB3 := hide' (BW.out _ _ xB2.out b)
  have xD3 : Hid (Below V2.heap.size V2 x3) := xD2.out.trans (b.mono xD2.out.size)
  have xR := hide' r1
  clear r1 b xT2 xB2
  (try dsimp only)
  refine hK.out _ _ (⟨xB3.out.2.1, xB3.out.2.2⟩) (fun hHeld => ?_)
  clear hK K
  (try simp only [Act.put, List.setIfInBounds_toArray, List.set_cons_zero, List.set_cons_succ])
  refine wpAnyH_take (i := 5) (oi := { dst := some 7, op := Op.assign (Operand.tmp 22), type := 30, pos := "outright.go:104", after := #[{ on := 4, ground := Ground.data }, { on := 4, ground := Ground.chain }, { on := 0, ground := Ground.phase }, { on := 1, ground := Ground.phase }, { on := 2, ground := Ground.phase }, { on := 3, ground := Ground.phase }, { on := 4, ground := Ground.phase }], guard := none }) (v := .slice o1 n c1) rfl (by kernel_rfl) (by kernel_rfl) (by kernel_rfl) (fun _ _ _ h => h) (Or.inl ⟨by kernel_rfl, fun w hSw => ?_⟩) (by assumption) ?_
  · clear hSw; go_simp
  (try simp only [Act.put, List.setIfInBounds_toArray, List.set_cons_zero, List.set_cons_succ])
  refine wpAnyH_done (by kernel_rfl) ?_ _
  clear d0 xB0 B3
  simp only [Exit.then]
  go_wp2_with fail
  have d0 : Below x3.heap.size x3 x3.drew := ⟨rfl, rfl, rfl, Nat.le_refl _, fun _ _ => rfl⟩
  have yB0 := hide' (BW.out _ _ xB3.out d0)
  refine wp_region_held_drew (S := (fun V => V.heap[q2]? = some (.cells A.arr 28 (0, 0)) ∧ V.heap[q3]? = some (.cells B.arr 28 (0, 0)))) (by kernel_rfl) ⟨yB0.out.2.1, yB0.out.2.2⟩ (fun hHeld => ?_)
  refine wpAnyH_take (i := 0) (oi := { dst := some 23, op := Op.load 28 (Operand.tmp 3), type := 28, pos := "outright.go:105", after := #[], guard := none }) (v := .agg B.arr) rfl (by kernel_rfl) (by kernel_rfl) (by kernel_rfl) (fun _ _ _ h => h) (Or.inl ⟨by kernel_rfl, fun w hSw => ?_⟩) (by assumption) ?_
  · exact U.ex_row 28 _ rfl q3 rfl 28 _ (0, 0) _ hSw.2 Try.underlying28 rfl (U.size_arr _)
  (try simp only [Act.put, List.setIfInBounds_toArray, List.set_cons_zero, List.set_cons_succ])
  refine wpAnyH_take (i := 2) (oi := { dst := some 25, op := Op.load 28 (Operand.tmp 2), type := 28, pos := "outright.go:105", after := #[], guard := none }) (v := .agg A.arr) rfl (by kernel_rfl) (by kernel_rfl) (by kernel_rfl) (fun _ _ _ h => h) (Or.inl ⟨by kernel_rfl, fun w hSw => ?_⟩) (by assumption) ?_
  · exact U.ex_row 28 _ rfl q2 rfl 28 _ (0, 0) _ hSw.1 Try.underlying28 rfl (U.size_arr _)
  (try simp only [Act.put, List.setIfInBounds_toArray, List.set_cons_zero, List.set_cons_succ])
  refine wpAnyH_ready (rs := [1]) (by kernel_rfl) (by simp) ?_
  refine AllReadyH.cons (o := { dst := some 24, op := Op.call { callee := Callee.value (Operand.func 11), args := #[Operand.tmp 23], argTypes := #[28] }, type := 28, pos := "outright.go:105", after := #[{ on := 0, ground := Ground.data }], guard := none }) rfl (fun K hK => ?_) AllReadyH.nil
  go_simp
  refine (TB.out _ yB0.out).mono ?_
  rintro e y1 ⟨Jy, rfl, ey1, ny1, fy1, vy1, b⟩
  have yB1 := hide' (BW.out _ _ yB0.out b)
  have yD1 : Hid (Below x3.heap.size x3 y1) := d0.trans (b.mono d0.size)
  have yT1 := hide' (And.intro ey1 (And.intro ny1 (And.intro fy1 vy1)))
  clear ey1 ny1 fy1 vy1 b
  (try dsimp only)
  refine hK.out _ _ (⟨yB1.out.2.1, yB1.out.2.2⟩) (fun hHeld => ?_)
  clear hK K
  (try simp only [Act.put, List.setIfInBounds_toArray, List.set_cons_zero, List.set_cons_succ])
  refine wpAnyH_ready (rs := [3]) (by kernel_rfl) (by simp) ?_
  refine AllReadyH.cons (o := { dst := some 26, op := Op.call { callee := Callee.value (Operand.func 11), args := #[Operand.tmp 25], argTypes := #[28] }, type := 28, pos := "outright.go:105", after := #[{ on := 2, ground := Ground.data }, { on := 1, ground := Ground.chain }], guard := none }) rfl (fun K hK => ?_) AllReadyH.nil
  go_simp
  refine (TA.out _ yB1.out).mono ?_
  rintro e y2 ⟨Ky, rfl, ey2, ny2, fy2, vy2, b⟩
  have yB2 := hide' (BW.out _ _ yB1.out b)
  have yD2 : Hid (Below x3.heap.size x3 y2) := yD1.out.trans (b.mono yD1.out.size)
  have yT2 := hide' (And.intro (And.intro yT1.out.1 (And.intro (yT1.out.2.1.below b) yT1.out.2.2)) (And.intro ey2 (And.intro ny2 (And.intro fy2 vy2))))
  clear ey2 ny2 fy2 vy2 b yT1 yB1
  (try dsimp only)
  refine hK.out _ _ (⟨yB2.out.2.1, yB2.out.2.2⟩) (fun hHeld => ?_)
  clear hK K
  (try simp only [Act.put, List.setIfInBounds_toArray, List.set_cons_zero, List.set_cons_succ])
  refine wpAnyH_ready (rs := [4]) (by kernel_rfl) (by simp) ?_
  refine AllReadyH.cons (o := { dst := some 27, op := Op.call { callee := Callee.value (Operand.func 12), args := #[Operand.tmp 24, Operand.tmp 26], argTypes := #[28, 28] }, type := 30, pos := "outright.go:105", after := #[{ on := 1, ground := Ground.data }, { on := 3, ground := Ground.data }, { on := 3, ground := Ground.chain }], guard := none }) rfl (fun K hK => ?_) AllReadyH.nil
  go_simp
  refine (LB.out Jy Ky _ yT2.out.1.1 yT2.out.2.1 yT2.out.1.2.1 yT2.out.2.2.1 yT2.out.1.2.2.1 yT2.out.2.2.2.1 yT2.out.1.2.2.2 yT2.out.2.2.2.2).mono ?_
  rintro e y3 ⟨o2, c2, rfl, r2, b⟩
  have yB3 := hide' (BW.out _ _ yB2.out b)
  have yD3 : Hid (Below x3.heap.size x3 y3) := yD2.out.trans (b.mono yD2.out.size)
  have yR := hide' r2
  clear r2 b yT2 yB2
  (try dsimp only)
  refine hK.out _ _ (⟨yB3.out.2.1, yB3.out.2.2⟩) (fun hHeld => ?_)
  clear hK K
  (try simp only [Act.put, List.setIfInBounds_toArray, List.set_cons_zero, List.set_cons_succ])
  refine wpAnyH_take (i := 5) (oi := { dst := some 8, op := Op.assign (Operand.tmp 27), type := 30, pos := "outright.go:105", after := #[{ on := 4, ground := Ground.data }, { on := 4, ground := Ground.chain }, { on := 0, ground := Ground.phase }, { on := 1, ground := Ground.phase }, { on := 2, ground := Ground.phase }, { on := 3, ground := Ground.phase }, { on := 4, ground := Ground.phase }], guard := none }) (v := .slice o2 n c2) rfl (by kernel_rfl) (by kernel_rfl) (by kernel_rfl) (fun _ _ _ h => h) (Or.inl ⟨by kernel_rfl, fun w hSw => ?_⟩) (by assumption) ?_
  · clear hSw; go_simp
  (try simp only [Act.put, List.setIfInBounds_toArray, List.set_cons_zero, List.set_cons_succ])
  refine wpAnyH_done (by kernel_rfl) ?_ _
  clear d0 yB0 xB3
  simp only [Exit.then]
  go_wp2_with fail
  have XR : Hid (Cr 0 o1 c1 (chg (rel A) (rel B)) y3) := (xR.out.down (Nat.zero_le _)).below yD3.out
  have YR : Hid (Cr 0 o2 c2 (chg (rel B) (rel A)) y3) := yR.out.down (Nat.zero_le _)
  clear xR yR
  have d0 : Below y3.heap.size y3 y3.drew := ⟨rfl, rfl, rfl, Nat.le_refl _, fun _ _ => rfl⟩
  have zB0 := hide' (BW.out _ _ yB3.out d0)
  refine wp_region_held_drew (S := (fun V => V.heap[q2]? = some (.cells A.arr 28 (0, 0)) ∧ V.heap[q3]? = some (.cells B.arr 28 (0, 0)))) (by kernel_rfl) ⟨zB0.out.2.1, zB0.out.2.2⟩ (fun hHeld => ?_)
  refine wpAnyH_take (i := 0) (oi := { dst := some 28, op := Op.move (Operand.tmp 5), type := 4, pos := "outright.go:106", after := #[], guard := none }) (v := .bool true) rfl (by kernel_rfl) (by kernel_rfl) (by kernel_rfl) (fun _ _ _ h => h) (Or.inl ⟨by kernel_rfl, fun w hSw => ?_⟩) (by assumption) ?_
  · clear hSw; go_simp
  (try simp only [Act.put, List.setIfInBounds_toArray, List.set_cons_zero, List.set_cons_succ])
  refine wpAnyH_take (i := 1) (oi := { dst := some 29, op := Op.unOp UnOp.not 4 (Operand.tmp 28), type := 4, pos := "outright.go:106", after := #[{ on := 0, ground := Ground.data }], guard := none }) (v := .bool false) rfl (by kernel_rfl) (by kernel_rfl) (by kernel_rfl) (fun _ _ _ h => h) (Or.inl ⟨by kernel_rfl, fun w hSw => ?_⟩) (by assumption) ?_
  · clear hSw; go_simp
  (try simp only [Act.put, List.setIfInBounds_toArray, List.set_cons_zero, List.set_cons_succ])
  refine wpAnyH_take (i := 2) (oi := { dst := some 30, op := Op.move (Operand.tmp 29), type := 4, pos := "outright.go:106", after := #[{ on := 1, ground := Ground.data }], guard := none }) (v := .bool false) rfl (by kernel_rfl) (by kernel_rfl) (by kernel_rfl) (fun _ _ _ h => h) (Or.inl ⟨by kernel_rfl, fun w hSw => ?_⟩) (by assumption) ?_
  · clear hSw; go_simp
  (try simp only [Act.put, List.setIfInBounds_toArray, List.set_cons_zero, List.set_cons_succ])
  refine wpAnyH_take (i := 3) (oi := { dst := some 31, op := Op.move (Operand.tmp 7), type := 30, pos := "outright.go:106", after := #[{ on := 2, ground := Ground.guard }], guard := some (2, false) }) (v := .slice o1 n c1) rfl (by kernel_rfl) (by kernel_rfl) (by kernel_rfl) (fun _ _ _ h => h) (Or.inl ⟨by kernel_rfl, fun w hSw => ?_⟩) (by assumption) ?_
  · clear hSw; go_simp
  (try simp only [Act.put, List.setIfInBounds_toArray, List.set_cons_zero, List.set_cons_succ])
  refine wpAnyH_take (i := 4) (oi := { dst := some 32, op := Op.call { callee := Callee.builtin Builtin.len, args := #[Operand.tmp 31], argTypes := #[30] }, type := 3, pos := "outright.go:106", after := #[{ on := 3, ground := Ground.data }, { on := 2, ground := Ground.guard }], guard := some (2, false) }) (v := .int .i64 (n : Int)) rfl (by kernel_rfl) (by kernel_rfl) (by kernel_rfl) (fun _ _ _ h => h) (Or.inl ⟨by kernel_rfl, fun w hSw => ?_⟩) (by assumption) ?_
  · clear hSw; go_simp
  (try simp only [Act.put, List.setIfInBounds_toArray, List.set_cons_zero, List.set_cons_succ])
  refine wpAnyH_take (i := 5) (oi := { dst := some 33, op := Op.move (Operand.tmp 8), type := 30, pos := "outright.go:106", after := #[{ on := 2, ground := Ground.guard }], guard := some (2, false) }) (v := .slice o2 n c2) rfl (by kernel_rfl) (by kernel_rfl) (by kernel_rfl) (fun _ _ _ h => h) (Or.inl ⟨by kernel_rfl, fun w hSw => ?_⟩) (by assumption) ?_
  · clear hSw; go_simp
  (try simp only [Act.put, List.setIfInBounds_toArray, List.set_cons_zero, List.set_cons_succ])
  refine wpAnyH_take (i := 6) (oi := { dst := some 34, op := Op.call { callee := Callee.builtin Builtin.len, args := #[Operand.tmp 33], argTypes := #[30] }, type := 3, pos := "outright.go:106", after := #[{ on := 5, ground := Ground.data }, { on := 2, ground := Ground.guard }], guard := some (2, false) }) (v := .int .i64 (n : Int)) rfl (by kernel_rfl) (by kernel_rfl) (by kernel_rfl) (fun _ _ _ h => h) (Or.inl ⟨by kernel_rfl, fun w hSw => ?_⟩) (by assumption) ?_
  · clear hSw; go_simp
  (try simp only [Act.put, List.setIfInBounds_toArray, List.set_cons_zero, List.set_cons_succ])
  refine wpAnyH_take (i := 7) (oi := { dst := some 35, op := Op.binOp BinOp.neq 3 (Operand.tmp 32) (Operand.tmp 34) 3, type := 4, pos := "outright.go:106", after := #[{ on := 4, ground := Ground.data }, { on := 6, ground := Ground.data }, { on := 2, ground := Ground.guard }], guard := some (2, false) }) (v := .bool false) rfl (by kernel_rfl) (by kernel_rfl) (by kernel_rfl) (fun _ _ _ h => h) (Or.inl ⟨by kernel_rfl, fun w hSw => ?_⟩) (by assumption) ?_
  · clear hSw; go_simp
  (try simp only [Act.put, List.setIfInBounds_toArray, List.set_cons_zero, List.set_cons_succ])
  refine wpAnyH_take (i := 8) (oi := { dst := some 36, op := Op.pick (Operand.tmp 30) (Operand.const (Value.bool true)) (Operand.tmp 35), type := 4, pos := "outright.go:106", after := #[{ on := 2, ground := Ground.data }, { on := 7, ground := Ground.data }], guard := none }) (v := .bool false) rfl (by kernel_rfl) (by kernel_rfl) (by kernel_rfl) (fun _ _ _ h => h) (Or.inl ⟨by kernel_rfl, fun w hSw => ?_⟩) (by assumption) ?_
  · clear hSw; go_simp
  (try simp only [Act.put, List.setIfInBounds_toArray, List.set_cons_zero, List.set_cons_succ])
  refine wpAnyH_take (i := 9) (oi := { dst := some 37, op := Op.move (Operand.tmp 36), type := 4, pos := "outright.go:106", after := #[{ on := 8, ground := Ground.data }, { on := 2, ground := Ground.chain }], guard := none }) (v := .bool false) rfl (by kernel_rfl) (by kernel_rfl) (by kernel_rfl) (fun _ _ _ h => h) (Or.inl ⟨by kernel_rfl, fun w hSw => ?_⟩) (by assumption) ?_
  · clear hSw; go_simp
  (try simp only [Act.put, List.setIfInBounds_toArray, List.set_cons_zero, List.set_cons_succ])
  refine wpAnyH_take (i := 10) (oi := { dst := some 38, op := Op.load 28 (Operand.tmp 2), type := 28, pos := "outright.go:106", after := #[{ on := 9, ground := Ground.guard }], guard := some (9, false) }) (v := .agg A.arr) rfl (by kernel_rfl) (by kernel_rfl) (by kernel_rfl) (fun _ _ _ h => h) (Or.inl ⟨by kernel_rfl, fun w hSw => ?_⟩) (by assumption) ?_
  · exact U.ex_row 28 _ rfl q2 rfl 28 _ (0, 0) _ hSw.1 Try.underlying28 rfl (U.size_arr _)
  (try simp only [Act.put, List.setIfInBounds_toArray, List.set_cons_zero, List.set_cons_succ])
  refine wpAnyH_take (i := 12) (oi := { dst := some 40, op := Op.load 28 (Operand.tmp 3), type := 28, pos := "outright.go:106", after := #[{ on := 9, ground := Ground.guard }], guard := some (9, false) }) (v := .agg B.arr) rfl (by kernel_rfl) (by kernel_rfl) (by kernel_rfl) (fun _ _ _ h => h) (Or.inl ⟨by kernel_rfl, fun w hSw => ?_⟩) (by assumption) ?_
  · exact U.ex_row 28 _ rfl q3 rfl 28 _ (0, 0) _ hSw.2 Try.underlying28 rfl (U.size_arr _)
  (try simp only [Act.put, List.setIfInBounds_toArray, List.set_cons_zero, List.set_cons_succ])
  refine wpAnyH_take (i := 15) (oi := { dst := some 43, op := Op.load 28 (Operand.tmp 3), type := 28, pos := "outright.go:106", after := #[{ on := 9, ground := Ground.guard }], guard := some (9, false) }) (v := .agg B.arr) rfl (by kernel_rfl) (by kernel_rfl) (by kernel_rfl) (fun _ _ _ h => h) (Or.inl ⟨by kernel_rfl, fun w hSw => ?_⟩) (by assumption) ?_
  · exact U.ex_row 28 _ rfl q3 rfl 28 _ (0, 0) _ hSw.2 Try.underlying28 rfl (U.size_arr _)
  (try simp only [Act.put, List.setIfInBounds_toArray, List.set_cons_zero, List.set_cons_succ])
  refine wpAnyH_take (i := 17) (oi := { dst := some 45, op := Op.load 28 (Operand.tmp 2), type := 28, pos := "outright.go:106", after := #[{ on := 9, ground := Ground.guard }], guard := some (9, false) }) (v := .agg A.arr) rfl (by kernel_rfl) (by kernel_rfl) (by kernel_rfl) (fun _ _ _ h => h) (Or.inl ⟨by kernel_rfl, fun w hSw => ?_⟩) (by assumption) ?_
  · exact U.ex_row 28 _ rfl q2 rfl 28 _ (0, 0) _ hSw.1 Try.underlying28 rfl (U.size_arr _)
  (try simp only [Act.put, List.setIfInBounds_toArray, List.set_cons_zero, List.set_cons_succ])
  refine wpAnyH_ready (rs := [11]) (by kernel_rfl) (by simp) ?_
  refine AllReadyH.cons (o := { dst := some 39, op := Op.call { callee := Callee.value (Operand.func 11), args := #[Operand.tmp 38], argTypes := #[28] }, type := 28, pos := "outright.go:106", after := #[{ on := 10, ground := Ground.data }, { on := 9, ground := Ground.chain }, { on := 9, ground := Ground.guard }], guard := some (9, false) }) rfl (fun K hK => ?_) AllReadyH.nil
  go_simp
  refine (TA.out _ zB0.out).mono ?_
  rintro e z1 ⟨Jz, rfl, ez1, nz1, fz1, vz1, b⟩
  have zB1 := hide' (BW.out _ _ zB0.out b)
  have zD1 : Hid (Below y3.heap.size y3 z1) := d0.trans (b.mono d0.size)
  have zT1 := hide' (And.intro ez1 (And.intro nz1 (And.intro fz1 vz1)))
  clear ez1 nz1 fz1 vz1 b
  (try dsimp only)
  refine hK.out _ _ (⟨zB1.out.2.1, zB1.out.2.2⟩) (fun hHeld => ?_)
  clear hK K
  (try simp only [Act.put, List.setIfInBounds_toArray, List.set_cons_zero, List.set_cons_succ])
  refine wpAnyH_ready (rs := [13]) (by kernel_rfl) (by simp) ?_
  refine AllReadyH.cons (o := { dst := some 41, op := Op.call { callee := Callee.value (Operand.func 11), args := #[Operand.tmp 40], argTypes := #[28] }, type := 28, pos := "outright.go:106", after := #[{ on := 12, ground := Ground.data }, { on := 11, ground := Ground.chain }, { on := 9, ground := Ground.guard }], guard := some (9, false) }) rfl (fun K hK => ?_) AllReadyH.nil
  go_simp
  refine (TB.out _ zB1.out).mono ?_
  rintro e z2 ⟨Kz, rfl, ez2, nz2, fz2, vz2, b⟩
  have zB2 := hide' (BW.out _ _ zB1.out b)
  have zD2 : Hid (Below y3.heap.size y3 z2) := zD1.out.trans (b.mono zD1.out.size)
  have zT2 := hide' (And.intro (And.intro zT1.out.1 (And.intro (zT1.out.2.1.below b) zT1.out.2.2)) (And.intro ez2 (And.intro nz2 (And.intro fz2 vz2))))
  clear ez2 nz2 fz2 vz2 b zT1 zB1
  (try dsimp only)
  refine hK.out _ _ (⟨zB2.out.2.1, zB2.out.2.2⟩) (fun hHeld => ?_)
  clear hK K
  (try simp only [Act.put, List.setIfInBounds_toArray, List.set_cons_zero, List.set_cons_succ])
  refine wpAnyH_ready (rs := [14]) (by kernel_rfl) (by simp) ?_
  refine AllReadyH.cons (o := { dst := some 42, op := Op.call { callee := Callee.value (Operand.func 15), args := #[Operand.tmp 39, Operand.tmp 41], argTypes := #[28, 28] }, type := 4, pos := "outright.go:106", after := #[{ on := 11, ground := Ground.data }, { on := 13, ground := Ground.data }, { on := 13, ground := Ground.chain }, { on := 9, ground := Ground.guard }], guard := some (9, false) }) rfl (fun K hK => ?_) AllReadyH.nil
  go_simp
  refine (SA.out Jz Kz _ zT2.out.1.1 zT2.out.2.1 zT2.out.1.2.1 zT2.out.2.2.1 zT2.out.1.2.2.1 zT2.out.2.2.2.1 zT2.out.1.2.2.2 zT2.out.2.2.2.2).mono ?_
  rintro e z3 ⟨rfl, b⟩
  have zB3 := hide' (BW.out _ _ zB2.out b)
  have zD3 := hide' (zD2.out.trans (b.mono zD2.out.size))
  clear b zT2
  (try dsimp only)
  refine hK.out _ _ (⟨zB3.out.2.1, zB3.out.2.2⟩) (fun hHeld => ?_)
  clear hK K
  (try simp only [Act.put, List.setIfInBounds_toArray, List.set_cons_zero, List.set_cons_succ])
  refine wpAnyH_ready (rs := [16]) (by kernel_rfl) (by simp) ?_
  refine AllReadyH.cons (o := { dst := some 44, op := Op.call { callee := Callee.value (Operand.func 11), args := #[Operand.tmp 43], argTypes := #[28] }, type := 28, pos := "outright.go:106", after := #[{ on := 15, ground := Ground.data }, { on := 14, ground := Ground.chain }, { on := 9, ground := Ground.guard }], guard := some (9, false) }) rfl (fun K hK => ?_) AllReadyH.nil
  go_simp
  refine (TB.out _ zB3.out).mono ?_
  rintro e u1 ⟨Ju, rfl, eu1, nu1, fu1, vu1, b⟩
  have uB1 := hide' (BW.out _ _ zB3.out b)
  have uD1 : Hid (Below y3.heap.size y3 u1) := zD3.out.trans (b.mono zD3.out.size)
  have uT1 := hide' (And.intro eu1 (And.intro nu1 (And.intro fu1 vu1)))
  clear eu1 nu1 fu1 vu1 b
  (try dsimp only)
  refine hK.out _ _ (⟨uB1.out.2.1, uB1.out.2.2⟩) (fun hHeld => ?_)
  clear hK K
  (try simp only [Act.put, List.setIfInBounds_toArray, List.set_cons_zero, List.set_cons_succ])
  refine wpAnyH_ready (rs := [18]) (by kernel_rfl) (by simp) ?_
  refine AllReadyH.cons (o := { dst := some 46, op := Op.call { callee := Callee.value (Operand.func 11), args := #[Operand.tmp 45], argTypes := #[28] }, type := 28, pos := "outright.go:106", after := #[{ on := 17, ground := Ground.data }, { on := 16, ground := Ground.chain }, { on := 9, ground := Ground.guard }], guard := some (9, false) }) rfl (fun K hK => ?_) AllReadyH.nil
  go_simp
  refine (TA.out _ uB1.out).mono ?_
  rintro e u2 ⟨Ku, rfl, eu2, nu2, fu2, vu2, b⟩
  have uB2 := hide' (BW.out _ _ uB1.out b)
  have uD2 : Hid (Below y3.heap.size y3 u2) := uD1.out.trans (b.mono uD1.out.size)
  have uT2 := hide' (And.intro (And.intro uT1.out.1 (And.intro (uT1.out.2.1.below b) uT1.out.2.2)) (And.intro eu2 (And.intro nu2 (And.intro fu2 vu2))))
  clear eu2 nu2 fu2 vu2 b uT1 uB1
  (try dsimp only)
  refine hK.out _ _ (⟨uB2.out.2.1, uB2.out.2.2⟩) (fun hHeld => ?_)
  clear hK K
  (try simp only [Act.put, List.setIfInBounds_toArray, List.set_cons_zero, List.set_cons_succ])
  refine wpAnyH_ready (rs := [19]) (by kernel_rfl) (by simp) ?_
  refine AllReadyH.cons (o := { dst := some 47, op := Op.call { callee := Callee.value (Operand.func 15), args := #[Operand.tmp 44, Operand.tmp 46], argTypes := #[28, 28] }, type := 4, pos := "outright.go:106", after := #[{ on := 16, ground := Ground.data }, { on := 18, ground := Ground.data }, { on := 18, ground := Ground.chain }, { on := 9, ground := Ground.guard }], guard := some (9, false) }) rfl (fun K hK => ?_) AllReadyH.nil
  go_simp
  refine (SB.out Ju Ku _ uT2.out.1.1 uT2.out.2.1 uT2.out.1.2.1 uT2.out.2.2.1 uT2.out.1.2.2.1 uT2.out.2.2.2.1 uT2.out.1.2.2.2 uT2.out.2.2.2.2).mono ?_
  rintro e u3 ⟨rfl, b⟩
  have uB3 := hide' (BW.out _ _ uB2.out b)
  have uD3 := hide' (uD2.out.trans (b.mono uD2.out.size))
  clear b uT2
  (try dsimp only)
  refine hK.out _ _ (⟨uB3.out.2.1, uB3.out.2.2⟩) (fun hHeld => ?_)
  clear hK K
  (try simp only [Act.put, List.setIfInBounds_toArray, List.set_cons_zero, List.set_cons_succ])
  refine wpAnyH_take (i := 20) (oi := { dst := some 48, op := Op.binOp BinOp.neq 4 (Operand.tmp 42) (Operand.tmp 47) 4, type := 4, pos := "outright.go:106", after := #[{ on := 14, ground := Ground.data }, { on := 19, ground := Ground.data }, { on := 9, ground := Ground.guard }], guard := some (9, false) }) (v := .bool false) rfl (by kernel_rfl) (by kernel_rfl) (by kernel_rfl) (fun _ _ _ h => h) (Or.inl ⟨by kernel_rfl, fun w hSw => ?_⟩) (by assumption) ?_
  · clear hSw; go_simp
  (try simp only [Act.put, List.setIfInBounds_toArray, List.set_cons_zero, List.set_cons_succ])
  refine wpAnyH_take (i := 21) (oi := { dst := some 49, op := Op.pick (Operand.tmp 37) (Operand.const (Value.bool true)) (Operand.tmp 48), type := 4, pos := "outright.go:106", after := #[{ on := 9, ground := Ground.data }, { on := 20, ground := Ground.data }], guard := none }) (v := .bool false) rfl (by kernel_rfl) (by kernel_rfl) (by kernel_rfl) (fun _ _ _ h => h) (Or.inl ⟨by kernel_rfl, fun w hSw => ?_⟩) (by assumption) ?_
  · clear hSw; go_simp
  (try simp only [Act.put, List.setIfInBounds_toArray, List.set_cons_zero, List.set_cons_succ])
  refine wpAnyH_done (by kernel_rfl) ?_ _
  have YU : Hid (Below y3.heap.size y3 u3) := uD3.out
  have XR2 := hide' (XR.out.below YU.out)
  have YR2 := hide' (YR.out.below YU.out)
  clear XR YR d0
  simp only [Exit.then]
  have HT : Hid (Below w.heap.size w u3) := uB3.out.1
  have hc1 : n ≤ c1 := by have q := XR2.out.cap; rw [← HN.out] at q; exact q
  have TD : Hid (∀ (i : Nat) (t : X.K3) (g : Bool) (V : World), (chg (rel A) (rel B))[i]? = some (t, g) → Below u3.heap.size u3 V → Calls Try.prog 25 #[.slice o2 n c2, .agg #[.string t.1, .string t.2.1, .string t.2.2, .bool (!g)]] V fun e w' => e = .returned (.int .i64 1) ∧ Below V.heap.size V w') := fun i t g V hx b => by
    have hnl : n = (chg (rel B) (rel A)).length := by rw [HN.out, chg_len_comm]
    have q := told_any o2 c2 (chg (rel B) (rel A)) t.1 t.2.1 t.2.2 (!g) V (YR2.out.below b) (by rw [← hnl]; omega)
    rw [← hnl] at q
    refine q.mono ?_
    rintro e w' ⟨rfl, b⟩
    rw [show (((t.1, t.2.1, t.2.2), !g) : Ch) = (t, !g) from rfl, chg_back hx]
    exact ⟨rfl, b⟩
  clear YR2 uB3
  by_cases hbig : (2000 : Int) < (n : Int)
  · go_wp2_with fail
    go_ret
    exact ⟨rfl, HT.out⟩
  · go_wp2_with fail
    go_loopw [9] (fun iv wx => ∃ i : Nat, iv = .int .i64 (i : Int) ∧ i ≤ n ∧ Hid (Below u3.heap.size u3 wx)) (fun iv _ => n - (intOf iv).toNat)
    case atStart => exact ⟨0, rfl, Nat.zero_le _, Below.refl _ _⟩
    case round =>
      obtain ⟨i, rfl, hi, HM⟩ := hrel
      by_cases hlt : i < n
      · have hlt' : (i : Int) < (n : Int) := by omega
        obtain ⟨x, hx⟩ : ∃ x, (chg (rel A) (rel B))[i]? = some x := ⟨_, List.getElem?_eq_getElem (by have := HN.out; omega)⟩
        obtain ⟨g, hg, hgl, d0, d1, d2, d3⟩ := (XR2.out.below HM.out).at hx
        obtain ⟨⟨x1, x2, x3'⟩, x4⟩ := x
        simp only at d0 d1 d2 d3
        have Hx := hide' hx
        have Hg := hide' hg
        have HZ : Hid (Below u3.heap.size u3 (wr.alloc (.cells #[.string x1, .string x2, .string x3', .bool (!x4)] 44))) := HM.out.trans ((Below.refl _ _).alloc HM.out.size _)
        have e0 : (wr.alloc (.cells #[.string x1, .string x2, .string x3', .bool x4] 44)).cell? ⟨wr.heap.size, 0, none⟩ = some (.string x1) := by rw [Lib.cell_of_heap (heap_alloc_new wr _)]; rfl
        have e1 : (wr.alloc (.cells #[.string x1, .string x2, .string x3', .bool x4] 44)).cell? ⟨wr.heap.size, 1, none⟩ = some (.string x2) := by rw [Lib.cell_of_heap (heap_alloc_new wr _)]; rfl
        have e2 : (wr.alloc (.cells #[.string x1, .string x2, .string x3', .bool x4] 44)).cell? ⟨wr.heap.size, 2, none⟩ = some (.string x3') := by rw [Lib.cell_of_heap (heap_alloc_new wr _)]; rfl
        have e3 : (wr.alloc (.cells #[.string x1, .string x2, .string x3', .bool x4] 44)).cell? ⟨wr.heap.size, 3, none⟩ = some (.bool x4) := by rw [Lib.cell_of_heap (heap_alloc_new wr _)]; rfl
        have e4 : (wr.alloc (.cells #[.string x1, .string x2, .string x3', .bool x4] 44)).frozen? ⟨wr.heap.size, 3, none⟩ = false := Lib.frozen_of_heap (heap_alloc_new wr _) 3
        clear hx hgl
        rw [hg]
        clear hg
        go_wp2_with fail
        refine (TD.out i (x1, x2, x3') x4 _ Hx.out HZ.out).mono ?_
        rintro e V9 ⟨rfl, b9⟩
        have HM9 := hide' (HZ.out.trans (b9.mono HZ.out.size))
        clear b9 e0 e1 e2 e3 e4 d0 d1 d2 d3 HZ
        go_wp2_with fail
        exact ⟨⟨i + 1, by go_num, by omega, HM9⟩, by simp [intOf]; omega⟩
      · have hin : n = i := by omega
        have hlt' : ¬ (i : Int) < (n : Int) := by omega
        go_wp2_with fail
        go_ret
        exact ⟨rfl, HT.out.trans (HM.out.mono HT.out.size)⟩
end D
end Go.Proofs.Ytollaamlnddhcaa
