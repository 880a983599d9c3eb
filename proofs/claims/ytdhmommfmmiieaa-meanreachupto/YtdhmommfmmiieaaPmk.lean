import Derived.Test.YtdhmommfmmiieaaKD
import Derived.Test.YtdhmommfmmiieaaKG
set_option linter.unusedVariables false
set_option linter.unusedSimpArgs false
namespace Go.Proofs.Ytdhmommfmmiieaa
open Go.RowKit Go.Maps
namespace U
def mkf (l : List Int) : Int := l.foldl (fun m k => bits .or .u16 m (IntKind.u16.wrap (2 ^ k.toNat))) 0
theorem mkf_snoc (l : List Int) (k : Int) : mkf (l ++ [k]) = bits .or .u16 (mkf l) (IntKind.u16.wrap (2 ^ k.toNat)) := by unfold mkf; rw [List.foldl_append]; rfl
theorem mkf_take {l : List Int} {i k : Nat} (h : l[i]? = some (k : Int)) : mkf (l.take (i + 1)) = bits .or .u16 (mkf (l.take i)) (IntKind.u16.wrap (2 ^ k)) := by
  rw [List.take_add_one, h]
  exact mkf_snoc _ _
def plwN (F : Pf) (ts to : ByteArray) (N : Nat) : List Int := ((List.range N).filter (fun k => alw F ts to (F.a.2.2.getD k ⟨#[]⟩))).map (fun i : Nat => (i : Int))
theorem plw_take (F : Pf) (ts to : ByteArray) {N : Nat} (h : N ≤ F.a.2.2.length) : plw F ts to (F.a.2.2.take N) = plwN F ts to N := by
  unfold plw plwN
  rw [List.length_take, Nat.min_eq_left h]
  congr 1
  apply List.filter_congr
  intro k hk
  rw [List.mem_range] at hk
  have e : (F.a.2.2.take N).getD k ⟨#[]⟩ = F.a.2.2.getD k ⟨#[]⟩ := by unfold List.getD; rw [List.getElem?_take_of_lt hk]
  rw [e]
theorem mkf_plwN (F : Pf) (ts to : ByteArray) {N : Nat} (h : N ≤ F.a.2.2.length) : mkf (plwN F ts to N) = mkn F ts to N := by
  induction N with
  | zero => rfl
  | succ N ih =>
    obtain ⟨ac, hac⟩ : ∃ ac, F.a.2.2[N]? = some ac := ⟨_, List.getElem?_eq_getElem (by omega)⟩
    have hg : F.a.2.2.getD N ⟨#[]⟩ = ac := by simp [List.getD, hac]
    have ih' := ih (by omega)
    rw [mkn_at hac]
    unfold plwN at ih' ⊢
    rw [List.range_succ, List.filter_append, List.map_append]
    by_cases q : alw F ts to ac = true
    · rw [if_pos q, List.filter_cons_of_pos (by rw [hg]; exact q)]
      show mkf (_ ++ [(N : Int)]) = _
      rw [mkf_snoc, ih']
      rfl
    · rw [if_neg q, List.filter_cons_of_neg (by rw [hg]; exact q)]
      simpa using ih'
theorem mem_plw {F : Pf} {ts to : ByteArray} {al : List ByteArray} {z : Int} (h : z ∈ plw F ts to al) : ∃ k : Nat, z = (k : Int) ∧ k < al.length := by
  unfold plw at h
  rw [List.mem_map] at h
  obtain ⟨k, hk, rfl⟩ := h
  exact ⟨k, rfl, List.mem_range.1 (List.mem_filter.1 hk).1⟩
theorem plw_len (F : Pf) (ts to : ByteArray) (al : List ByteArray) : (plw F ts to al).length ≤ al.length := by
  unfold plw
  rw [List.length_map]
  have := List.length_filter_le (fun k => alw F ts to (al.getD k ⟨#[]⟩)) (List.range al.length)
  rw [List.length_range] at this
  exact this
set_option maxRecDepth 100000 in
set_option maxHeartbeats 4000000 in
theorem mask_any (F : Pf) (ts to : ByteArray) (w : World) (h : F.In w) (hs : F.Small) (hps : F.po.Small) (hz : ts.size ≤ 1048576 ∧ to.size ≤ 1048576) (hak : ∀ a ∈ F.a.2.2, S.okk a) (hxk : ∀ t ∈ F.x.2.2, X.okk t) (hu : ∀ R ∈ F.u.2.2, S.okk R.who ∧ S.okk R.what ∧ ∀ a ∈ R.rl, S.okk a) : Calls Try.prog 24 #[.agg #[.slice F.a.1 F.a.2.2.length F.a.2.1, .slice F.s.1 F.s.2.2.length F.s.2.1, .slice F.r.1 F.r.2.2.length F.r.2.1, .slice F.o.1 F.o.2.2.length F.o.2.1, .slice F.g.1 F.g.2.2.length F.g.2.1, .slice F.m.1 F.m.2.2.length F.m.2.1, .slice F.i.1 F.i.2.2.length F.i.2.1, .slice F.p.1 F.p.2.2.length F.p.2.1, .slice F.w.1 F.w.2.2.length F.w.2.1, .slice F.u.1 F.u.2.2.length F.u.2.1, .slice F.x.1 F.x.2.2.length F.x.2.1], .string ts, .string to] w fun e w' => e = .returned (.int .u16 (mkn F ts to (min F.a.2.2.length 16))) ∧ Below w.heap.size w w' := by
  obtain ⟨N, hN⟩ : ∃ N, N = min F.a.2.2.length 16 := ⟨_, rfl⟩
  rw [← hN]
  have hNl : N ≤ F.a.2.2.length := by omega
  have hN16 : N ≤ 16 := by omega
  have ints_take : ∀ V, S.Ints F.a.1 F.a.2.2 V → S.Ints F.a.1 (F.a.2.2.take N) V := fun V q => by
    have e := List.take_append_drop N F.a.2.2
    rw [← e] at q
    exact ints_cut q
  have hlen : (F.a.2.2.take N).length = N := by rw [List.length_take]; omega
  have C56 : Hid (∀ V, Below w.heap.size w V → Calls Try.prog 56 #[.agg #[.slice F.a.1 F.a.2.2.length F.a.2.1, .slice F.s.1 F.s.2.2.length F.s.2.1, .slice F.r.1 F.r.2.2.length F.r.2.1, .slice F.o.1 F.o.2.2.length F.o.2.1, .slice F.g.1 F.g.2.2.length F.g.2.1, .slice F.m.1 F.m.2.2.length F.m.2.1, .slice F.i.1 F.i.2.2.length F.i.2.1, .slice F.p.1 F.p.2.2.length F.p.2.1, .slice F.w.1 F.w.2.2.length F.w.2.1, .slice F.u.1 F.u.2.2.length F.u.2.1, .slice F.x.1 F.x.2.2.length F.x.2.1], .string ts, .string to, .slice F.a.1 N F.a.2.1] V fun e w' => AlwIs F ts to (F.a.2.2.take N) V e w') := fun V b => by
    have q := allowed_any F ts to F.a.1 F.a.2.1 (F.a.2.2.take N) V (h.below b) hs hps hz (ints_take V (h.below b).a.1) (by rw [hlen]; exact Nat.le_trans hNl h.a.2.1) (by rw [hlen]; have := hs.a; omega) (fun a ha => hak a (List.mem_of_mem_take ha)) (fun a ha => isIn_yes (List.mem_of_mem_take ha)) hxk hu
    rw [hlen] at q
    exact q
  have hmk : Hid (mkf (plw F ts to (F.a.2.2.take N)) = mkn F ts to N) := by show _ = _; rw [plw_take F ts to hNl]; exact mkf_plwN F ts to hNl
  have hpl : Hid ((plw F ts to (F.a.2.2.take N)).length ≤ 16) := by have := plw_len F ts to (F.a.2.2.take N); rw [hlen] at this; show _ ≤ _; omega
  have hmem : Hid (∀ z ∈ plw F ts to (F.a.2.2.take N), ∃ k : Nat, z = (k : Int) ∧ k < 16) := fun z hz => by obtain ⟨k, e, hk⟩ := mem_plw hz; rw [hlen] at hk; exact ⟨k, e, by omega⟩
  have hca := h.a.2.1
  have hal : (F.a.2.2.length : Int) ≤ 1048576 := by have := hs.a; omega
  have hmin : min (F.a.2.2.length : Int) 16 = (N : Int) := by omega
  have hNc : N ≤ F.a.2.1 := Nat.le_trans hNl hca
  have hnil : F.a.1 = none → F.a.2.1 = 0 := h.a.2.2
  clear h hs hps hz hak hxk hu ints_take hlen hN
  generalize hpd : plw F ts to (F.a.2.2.take N) = ps at *
  have Hpd := hide' hpd
  clear hpd
  go_enter Try.func24, Try.ntmps24
  go_wp2_with fail
  have hq3 := heap_alloc_new w (.cells #[.slice F.a.1 F.a.2.2.length F.a.2.1, .slice F.s.1 F.s.2.2.length F.s.2.1, .slice F.r.1 F.r.2.2.length F.r.2.1, .slice F.o.1 F.o.2.2.length F.o.2.1, .slice F.g.1 F.g.2.2.length F.g.2.1, .slice F.m.1 F.m.2.2.length F.m.2.1, .slice F.i.1 F.i.2.2.length F.i.2.1, .slice F.p.1 F.p.2.2.length F.p.2.1, .slice F.w.1 F.w.2.2.length F.w.2.1, .slice F.u.1 F.u.2.2.length F.u.2.1, .slice F.x.1 F.x.2.2.length F.x.2.1] 34)
  have hbV : Hid (Below w.heap.size w (w.alloc (.cells #[.slice F.a.1 F.a.2.2.length F.a.2.1, .slice F.s.1 F.s.2.2.length F.s.2.1, .slice F.r.1 F.r.2.2.length F.r.2.1, .slice F.o.1 F.o.2.2.length F.o.2.1, .slice F.g.1 F.g.2.2.length F.g.2.1, .slice F.m.1 F.m.2.2.length F.m.2.1, .slice F.i.1 F.i.2.2.length F.i.2.1, .slice F.p.1 F.p.2.2.length F.p.2.1, .slice F.w.1 F.w.2.2.length F.w.2.1, .slice F.u.1 F.u.2.2.length F.u.2.1, .slice F.x.1 F.x.2.2.length F.x.2.1] 34))) := (Below.refl _ _).alloc (Nat.le_refl _) _
  generalize w.alloc (.cells #[.slice F.a.1 F.a.2.2.length F.a.2.1, .slice F.s.1 F.s.2.2.length F.s.2.1, .slice F.r.1 F.r.2.2.length F.r.2.1, .slice F.o.1 F.o.2.2.length F.o.2.1, .slice F.g.1 F.g.2.2.length F.g.2.1, .slice F.m.1 F.m.2.2.length F.m.2.1, .slice F.i.1 F.i.2.2.length F.i.2.1, .slice F.p.1 F.p.2.2.length F.p.2.1, .slice F.w.1 F.w.2.2.length F.w.2.1, .slice F.u.1 F.u.2.2.length F.u.2.1, .slice F.x.1 F.x.2.2.length F.x.2.1] 34) = V at *
  obtain ⟨q3, hq⟩ : ∃ q3, q3 = w.heap.size := ⟨_, rfl⟩
  rw [← hq] at hq3
  rw [← hq]
  clear hq
  have hd : Below V.heap.size V V.drew := ⟨rfl, rfl, rfl, Nat.le_refl _, fun _ _ => rfl⟩
  have KT : Hid (∀ W', Below V.heap.size V W' → W'.heap[q3]? = some (.cells #[.slice F.a.1 F.a.2.2.length F.a.2.1, .slice F.s.1 F.s.2.2.length F.s.2.1, .slice F.r.1 F.r.2.2.length F.r.2.1, .slice F.o.1 F.o.2.2.length F.o.2.1, .slice F.g.1 F.g.2.2.length F.g.2.1, .slice F.m.1 F.m.2.2.length F.m.2.1, .slice F.i.1 F.i.2.2.length F.i.2.1, .slice F.p.1 F.p.2.2.length F.p.2.1, .slice F.w.1 F.w.2.2.length F.w.2.1, .slice F.u.1 F.u.2.2.length F.u.2.1, .slice F.x.1 F.x.2.2.length F.x.2.1] 34 (0, 0)) ∧ W'.cell? ⟨q3, 0, none⟩ = some (.slice F.a.1 F.a.2.2.length F.a.2.1)) := fun W' b => by
    have g := (b.block _ (lt_of_heap hq3)).trans hq3
    exact ⟨g, by rw [Lib.cell_of_heap g]; rfl⟩
  refine wp_region_held_drew (S := fun W' => W'.heap[q3]? = some (.cells #[.slice F.a.1 F.a.2.2.length F.a.2.1, .slice F.s.1 F.s.2.2.length F.s.2.1, .slice F.r.1 F.r.2.2.length F.r.2.1, .slice F.o.1 F.o.2.2.length F.o.2.1, .slice F.g.1 F.g.2.2.length F.g.2.1, .slice F.m.1 F.m.2.2.length F.m.2.1, .slice F.i.1 F.i.2.2.length F.i.2.1, .slice F.p.1 F.p.2.2.length F.p.2.1, .slice F.w.1 F.w.2.2.length F.w.2.1, .slice F.u.1 F.u.2.2.length F.u.2.1, .slice F.x.1 F.x.2.2.length F.x.2.1] 34 (0, 0)) ∧ W'.cell? ⟨q3, 0, none⟩ = some (.slice F.a.1 F.a.2.2.length F.a.2.1)) (by kernel_rfl) (KT.out _ hd) (fun hHeld => ?_)
  refine wpAnyH_take (i := 0) (oi := { dst := some 10, op := Op.load 34 (Operand.tmp 3), type := 34, pos := "mean.go:41", after := #[], guard := none }) (v := .agg #[.slice F.a.1 F.a.2.2.length F.a.2.1, .slice F.s.1 F.s.2.2.length F.s.2.1, .slice F.r.1 F.r.2.2.length F.r.2.1, .slice F.o.1 F.o.2.2.length F.o.2.1, .slice F.g.1 F.g.2.2.length F.g.2.1, .slice F.m.1 F.m.2.2.length F.m.2.1, .slice F.i.1 F.i.2.2.length F.i.2.1, .slice F.p.1 F.p.2.2.length F.p.2.1, .slice F.w.1 F.w.2.2.length F.w.2.1, .slice F.u.1 F.u.2.2.length F.u.2.1, .slice F.x.1 F.x.2.2.length F.x.2.1]) rfl (by kernel_rfl) (by kernel_rfl) (by kernel_rfl) (fun _ _ _ h => h) (Or.inl ⟨by kernel_rfl, fun w hSw => ?_⟩) (by assumption) ?_
  · exact ex_row 34 _ rfl q3 rfl 34 _ (0, 0) _ hSw.1 Try.underlying34 rfl (by kernel_rfl)
  (try simp only [Act.put, List.setIfInBounds_toArray, List.set_cons_zero, List.set_cons_succ])
  refine wpAnyH_take (i := 1) (oi := { dst := some 11, op := Op.move (Operand.tmp 1), type := 9, pos := "mean.go:41", after := #[], guard := none }) (v := .string ts) rfl (by kernel_rfl) (by kernel_rfl) (by kernel_rfl) (fun _ _ _ h => h) (Or.inl ⟨by kernel_rfl, fun w hSw => ?_⟩) (by assumption) ?_
  · clear hSw; go_simp
  (try simp only [Act.put, List.setIfInBounds_toArray, List.set_cons_zero, List.set_cons_succ])
  refine wpAnyH_take (i := 2) (oi := { dst := some 12, op := Op.move (Operand.tmp 2), type := 9, pos := "mean.go:41", after := #[], guard := none }) (v := .string to) rfl (by kernel_rfl) (by kernel_rfl) (by kernel_rfl) (fun _ _ _ h => h) (Or.inl ⟨by kernel_rfl, fun w hSw => ?_⟩) (by assumption) ?_
  · clear hSw; go_simp
  (try simp only [Act.put, List.setIfInBounds_toArray, List.set_cons_zero, List.set_cons_succ])
  refine wpAnyH_take (i := 3) (oi := { dst := some 13, op := Op.fieldAddr 34 (Operand.tmp 3) 0, type := 0, pos := "mean.go:41", after := #[], guard := none }) (v := .pointer (some ⟨q3, 0, none⟩)) rfl (by kernel_rfl) (by kernel_rfl) (by kernel_rfl) (fun _ _ _ h => h) (Or.inl ⟨by kernel_rfl, fun w hSw => ?_⟩) (by assumption) ?_
  · clear hSw; go_simp
  (try simp only [Act.put, List.setIfInBounds_toArray, List.set_cons_zero, List.set_cons_succ])
  refine wpAnyH_take (i := 4) (oi := { dst := some 14, op := Op.load 25 (Operand.tmp 13), type := 25, pos := "mean.go:41", after := #[{ on := 3, ground := Ground.data }], guard := none }) (v := .slice F.a.1 F.a.2.2.length F.a.2.1) rfl (by kernel_rfl) (by kernel_rfl) (by kernel_rfl) (fun _ _ _ h => h) (Or.inl ⟨by kernel_rfl, fun w hSw => ?_⟩) (by assumption) ?_
  · have h0 := hSw.2; clear hSw; go_simp
  (try simp only [Act.put, List.setIfInBounds_toArray, List.set_cons_zero, List.set_cons_succ])
  refine wpAnyH_take (i := 5) (oi := { dst := some 15, op := Op.fieldAddr 34 (Operand.tmp 3) 0, type := 0, pos := "mean.go:41", after := #[], guard := none }) (v := .pointer (some ⟨q3, 0, none⟩)) rfl (by kernel_rfl) (by kernel_rfl) (by kernel_rfl) (fun _ _ _ h => h) (Or.inl ⟨by kernel_rfl, fun w hSw => ?_⟩) (by assumption) ?_
  · clear hSw; go_simp
  (try simp only [Act.put, List.setIfInBounds_toArray, List.set_cons_zero, List.set_cons_succ])
  refine wpAnyH_take (i := 6) (oi := { dst := some 16, op := Op.load 25 (Operand.tmp 15), type := 25, pos := "mean.go:41", after := #[{ on := 5, ground := Ground.data }], guard := none }) (v := .slice F.a.1 F.a.2.2.length F.a.2.1) rfl (by kernel_rfl) (by kernel_rfl) (by kernel_rfl) (fun _ _ _ h => h) (Or.inl ⟨by kernel_rfl, fun w hSw => ?_⟩) (by assumption) ?_
  · have h0 := hSw.2; clear hSw; go_simp
  (try simp only [Act.put, List.setIfInBounds_toArray, List.set_cons_zero, List.set_cons_succ])
  refine wpAnyH_take (i := 7) (oi := { dst := some 17, op := Op.call { callee := Callee.builtin Builtin.len, args := #[Operand.tmp 16], argTypes := #[25] }, type := 3, pos := "mean.go:41", after := #[{ on := 6, ground := Ground.data }], guard := none }) (v := .int .i64 (F.a.2.2.length : Int)) rfl (by kernel_rfl) (by kernel_rfl) (by kernel_rfl) (fun _ _ _ h => h) (Or.inl ⟨by kernel_rfl, fun w hSw => ?_⟩) (by assumption) ?_
  · clear hSw; go_simp
  (try simp only [Act.put, List.setIfInBounds_toArray, List.set_cons_zero, List.set_cons_succ])
  refine wpAnyH_take (i := 8) (oi := { dst := some 18, op := Op.call { callee := Callee.builtin Builtin.min, args := #[Operand.tmp 17, Operand.const (Value.int IntKind.i64 16)], argTypes := #[3, 3] }, type := 3, pos := "mean.go:41", after := #[{ on := 7, ground := Ground.data }], guard := none }) (v := .int .i64 (N : Int)) rfl (by kernel_rfl) (by kernel_rfl) (by kernel_rfl) (fun _ _ _ h => h) (Or.inl ⟨by kernel_rfl, fun w hSw => ?_⟩) (by assumption) ?_
  · clear hSw; go_simp
  (try simp only [Act.put, List.setIfInBounds_toArray, List.set_cons_zero, List.set_cons_succ])
  refine wpAnyH_take (i := 9) (oi := { dst := some 19, op := Op.slice 25 (Operand.tmp 14) none (some (Operand.tmp 18)) none, type := 25, pos := "mean.go:41", after := #[{ on := 4, ground := Ground.data }, { on := 8, ground := Ground.data }], guard := none }) (v := .slice F.a.1 N F.a.2.1) rfl (by kernel_rfl) (by kernel_rfl) (by kernel_rfl) (fun _ _ _ h => h) (Or.inl ⟨by kernel_rfl, fun w hSw => ?_⟩) (by assumption) ?_
  · clear hSw; go_simp
  (try simp only [Act.put, List.setIfInBounds_toArray, List.set_cons_zero, List.set_cons_succ])
  refine wpAnyH_take (i := 12) (oi := { dst := some 22, op := Op.move (Operand.const (Value.int IntKind.i64 0)), type := 3, pos := "mean.go:41", after := #[], guard := none }) (v := .int .i64 0) rfl (by kernel_rfl) (by kernel_rfl) (by kernel_rfl) (fun _ _ _ h => h) (Or.inl ⟨by kernel_rfl, fun w hSw => ?_⟩) (by assumption) ?_
  · clear hSw; go_simp
  (try simp only [Act.put, List.setIfInBounds_toArray, List.set_cons_zero, List.set_cons_succ])
  refine wpAnyH_ready (rs := [10]) (by kernel_rfl) (by simp) ?_
  refine AllReadyH.cons (o := { dst := some 20, op := Op.call { callee := Callee.value (Operand.func 56), args := #[Operand.tmp 10, Operand.tmp 11, Operand.tmp 12, Operand.tmp 19], argTypes := #[34, 9, 9, 25] }, type := 76, pos := "mean.go:41", after := #[{ on := 0, ground := Ground.data }, { on := 1, ground := Ground.data }, { on := 2, ground := Ground.data }, { on := 9, ground := Ground.data }], guard := none }) rfl (fun K hK => ?_) AllReadyH.nil
  go_simp
  refine (C56.out _ (hbV.out.trans (hd.mono hbV.out.size))).mono ?_
  rintro e x1 ⟨po, pc, rfl, hr1, t1⟩
  rw [Hpd.out] at hr1 ⊢
  have d1 : Below V.heap.size V x1 := hd.trans (t1.mono hd.size)
  clear t1
  (try dsimp only)
  refine hK.out _ _ (KT.out _ d1) (fun hHeld => ?_)
  clear hK K
  (try simp only [Act.put, List.setIfInBounds_toArray, List.set_cons_zero, List.set_cons_succ])
  refine wpAnyH_take (i := 11) (oi := { dst := some 21, op := Op.call { callee := Callee.builtin Builtin.len, args := #[Operand.tmp 20], argTypes := #[76] }, type := 3, pos := "mean.go:41", after := #[{ on := 10, ground := Ground.data }], guard := none }) (v := .int .i64 (ps.length : Int)) rfl (by kernel_rfl) (by kernel_rfl) (by kernel_rfl) (fun _ _ _ h => h) (Or.inl ⟨by kernel_rfl, fun w hSw => ?_⟩) (by assumption) ?_
  · clear hSw; go_simp
  (try simp only [Act.put, List.setIfInBounds_toArray, List.set_cons_zero, List.set_cons_succ])
  refine wpAnyH_done (by kernel_rfl) ?_ _
  have b1 : Hid (Below w.heap.size w x1) := hbV.out.trans (d1.mono hbV.out.size)
  have HR := hide' hr1
  have hpc : ps.length ≤ pc := hr1.cap
  have hps64 : (ps.length : Int) ≤ 16 := by have := hpl.out; omega
  clear hHeld KT C56 hd hq3 hbV d1 hr1 hmin hca hal hnil
  go_wp2_with fail
  go_loopw [7, 22] (fun mv iv wx => ∃ i : Nat, iv = .int .i64 (i : Int) ∧ i ≤ ps.length ∧ mv = .int .u16 (mkf (ps.take i)) ∧ wx = x1) (fun _ iv _ => ps.length - (intOf iv).toNat)
  case atStart => exact ⟨0, rfl, Nat.zero_le _, rfl, rfl⟩
  case round =>
    obtain ⟨i, rfl, hi, rfl, rfl⟩ := hrel
    by_cases hlt : i < ps.length
    · have hlt' : (i : Int) < (ps.length : Int) := by omega
      obtain ⟨z, hz⟩ : ∃ z, ps[i]? = some z := ⟨_, List.getElem?_eq_getElem hlt⟩
      obtain ⟨k, rfl, hk⟩ := hmem.out z (List.mem_of_getElem? hz)
      have hk64 : (k : Int) < 16 := by omega
      obtain ⟨pb, off, hpo, hpb, d0⟩ := HR.out.ints.at hz
      have hmt := hide' (mkf_take hz)
      rw [hpo]
      clear hpo hz hpb
      go_wp2_with fail
      exact ⟨⟨i + 1, by go_num, by omega, by rw [hmt.out], trivial⟩, by simp [intOf]; omega⟩
    · have hk : i = ps.length := by omega
      subst hk
      have hlt' : ¬ (ps.length : Int) < (ps.length : Int) := by omega
      rw [List.take_length]
      go_wp2_with fail
      go_ret
      exact ⟨by rw [← hmk.out]; rfl, b1.out⟩
end U
end Go.Proofs.Ytdhmommfmmiieaa
