import Derived.Test.YtdhmommfmmiieaaKC
import Derived.Deep.RegionHeld3
set_option linter.unusedVariables false
set_option linter.unusedSimpArgs false
namespace Go.Proofs.Ytdhmommfmmiieaa
open Go.RowKit Go.Maps
namespace U
/-- the party of a subject, wherever it lies -/
def PJ (qs : List K2) (z : ByteArray) (ok : Prop) (tt : Nat → Prop) (v : Value) (V : World) : Prop := (∃ nb ms t, v = .agg #[.string z, .float .f64 t, .map (some nb)] ∧ Nset nb ms V ∧ (∀ y, y ∈ ms ↔ y ∈ N.clo qs z) ∧ tt t) ∨ (v = .agg #[.string ⟨#[]⟩, .float .f64 0, .map none] ∧ ok)
theorem PJ.turn {qs : List K2} {z : ByteArray} {ok : Prop} {tt : Nat → Prop} {v : Value} {V V' : World} {T : Nat → Prop} (h : PJ qs z ok tt v V) (t : Turn T V V') (hs : Soft T V) : PJ qs z ok tt v V' := by
  rcases h with ⟨nb, ms, tr, h1, h2, h3⟩ | h
  · refine .inl ⟨nb, ms, tr, h1, h2.turn t (fun q => ?_), h3⟩
    obtain ⟨c, ty, k, _⟩ := hs nb q
    obtain ⟨n, D, _, hm, _⟩ := h2
    exact map_ne k hm rfl
  · exact .inr h
theorem PJ.form {qs : List K2} {z : ByteArray} {ok : Prop} {tt : Nat → Prop} {v : Value} {V : World} (h : PJ qs z ok tt v V) : ∃ z r mo, v = .agg #[.string z, .float .f64 r, .map mo] := by
  rcases h with ⟨nb, ms, tr, h1, _⟩ | ⟨h, _⟩
  · exact ⟨_, _, _, h1⟩
  · exact ⟨_, _, _, h⟩
/-- a reading, wherever it lies -/
def RJ (F : Pf) (ao : Option Addr) (ac : Nat) (al : List ByteArray) (v : Value) (V : World) : Prop := ∃ qp qx B f, v = .agg #[.slice ao al.length ac, .map (some qp), .slice F.u.1 F.u.2.2.length F.u.2.1, .map (some qx)] ∧ Pl.Lm qp B al f V ∧ X.Tset qx F.x.2.2 V
theorem RJ.turn {F : Pf} {ao : Option Addr} {ac : Nat} {al : List ByteArray} {v : Value} {V V' : World} {T : Nat → Prop} (h : RJ F ao ac al v V) (t : Turn T V V') (hs : Soft T V) : RJ F ao ac al v V' := by
  obtain ⟨qp, qx, B, f, h1, h2, h3⟩ := h
  refine ⟨qp, qx, B, f, h1, h2.turn t (fun q => ?_) (fun j r q => ?_), h3.turn t (fun q => ?_)⟩
  · obtain ⟨c, ty, k, _⟩ := hs _ q
    obtain ⟨D, hm, _⟩ := h2.map
    exact map_ne k hm rfl
  · obtain ⟨c, ty, k, hty⟩ := hs _ q
    obtain ⟨k', ⟨g, l, cc⟩, e1, e2⟩ := r
    obtain ⟨cur, kk⟩ := Pl.kindI (h2.each k' g l cc e1).2 ⟨_, rfl, rfl⟩
    have e3 : j = g := e2
    rw [e3] at k
    exact cells_ne kk k (by rcases hty with e | e <;> rw [e] <;> decide) rfl
  · obtain ⟨c, ty, k, _⟩ := hs _ q
    obtain ⟨n, D, _, hm, _⟩ := h3
    exact map_ne k hm rfl
/-- what 'is' of such a party tells -/
theorem PJ.is {qs : List K2} {z : ByteArray} {ok : Prop} {tt : Nat → Prop} {z1 : ByteArray} {r1 : Nat} {m1 : Option Nat} {V : World} (h : PJ qs z ok tt (.agg #[.string z1, .float .f64 r1, .map m1]) V) : ∃ is : ByteArray → Bool, IsOf z1 r1 (.map m1) is V ∧ ((z1 = z ∧ tt r1 ∧ ∀ s, is s = isIn (N.clo qs z) s) ∨ (z1 = ⟨#[]⟩ ∧ ok ∧ ∀ s, is s = false)) := by
  rcases h with ⟨nb, ms, t, h1, h2, h3, h4⟩ | ⟨h1, h2⟩
  · have e : z1 = z ∧ r1 = t ∧ m1 = some nb := by simpa using h1
    obtain ⟨rfl, rfl, rfl⟩ := e
    exact ⟨isIn ms, fun V' s hs b => is_any _ _ _ _ _ _ (h2.turn (turn_below (S := fun _ => False) b) id) hs, .inl ⟨rfl, h4, fun s => isIn_iff h3 s⟩⟩
  · have e : z1 = ⟨#[]⟩ ∧ r1 = 0 ∧ m1 = none := by simpa using h1
    obtain ⟨rfl, rfl, rfl⟩ := e
    exact ⟨fun _ => false, fun V' s hs b => is_none _ _ _ _ hs, .inr ⟨rfl, h2, fun s => rfl⟩⟩
theorem IsOf.below {z : ByteArray} {t : Nat} {mv : Value} {is : ByteArray → Bool} {w w' : World} (h : IsOf z t mv is w) (b : Below w.heap.size w w') : IsOf z t mv is w' := fun V s hs q => h V s hs (b.trans (q.mono b.size))
/-- what allowed tells -/
def AlwIs (F : Pf) (ts to : ByteArray) (al : List ByteArray) (w : World) (e : Ending) (w' : World) : Prop := ∃ po pc, e = .returned (.slice po (plw F ts to al).length pc) ∧ I.RowI w.heap.size po pc (plw F ts to al) w' ∧ Below w.heap.size w w'
theorem ruls_fine {al : List ByteArray} {is : ByteArray → Bool} {tr : Nat} {us : List Ru} {rs : List Rl} (h : rs.map Rl.dat = ruls al is tr us) (hal : al.length ≤ 1048576) (hu : ∀ R ∈ us, S.okk R.what ∧ R.rl.length ≤ 1048576) : rs.length ≤ us.length ∧ ∀ r ∈ rs, r.ps.length ≤ 4398046511104 ∧ S.okk r.wh ∧ ∀ k ∈ r.ps, ∃ i : Nat, k = (i : Int) ∧ i < al.length := by
  refine ⟨?_, fun r hr => ?_⟩
  · have e := congrArg List.length h
    rw [List.length_map] at e
    rw [e]
    unfold ruls
    rw [List.length_map]
    exact List.length_filter_le _ _
  · have hm : r.dat ∈ ruls al is tr us := by rw [← h]; exact List.mem_map_of_mem hr
    unfold ruls at hm
    rw [List.mem_map] at hm
    obtain ⟨R, hR, e⟩ := hm
    have hRu := hu R (List.mem_filter.1 hR).1
    have e1 : r.wh = R.what := (congrArg (fun d => d.1) e).symm
    have e2 : r.ps = pls al (acts al R.rl) := (congrArg (fun d => d.2.2) e).symm
    rw [e1, e2]
    refine ⟨?_, hRu.1, fun k hk => ?_⟩
    · have h1 := pls_len al (acts al R.rl)
      have h2 : (acts al R.rl).length ≤ 1048576 := by unfold acts; split <;> first | exact hal | exact hRu.2
      have h3 := Nat.mul_le_mul h2 hal
      omega
    · obtain ⟨a, _, i, hi, e⟩ := (mem_pls al _ k).1 hk
      exact ⟨i, e, (List.getElem?_eq_some_iff.1 hi).1⟩
set_option maxRecDepth 100000 in
set_option maxHeartbeats 4000000 in
theorem allowed_any (F : Pf) (ts to : ByteArray) (ao : Option Addr) (ac : Nat) (al : List ByteArray) (w : World) (h : F.In w) (hs : F.Small) (hps : F.po.Small) (hz : ts.size ≤ 1048576 ∧ to.size ≤ 1048576) (ha : S.Ints ao al w) (hac : al.length ≤ ac) (hal : al.length ≤ 1048576) (hak : ∀ a ∈ al, S.okk a) (hsub : ∀ a ∈ al, isIn F.po.al a = true) (hxk : ∀ t ∈ F.x.2.2, X.okk t) (hu : ∀ R ∈ F.u.2.2, S.okk R.who ∧ S.okk R.what ∧ ∀ a ∈ R.rl, S.okk a) : Calls Try.prog 56 #[.agg #[.slice F.a.1 F.a.2.2.length F.a.2.1, .slice F.s.1 F.s.2.2.length F.s.2.1, .slice F.r.1 F.r.2.2.length F.r.2.1, .slice F.o.1 F.o.2.2.length F.o.2.1, .slice F.g.1 F.g.2.2.length F.g.2.1, .slice F.m.1 F.m.2.2.length F.m.2.1, .slice F.i.1 F.i.2.2.length F.i.2.1, .slice F.p.1 F.p.2.2.length F.p.2.1, .slice F.w.1 F.w.2.2.length F.w.2.1, .slice F.u.1 F.u.2.2.length F.u.2.1, .slice F.x.1 F.x.2.2.length F.x.2.1], .string ts, .string to, .slice ao al.length ac] w fun e w' => AlwIs F ts to al w e w' := by
  have hPv : F.po.val = .agg #[.slice F.a.1 F.a.2.2.length F.a.2.1, .slice F.s.1 F.s.2.2.length F.s.2.1, .slice F.r.1 F.r.2.2.length F.r.2.1, .slice F.o.1 F.o.2.2.length F.o.2.1, .slice F.g.1 F.g.2.2.length F.g.2.1, .slice F.m.1 F.m.2.2.length F.m.2.1, .slice F.i.1 F.i.2.2.length F.i.2.1, .slice F.p.1 F.p.2.2.length F.p.2.1, .slice F.w.1 F.w.2.2.length F.w.2.1, .slice F.u.1 F.u.2.2.length F.u.2.1, .slice F.x.1 F.x.2.2.length F.x.2.1] := rfl
  have X : Cx w (.agg #[.slice F.a.1 F.a.2.2.length F.a.2.1, .slice F.s.1 F.s.2.2.length F.s.2.1, .slice F.r.1 F.r.2.2.length F.r.2.1, .slice F.o.1 F.o.2.2.length F.o.2.1, .slice F.g.1 F.g.2.2.length F.g.2.1, .slice F.m.1 F.m.2.2.length F.m.2.1, .slice F.i.1 F.i.2.2.length F.i.2.1, .slice F.p.1 F.p.2.2.length F.p.2.1, .slice F.w.1 F.w.2.2.length F.w.2.1, .slice F.u.1 F.u.2.2.length F.u.2.1, .slice F.x.1 F.x.2.2.length F.x.2.1]) ts to (.slice ao al.length ac) (PJ (F.po.m.2.2 ++ F.po.i.2.2) ts (tru F.po.sl ts = none) (fun t => tru F.po.sl ts = some t)) (PJ (F.po.p.2.2 ++ F.po.w.2.2) to (isIn F.po.ol to = false) (fun _ => isIn F.po.ol to = true)) (RJ F ao ac al) := by
    refine ⟨fun v V V' T j t s => j.turn t s, fun v V V' T j t s => j.turn t s, fun v V V' T j t s => j.turn t s, fun V b => ?_, fun V b => ?_, fun V b => ?_, fun v V j => j.form, fun v V j => j.form, fun v V j => ?_⟩
    · rw [← hPv]
      refine (subjectOf_any F.po ts V (h.below b).po hps hz.1).mono ?_
      rintro e w' (⟨t, h1, nb, ms, rfl, _, h3, h4, h5⟩ | ⟨h1, rfl, h5⟩)
      · exact ⟨_, rfl, .inl ⟨nb, ms, t, rfl, h3, h4, h1⟩, h5⟩
      · exact ⟨_, rfl, .inr ⟨rfl, h1⟩, h5⟩
    · rw [← hPv]
      refine (objectOf_any F.po to V (h.below b).po hps hz.2).mono ?_
      rintro e w' (⟨h1, nb, ms, rfl, _, h3, h4, h5⟩ | ⟨h1, rfl, h5⟩)
      · exact ⟨_, rfl, .inl ⟨nb, ms, 0, rfl, h3, h4, h1⟩, h5⟩
      · exact ⟨_, rfl, .inr ⟨rfl, h1⟩, h5⟩
    · refine (read_any F ao ac al V (h.below b) hs (ha.below b) hac hal hak hxk).mono ?_
      rintro e w' ⟨qp, qx, f, rfl, h1, h2, _, h5⟩
      exact ⟨_, rfl, ⟨qp, qx, _, f, rfl, h1, h2⟩, h5⟩
    · obtain ⟨qp, qx, B, f, rfl, _⟩ := j
      exact ⟨_, _, _, _, _, _, _, _, rfl⟩
  have HX := hide' X
  have H := hide' h
  have Hs := hide' hs
  have Hz := hide' hz
  have HA := hide' ha
  have HK := hide' hak
  have HS := hide' hsub
  have HU := hide' hu
  have hRl : Hid (∀ R ∈ F.u.2.2, S.okk R.what ∧ R.rl.length ≤ 1048576) := fun R hR => ⟨(hu R hR).2.1, (h.u.1.2 R hR).2.2⟩
  have hul : Hid (F.u.2.2.length ≤ 1048576) := hs.u
  have HP := hide' hPv
  clear X h hs hps hz ha hak hsub hu hPv hxk
  go_enter Try.func56, Try.ntmps56
  go_wp2_with fail
  have hq4 := heap_alloc_new w (.cells #[.slice F.a.1 F.a.2.2.length F.a.2.1, .slice F.s.1 F.s.2.2.length F.s.2.1, .slice F.r.1 F.r.2.2.length F.r.2.1, .slice F.o.1 F.o.2.2.length F.o.2.1, .slice F.g.1 F.g.2.2.length F.g.2.1, .slice F.m.1 F.m.2.2.length F.m.2.1, .slice F.i.1 F.i.2.2.length F.i.2.1, .slice F.p.1 F.p.2.2.length F.p.2.1, .slice F.w.1 F.w.2.2.length F.w.2.1, .slice F.u.1 F.u.2.2.length F.u.2.1, .slice F.x.1 F.x.2.2.length F.x.2.1] 34)
  have hbV : Below w.heap.size w (w.alloc (.cells #[.slice F.a.1 F.a.2.2.length F.a.2.1, .slice F.s.1 F.s.2.2.length F.s.2.1, .slice F.r.1 F.r.2.2.length F.r.2.1, .slice F.o.1 F.o.2.2.length F.o.2.1, .slice F.g.1 F.g.2.2.length F.g.2.1, .slice F.m.1 F.m.2.2.length F.m.2.1, .slice F.i.1 F.i.2.2.length F.i.2.1, .slice F.p.1 F.p.2.2.length F.p.2.1, .slice F.w.1 F.w.2.2.length F.w.2.1, .slice F.u.1 F.u.2.2.length F.u.2.1, .slice F.x.1 F.x.2.2.length F.x.2.1] 34)) := (Below.refl _ _).alloc (Nat.le_refl _) _
  generalize w.alloc (.cells #[.slice F.a.1 F.a.2.2.length F.a.2.1, .slice F.s.1 F.s.2.2.length F.s.2.1, .slice F.r.1 F.r.2.2.length F.r.2.1, .slice F.o.1 F.o.2.2.length F.o.2.1, .slice F.g.1 F.g.2.2.length F.g.2.1, .slice F.m.1 F.m.2.2.length F.m.2.1, .slice F.i.1 F.i.2.2.length F.i.2.1, .slice F.p.1 F.p.2.2.length F.p.2.1, .slice F.w.1 F.w.2.2.length F.w.2.1, .slice F.u.1 F.u.2.2.length F.u.2.1, .slice F.x.1 F.x.2.2.length F.x.2.1] 34) = V at *
  obtain ⟨q4, hq⟩ : ∃ q4, q4 = w.heap.size := ⟨_, rfl⟩
  rw [← hq] at hq4
  rw [← hq]
  clear hq
  have hdr : Below V.heap.size V V.drew := ⟨rfl, rfl, rfl, Nat.le_refl _, fun _ _ => rfl⟩
  refine wp_region_held_drew (S := fun V => V.heap[q4]? = some (.cells #[.slice F.a.1 F.a.2.2.length F.a.2.1, .slice F.s.1 F.s.2.2.length F.s.2.1, .slice F.r.1 F.r.2.2.length F.r.2.1, .slice F.o.1 F.o.2.2.length F.o.2.1, .slice F.g.1 F.g.2.2.length F.g.2.1, .slice F.m.1 F.m.2.2.length F.m.2.1, .slice F.i.1 F.i.2.2.length F.i.2.1, .slice F.p.1 F.p.2.2.length F.p.2.1, .slice F.w.1 F.w.2.2.length F.w.2.1, .slice F.u.1 F.u.2.2.length F.u.2.1, .slice F.x.1 F.x.2.2.length F.x.2.1] 34 (0, 0))) (by kernel_rfl) hq4 (fun hHeld => ?_)
  refine wpAnyH_take (i := 0) (oi := { dst := some 12, op := Op.load 34 (Operand.tmp 4), type := 34, pos := "reading.go:26", after := #[], guard := none }) (v := .agg #[.slice F.a.1 F.a.2.2.length F.a.2.1, .slice F.s.1 F.s.2.2.length F.s.2.1, .slice F.r.1 F.r.2.2.length F.r.2.1, .slice F.o.1 F.o.2.2.length F.o.2.1, .slice F.g.1 F.g.2.2.length F.g.2.1, .slice F.m.1 F.m.2.2.length F.m.2.1, .slice F.i.1 F.i.2.2.length F.i.2.1, .slice F.p.1 F.p.2.2.length F.p.2.1, .slice F.w.1 F.w.2.2.length F.w.2.1, .slice F.u.1 F.u.2.2.length F.u.2.1, .slice F.x.1 F.x.2.2.length F.x.2.1]) rfl (by kernel_rfl) (by kernel_rfl) (by kernel_rfl) (fun _ _ _ h => h) (Or.inl ⟨by kernel_rfl, fun w hSw => ?_⟩) (by assumption) ?_
  · exact ex_row 34 _ rfl q4 rfl 34 _ (0, 0) _ hSw Try.underlying34 rfl (by kernel_rfl)
  (try simp only [Act.put, List.setIfInBounds_toArray, List.set_cons_zero, List.set_cons_succ])
  refine wpAnyH_take (i := 1) (oi := { dst := some 13, op := Op.move (Operand.tmp 1), type := 9, pos := "reading.go:26", after := #[], guard := none }) (v := .string ts) rfl (by kernel_rfl) (by kernel_rfl) (by kernel_rfl) (fun _ _ _ h => h) (Or.inl ⟨by kernel_rfl, fun w hSw => ?_⟩) (by assumption) ?_
  · clear hSw; go_simp
  (try simp only [Act.put, List.setIfInBounds_toArray, List.set_cons_zero, List.set_cons_succ])
  refine wpAnyH_take (i := 3) (oi := { dst := some 15, op := Op.load 34 (Operand.tmp 4), type := 34, pos := "reading.go:26", after := #[], guard := none }) (v := .agg #[.slice F.a.1 F.a.2.2.length F.a.2.1, .slice F.s.1 F.s.2.2.length F.s.2.1, .slice F.r.1 F.r.2.2.length F.r.2.1, .slice F.o.1 F.o.2.2.length F.o.2.1, .slice F.g.1 F.g.2.2.length F.g.2.1, .slice F.m.1 F.m.2.2.length F.m.2.1, .slice F.i.1 F.i.2.2.length F.i.2.1, .slice F.p.1 F.p.2.2.length F.p.2.1, .slice F.w.1 F.w.2.2.length F.w.2.1, .slice F.u.1 F.u.2.2.length F.u.2.1, .slice F.x.1 F.x.2.2.length F.x.2.1]) rfl (by kernel_rfl) (by kernel_rfl) (by kernel_rfl) (fun _ _ _ h => h) (Or.inl ⟨by kernel_rfl, fun w hSw => ?_⟩) (by assumption) ?_
  · exact ex_row 34 _ rfl q4 rfl 34 _ (0, 0) _ hSw Try.underlying34 rfl (by kernel_rfl)
  (try simp only [Act.put, List.setIfInBounds_toArray, List.set_cons_zero, List.set_cons_succ])
  refine wpAnyH_take (i := 4) (oi := { dst := some 16, op := Op.move (Operand.tmp 2), type := 9, pos := "reading.go:26", after := #[], guard := none }) (v := .string to) rfl (by kernel_rfl) (by kernel_rfl) (by kernel_rfl) (fun _ _ _ h => h) (Or.inl ⟨by kernel_rfl, fun w hSw => ?_⟩) (by assumption) ?_
  · clear hSw; go_simp
  (try simp only [Act.put, List.setIfInBounds_toArray, List.set_cons_zero, List.set_cons_succ])
  refine wpAnyH_take (i := 6) (oi := { dst := some 18, op := Op.load 34 (Operand.tmp 4), type := 34, pos := "reading.go:26", after := #[], guard := none }) (v := .agg #[.slice F.a.1 F.a.2.2.length F.a.2.1, .slice F.s.1 F.s.2.2.length F.s.2.1, .slice F.r.1 F.r.2.2.length F.r.2.1, .slice F.o.1 F.o.2.2.length F.o.2.1, .slice F.g.1 F.g.2.2.length F.g.2.1, .slice F.m.1 F.m.2.2.length F.m.2.1, .slice F.i.1 F.i.2.2.length F.i.2.1, .slice F.p.1 F.p.2.2.length F.p.2.1, .slice F.w.1 F.w.2.2.length F.w.2.1, .slice F.u.1 F.u.2.2.length F.u.2.1, .slice F.x.1 F.x.2.2.length F.x.2.1]) rfl (by kernel_rfl) (by kernel_rfl) (by kernel_rfl) (fun _ _ _ h => h) (Or.inl ⟨by kernel_rfl, fun w hSw => ?_⟩) (by assumption) ?_
  · exact ex_row 34 _ rfl q4 rfl 34 _ (0, 0) _ hSw Try.underlying34 rfl (by kernel_rfl)
  (try simp only [Act.put, List.setIfInBounds_toArray, List.set_cons_zero, List.set_cons_succ])
  refine wpAnyH_take (i := 7) (oi := { dst := some 19, op := Op.move (Operand.tmp 3), type := 25, pos := "reading.go:26", after := #[], guard := none }) (v := .slice ao al.length ac) rfl (by kernel_rfl) (by kernel_rfl) (by kernel_rfl) (fun _ _ _ h => h) (Or.inl ⟨by kernel_rfl, fun w hSw => ?_⟩) (by assumption) ?_
  · clear hSw; go_simp
  (try simp only [Act.put, List.setIfInBounds_toArray, List.set_cons_zero, List.set_cons_succ])
  refine L0_0 HX.out ?_ V.drew (hbV.trans (hdr.mono hbV.size)) hq4
  clear hq4 hbV hdr hHeld V
  intro z1 r1 o1 z2 r2 o2 xo xn xc xp uo ul uc xx b9 b10 b11 V j1 j2 j3 h9 h10 h11 hB
  obtain ⟨qp, qx, B, f, e3, hL, hT⟩ := j3
  have e : xo = ao ∧ xn = al.length ∧ xc = ac ∧ xp = some qp ∧ uo = F.u.1 ∧ ul = F.u.2.2.length ∧ uc = F.u.2.1 ∧ xx = some qx := by simpa [and_assoc] using e3
  clear e3
  obtain ⟨rfl, rfl, rfl, rfl, rfl, rfl, rfl, rfl⟩ := e
  obtain ⟨is, hIs, hc1⟩ := j1.is
  obtain ⟨iso, hIo, hc2⟩ := j2.is
  have KT : Hid (∀ W', Below V.heap.size V W' → W'.heap[b9]? = some (.cells #[.string z1, .float .f64 r1, .map o1] 66 (0, 0)) ∧ W'.heap[b10]? = some (.cells #[.string z2, .float .f64 r2, .map o2] 66 (0, 0)) ∧ W'.heap[b11]? = some (.cells #[.slice xo al.length xc, .map (some qp), .slice F.u.1 F.u.2.2.length F.u.2.1, .map (some qx)] 84 (0, 0))) := fun W' b => ⟨(b.block _ (lt_of_heap h9)).trans h9, (b.block _ (lt_of_heap h10)).trans h10, (b.block _ (lt_of_heap h11)).trans h11⟩
  have BT : Hid (∀ W', Below V.heap.size V W' → Below w.heap.size w W') := fun W' b => hB.trans (b.mono hB.size)
  have hok : Hid (∀ a ∈ al, X.okk (z1, z2, a)) := fun a ha => by
    have q := HK.out a ha
    have m0 : (⟨#[]⟩ : ByteArray).size ≤ 1048576 := Nat.zero_le _
    have k1 : z1.size ≤ 1048576 := by rcases hc1 with ⟨e, _⟩ | ⟨e, _⟩ <;> rw [e]; all_goals (first | exact Hz.out.1 | exact m0)
    have k2 : z2.size ≤ 1048576 := by rcases hc2 with ⟨e, _⟩ | ⟨e, _⟩ <;> rw [e]; all_goals (first | exact Hz.out.2 | exact m0)
    exact ⟨okk_of k1, okk_of k2, q⟩
  have h1 : Hid (∀ R, abt is r1 R = sbj F.po ts R) := fun R => by
    unfold abt sbj
    rcases hc1 with ⟨_, e, q⟩ | ⟨_, e, q⟩
    · rw [e, q]
    · rw [e, q]; rfl
  have h2 : Hid (∀ s, iso s = obj F.po to s) := fun s => by
    unfold obj
    rcases hc2 with ⟨_, e, q⟩ | ⟨_, e, q⟩
    · rw [e, q]; rfl
    · rw [e, q]; rfl
  have n1 : Hid (tru F.po.sl ts ≠ none → z1 = ts) := fun q => hc1.elim (fun r => r.1) (fun r => absurd r.2.1 q)
  have n2 : Hid (isIn F.po.ol to = true → z2 = to) := fun q => hc2.elim (fun r => r.1) (fun r => by rw [r.2.1] at q; cases q)
  have C68 : Hid (∀ W', Below V.heap.size V W' → Calls Try.prog 68 #[.agg #[.slice xo al.length xc, .map (some qp), .slice F.u.1 F.u.2.2.length F.u.2.1, .map (some qx)], .agg #[.string z1, .float .f64 r1, .map o1]] W' fun e w' => AbIs al is r1 F.u.2.2 W' e w') := fun W' b => rabout_any F xo xc al qp qx B f z1 r1 (.map o1) is W' (H.out.below (BT.out W' b)) Hs.out (hL.below b) (HA.out.below (BT.out W' b)) hac hal HK.out (fun R hR => ⟨(HU.out R hR).1, (HU.out R hR).2.2⟩) (hIs.below b)
  have C69 : Hid (∀ W' B' ro rc rs, Below V.heap.size V W' → Rls B' ro rc rs W' → rs.map Rl.dat = ruls al is r1 F.u.2.2 → Calls Try.prog 69 #[.agg #[.slice xo al.length xc, .map (some qp), .slice F.u.1 F.u.2.2.length F.u.2.1, .map (some qx)], .slice ro rs.length rc, .agg #[.string z1, .float .f64 r1, .map o1], .agg #[.string z2, .float .f64 r2, .map o2]] W' fun e w' => AlwIs F ts to al W' e w') := fun W' B' ro rc rs b hR hd => by
    have fine := ruls_fine hd hal hRl.out
    refine (allowedR_any F xo xc al qp qx B' F.x.2.2 ro rc rs z1 z2 r1 r2 (.map o1) (.map o2) iso W' (HA.out.below (BT.out W' b)) hac hal (hT.below b) hok.out hR (Nat.le_trans fine.1 hul.out) fine.2 (hIo.below b)).mono ?_
    rintro e w' ⟨po, pc, rfl, k1, k2⟩
    rw [hd, res_plw h1.out h2.out n1.out n2.out HS.out] at k1 ⊢
    exact ⟨po, pc, rfl, k1, k2⟩
  have hd : Below V.heap.size V V.drew := ⟨rfl, rfl, rfl, Nat.le_refl _, fun _ _ => rfl⟩
  clear hc1 hc2 hIs hIo j1 j2 h9 h10 h11 hL hT hB h1 h2 n1 n2 hok HX HP H Hs Hz HA HK HS HU hRl
  simp only [Exit.then]
  go_wp2_with fail
  refine wp_region_held_drew (S := fun W' => W'.heap[b9]? = some (.cells #[.string z1, .float .f64 r1, .map o1] 66 (0, 0)) ∧ W'.heap[b10]? = some (.cells #[.string z2, .float .f64 r2, .map o2] 66 (0, 0)) ∧ W'.heap[b11]? = some (.cells #[.slice xo al.length xc, .map (some qp), .slice F.u.1 F.u.2.2.length F.u.2.1, .map (some qx)] 84 (0, 0))) (by kernel_rfl) (KT.out _ hd) (fun hHeld => ?_)
  refine wpAnyH_take (i := 0) (oi := { dst := some 21, op := Op.load 84 (Operand.tmp 11), type := 84, pos := "reading.go:27", after := #[], guard := none }) (v := .agg #[.slice xo al.length xc, .map (some qp), .slice F.u.1 F.u.2.2.length F.u.2.1, .map (some qx)]) rfl (by kernel_rfl) (by kernel_rfl) (by kernel_rfl) (fun _ _ _ h => h) (Or.inl ⟨by kernel_rfl, fun w hSw => ?_⟩) (by assumption) ?_
  · exact ex_row 84 _ rfl b11 rfl 84 _ (0, 0) _ hSw.2.2 Try.underlying84 rfl (by kernel_rfl)
  (try simp only [Act.put, List.setIfInBounds_toArray, List.set_cons_zero, List.set_cons_succ])
  refine wpAnyH_take (i := 1) (oi := { dst := some 22, op := Op.load 84 (Operand.tmp 11), type := 84, pos := "reading.go:27", after := #[], guard := none }) (v := .agg #[.slice xo al.length xc, .map (some qp), .slice F.u.1 F.u.2.2.length F.u.2.1, .map (some qx)]) rfl (by kernel_rfl) (by kernel_rfl) (by kernel_rfl) (fun _ _ _ h => h) (Or.inl ⟨by kernel_rfl, fun w hSw => ?_⟩) (by assumption) ?_
  · exact ex_row 84 _ rfl b11 rfl 84 _ (0, 0) _ hSw.2.2 Try.underlying84 rfl (by kernel_rfl)
  (try simp only [Act.put, List.setIfInBounds_toArray, List.set_cons_zero, List.set_cons_succ])
  refine wpAnyH_take (i := 2) (oi := { dst := some 23, op := Op.load 66 (Operand.tmp 9), type := 66, pos := "reading.go:27", after := #[], guard := none }) (v := .agg #[.string z1, .float .f64 r1, .map o1]) rfl (by kernel_rfl) (by kernel_rfl) (by kernel_rfl) (fun _ _ _ h => h) (Or.inl ⟨by kernel_rfl, fun w hSw => ?_⟩) (by assumption) ?_
  · exact ex_row 66 _ rfl b9 rfl 66 _ (0, 0) _ hSw.1 Try.underlying66 rfl (by kernel_rfl)
  (try simp only [Act.put, List.setIfInBounds_toArray, List.set_cons_zero, List.set_cons_succ])
  refine wpAnyH_take (i := 4) (oi := { dst := some 25, op := Op.load 66 (Operand.tmp 9), type := 66, pos := "reading.go:27", after := #[], guard := none }) (v := .agg #[.string z1, .float .f64 r1, .map o1]) rfl (by kernel_rfl) (by kernel_rfl) (by kernel_rfl) (fun _ _ _ h => h) (Or.inl ⟨by kernel_rfl, fun w hSw => ?_⟩) (by assumption) ?_
  · exact ex_row 66 _ rfl b9 rfl 66 _ (0, 0) _ hSw.1 Try.underlying66 rfl (by kernel_rfl)
  (try simp only [Act.put, List.setIfInBounds_toArray, List.set_cons_zero, List.set_cons_succ])
  refine wpAnyH_take (i := 5) (oi := { dst := some 26, op := Op.load 66 (Operand.tmp 10), type := 66, pos := "reading.go:27", after := #[], guard := none }) (v := .agg #[.string z2, .float .f64 r2, .map o2]) rfl (by kernel_rfl) (by kernel_rfl) (by kernel_rfl) (fun _ _ _ h => h) (Or.inl ⟨by kernel_rfl, fun w hSw => ?_⟩) (by assumption) ?_
  · exact ex_row 66 _ rfl b10 rfl 66 _ (0, 0) _ hSw.2.1 Try.underlying66 rfl (by kernel_rfl)
  (try simp only [Act.put, List.setIfInBounds_toArray, List.set_cons_zero, List.set_cons_succ])
  refine wpAnyH_ready (rs := [3]) (by kernel_rfl) (by simp) ?_
  refine AllReadyH.cons (o := { dst := some 24, op := Op.call { callee := Callee.value (Operand.func 68), args := #[Operand.tmp 22, Operand.tmp 23], argTypes := #[84, 66] }, type := 93, pos := "reading.go:27", after := #[{ on := 1, ground := Ground.data }, { on := 2, ground := Ground.data }], guard := none }) rfl (fun K hK => ?_) AllReadyH.nil
  go_simp
  refine (C68.out _ hd).mono ?_
  rintro e x1 ⟨ro, rc, rs, rfl, hR1, hd1, t1⟩
  have d1 : Below V.heap.size V x1 := hd.trans (t1.mono hd.size)
  clear t1
  (try dsimp only)
  refine hK.out _ _ (KT.out _ d1) (fun hHeld => ?_)
  clear hK K
  (try simp only [Act.put, List.setIfInBounds_toArray, List.set_cons_zero, List.set_cons_succ])
  refine wpAnyH_ready (rs := [6]) (by kernel_rfl) (by simp) ?_
  refine AllReadyH.cons (o := { dst := some 27, op := Op.call { callee := Callee.value (Operand.func 69), args := #[Operand.tmp 21, Operand.tmp 24, Operand.tmp 25, Operand.tmp 26], argTypes := #[84, 93, 66, 66] }, type := 76, pos := "reading.go:27", after := #[{ on := 0, ground := Ground.data }, { on := 3, ground := Ground.data }, { on := 4, ground := Ground.data }, { on := 5, ground := Ground.data }, { on := 3, ground := Ground.chain }], guard := none }) rfl (fun K hK => ?_) AllReadyH.nil
  go_simp
  refine (C69.out _ _ ro rc rs d1 hR1 hd1).mono ?_
  rintro e x2 ⟨po, pc, rfl, hr2, t2⟩
  have d2 : Below V.heap.size V x2 := d1.trans (t2.mono d1.size)
  clear t2
  (try dsimp only)
  refine hK.out _ _ (KT.out _ d2) (fun hHeld => ?_)
  clear hK K
  (try simp only [Act.put, List.setIfInBounds_toArray, List.set_cons_zero, List.set_cons_succ])
  refine wpAnyH_take (i := 7) (oi := { dst := some 8, op := Op.assign (Operand.tmp 27), type := 76, pos := "reading.go:27", after := #[{ on := 6, ground := Ground.data }, { on := 6, ground := Ground.chain }, { on := 0, ground := Ground.phase }, { on := 1, ground := Ground.phase }, { on := 2, ground := Ground.phase }, { on := 3, ground := Ground.phase }, { on := 4, ground := Ground.phase }, { on := 5, ground := Ground.phase }, { on := 6, ground := Ground.phase }], guard := none }) (v := .slice po (plw F ts to al).length pc) rfl (by kernel_rfl) (by kernel_rfl) (by kernel_rfl) (fun _ _ _ h => h) (Or.inl ⟨by kernel_rfl, fun w hSw => ?_⟩) (by assumption) ?_
  · clear hSw; go_simp
  (try simp only [Act.put, List.setIfInBounds_toArray, List.set_cons_zero, List.set_cons_succ])
  refine wpAnyH_done (by kernel_rfl) ?_ _
  have fin : Hid (AlwIs F ts to al w (.returned (.slice po (plw F ts to al).length pc)) x2) := ⟨po, pc, rfl, hr2.mono (BT.out _ d1).size, BT.out _ d2⟩
  clear hHeld KT BT C68 C69 hd d1 d2 hr2
  go_wp2_with fail
  go_ret
  exact fin.out
end U
end Go.Proofs.Ytdhmommfmmiieaa
set_option linter.unusedVariables false
set_option linter.unusedSimpArgs false
namespace Go.Proofs.Ytdhmommfmmiieaa
open Go.RowKit Go.Maps
namespace U
theorem alw_no {F : Pf} {ts to ta : ByteArray} (h : isIn F.po.al ta = false) : alw F ts to ta = false := by
  have e : rany F ts to ta false F.u.2.2 = false := by
    unfold rany
    rw [List.any_eq_false]
    intro R _
    unfold rsay mtc
    rw [h]
    simp
  unfold alw
  rw [e]
  rfl
theorem plw_one (F : Pf) (ts to ta : ByteArray) : (plw F ts to [ta]).length = if alw F ts to ta then 1 else 0 := by
  unfold plw
  rw [List.length_map]
  have e : List.range [ta].length = [0] := rfl
  rw [e]
  cases h : alw F ts to ta
  · rw [List.filter_cons_of_neg (by simp [h])]; rfl
  · rw [List.filter_cons_of_pos (by simp [h])]; rfl
set_option maxRecDepth 100000 in
set_option maxHeartbeats 4000000 in
theorem allows_any (F : Pf) (ts to ta : ByteArray) (w : World) (h : F.In w) (hs : F.Small) (hps : F.po.Small) (hz : ts.size ≤ 1048576 ∧ to.size ≤ 1048576 ∧ ta.size ≤ 1048576) (hxk : ∀ t ∈ F.x.2.2, X.okk t) (hu : ∀ R ∈ F.u.2.2, S.okk R.who ∧ S.okk R.what ∧ ∀ a ∈ R.rl, S.okk a) : Calls Try.prog 22 #[.agg #[.slice F.a.1 F.a.2.2.length F.a.2.1, .slice F.s.1 F.s.2.2.length F.s.2.1, .slice F.r.1 F.r.2.2.length F.r.2.1, .slice F.o.1 F.o.2.2.length F.o.2.1, .slice F.g.1 F.g.2.2.length F.g.2.1, .slice F.m.1 F.m.2.2.length F.m.2.1, .slice F.i.1 F.i.2.2.length F.i.2.1, .slice F.p.1 F.p.2.2.length F.p.2.1, .slice F.w.1 F.w.2.2.length F.w.2.1, .slice F.u.1 F.u.2.2.length F.u.2.1, .slice F.x.1 F.x.2.2.length F.x.2.1], .agg #[.string ts, .string to, .string ta]] w fun e w' => e = .returned (.bool (alw F ts to ta)) ∧ Below w.heap.size w w' := by
  have C45 : Hid (∀ V, Below w.heap.size w V → Calls Try.prog 45 #[.slice F.a.1 F.a.2.2.length F.a.2.1, .string ta] V fun e w' => e = .returned (.bool (isIn F.a.2.2 ta)) ∧ Below V.heap.size V w') := fun V b => (S.contains_any F.a.1 F.a.2.1 F.a.2.2 ta V (h.below b).a.1 h.a.2.1 (by have := hs.a; show _ < _; omega)).mono (by rintro e w' ⟨rfl, rfl⟩; exact ⟨rfl, Below.refl _ _⟩)
  have C56 : Hid (isIn F.a.2.2 ta = true → ∀ V ab, Below w.heap.size w V → V.heap[ab]? = some (.cells #[.string ta] 9 (0, 0)) → Calls Try.prog 56 #[.agg #[.slice F.a.1 F.a.2.2.length F.a.2.1, .slice F.s.1 F.s.2.2.length F.s.2.1, .slice F.r.1 F.r.2.2.length F.r.2.1, .slice F.o.1 F.o.2.2.length F.o.2.1, .slice F.g.1 F.g.2.2.length F.g.2.1, .slice F.m.1 F.m.2.2.length F.m.2.1, .slice F.i.1 F.i.2.2.length F.i.2.1, .slice F.p.1 F.p.2.2.length F.p.2.1, .slice F.w.1 F.w.2.2.length F.w.2.1, .slice F.u.1 F.u.2.2.length F.u.2.1, .slice F.x.1 F.x.2.2.length F.x.2.1], .string ts, .string to, .slice (some ⟨ab, 0, none⟩) 1 1] V fun e w' => AlwIs F ts to [ta] V e w') := fun hin V ab b hab => allowed_any F ts to (some ⟨ab, 0, none⟩) 1 [ta] V (h.below b) hs hps ⟨hz.1, hz.2.1⟩ (.inr ⟨ab, 0, rfl, lt_of_heap hab, fun i k q => by
    cases i with
    | zero => simp at q; subst q; rw [Lib.cell_of_heap hab]; rfl
    | succ i => simp at q⟩) (Nat.le_refl _) (by simp) (fun a ha => by rw [List.mem_singleton] at ha; rw [ha]; exact okk_of hz.2.2) (fun a ha => by rw [List.mem_singleton] at ha; rw [ha]; exact hin) hxk hu
  have hno : Hid (isIn F.a.2.2 ta = false → alw F ts to ta = false) := fun q => alw_no q
  have hone := hide' (plw_one F ts to ta)
  clear h hs hps hz hxk hu
  go_enter Try.func22, Try.ntmps22
  have B0 := hide' (Bx.mk2 F ts to ta w)
  have e2 : ((w.alloc (.cells #[.slice F.a.1 F.a.2.2.length F.a.2.1, .slice F.s.1 F.s.2.2.length F.s.2.1, .slice F.r.1 F.r.2.2.length F.r.2.1, .slice F.o.1 F.o.2.2.length F.o.2.1, .slice F.g.1 F.g.2.2.length F.g.2.1, .slice F.m.1 F.m.2.2.length F.m.2.1, .slice F.i.1 F.i.2.2.length F.i.2.1, .slice F.p.1 F.p.2.2.length F.p.2.1, .slice F.w.1 F.w.2.2.length F.w.2.1, .slice F.u.1 F.u.2.2.length F.u.2.1, .slice F.x.1 F.x.2.2.length F.x.2.1] 34)).alloc (.cells #[.string ts, .string to, .string ta] 36)).cell? ⟨w.heap.size, 0, none⟩ = some (.slice F.a.1 F.a.2.2.length F.a.2.1) := by rw [Lib.cell_of_heap B0.out.h2]; rfl
  have t2 : ((w.alloc (.cells #[.slice F.a.1 F.a.2.2.length F.a.2.1, .slice F.s.1 F.s.2.2.length F.s.2.1, .slice F.r.1 F.r.2.2.length F.r.2.1, .slice F.o.1 F.o.2.2.length F.o.2.1, .slice F.g.1 F.g.2.2.length F.g.2.1, .slice F.m.1 F.m.2.2.length F.m.2.1, .slice F.i.1 F.i.2.2.length F.i.2.1, .slice F.p.1 F.p.2.2.length F.p.2.1, .slice F.w.1 F.w.2.2.length F.w.2.1, .slice F.u.1 F.u.2.2.length F.u.2.1, .slice F.x.1 F.x.2.2.length F.x.2.1] 34)).alloc (.cells #[.string ts, .string to, .string ta] 36)).cell? ⟨w.heap.size + 1, 2, none⟩ = some (.string ta) := by rw [Lib.cell_of_heap B0.out.h3]; rfl
  go_wp2_with fail
  refine (C45.out _ B0.out.b).mono ?_
  rintro e w2 ⟨rfl, b2⟩
  have B2 := hide' (B0.out.below b2)
  clear B0 C45 b2 e2 t2
  obtain ⟨q2, hq2⟩ : ∃ q2, q2 = w.heap.size := ⟨_, rfl⟩
  generalize w.heap.size + 1 = q3 at *
  rw [← hq2] at B2
  rw [← hq2]
  clear hq2
  generalize isIn F.a.2.2 ta = iv at *
  cases iv with
  | false =>
    have hn0 := hide' (hno.out rfl)
    clear hno C56
    go_wp2_with fail
    go_ret
    exact ⟨by rw [hn0.out]; rfl, B2.out.b⟩
  | true =>
    have C56' := hide' (C56.out rfl)
    clear C56 hno
    have m0 : w2.cell? ⟨q2, 0, none⟩ = some (.slice F.a.1 F.a.2.2.length F.a.2.1) := by rw [Lib.cell_of_heap B2.out.h2]; rfl
    have m1 : w2.cell? ⟨q2, 1, none⟩ = some (.slice F.s.1 F.s.2.2.length F.s.2.1) := by rw [Lib.cell_of_heap B2.out.h2]; rfl
    have m2 : w2.cell? ⟨q2, 2, none⟩ = some (.slice F.r.1 F.r.2.2.length F.r.2.1) := by rw [Lib.cell_of_heap B2.out.h2]; rfl
    have m3 : w2.cell? ⟨q2, 3, none⟩ = some (.slice F.o.1 F.o.2.2.length F.o.2.1) := by rw [Lib.cell_of_heap B2.out.h2]; rfl
    have m4 : w2.cell? ⟨q2, 4, none⟩ = some (.slice F.g.1 F.g.2.2.length F.g.2.1) := by rw [Lib.cell_of_heap B2.out.h2]; rfl
    have m5 : w2.cell? ⟨q2, 5, none⟩ = some (.slice F.m.1 F.m.2.2.length F.m.2.1) := by rw [Lib.cell_of_heap B2.out.h2]; rfl
    have m6 : w2.cell? ⟨q2, 6, none⟩ = some (.slice F.i.1 F.i.2.2.length F.i.2.1) := by rw [Lib.cell_of_heap B2.out.h2]; rfl
    have m7 : w2.cell? ⟨q2, 7, none⟩ = some (.slice F.p.1 F.p.2.2.length F.p.2.1) := by rw [Lib.cell_of_heap B2.out.h2]; rfl
    have m8 : w2.cell? ⟨q2, 8, none⟩ = some (.slice F.w.1 F.w.2.2.length F.w.2.1) := by rw [Lib.cell_of_heap B2.out.h2]; rfl
    have m9 : w2.cell? ⟨q2, 9, none⟩ = some (.slice F.u.1 F.u.2.2.length F.u.2.1) := by rw [Lib.cell_of_heap B2.out.h2]; rfl
    have m10 : w2.cell? ⟨q2, 10, none⟩ = some (.slice F.x.1 F.x.2.2.length F.x.2.1) := by rw [Lib.cell_of_heap B2.out.h2]; rfl
    have t0 : w2.cell? ⟨q3, 0, none⟩ = some (.string ts) := by rw [Lib.cell_of_heap B2.out.h3]; rfl
    have t1 : w2.cell? ⟨q3, 1, none⟩ = some (.string to) := by rw [Lib.cell_of_heap B2.out.h3]; rfl
    have t2 : w2.cell? ⟨q3, 2, none⟩ = some (.string ta) := by rw [Lib.cell_of_heap B2.out.h3]; rfl
    go_wp2_with fail
    refine (C56'.out _ _ (B2.out.b.alloc B2.out.b.size _) (heap_alloc_new w2 _)).mono ?_
    rintro e w4 ⟨po, pc, rfl, _, b4⟩
    have bf : Hid (Below w.heap.size w w4) := (B2.out.b.alloc B2.out.b.size (.cells #[.string ta] 9)).trans (b4.mono (B2.out.b.alloc B2.out.b.size (.cells #[.string ta] 9)).size)
    rw [hone.out]
    clear C56' b4 t0 t1 t2 m0 m1 m2 m3 m4 m5 m6 m7 m8 m9 m10
    obtain ⟨av, hav⟩ : ∃ av, alw F ts to ta = av := ⟨_, rfl⟩
    have Hav := hide' hav
    rw [hav]
    clear hav hone
    cases av
    all_goals go_wp2_with fail
    all_goals go_ret
    all_goals exact ⟨by rw [Hav.out]; rfl, bf.out⟩
end U
end Go.Proofs.Ytdhmommfmmiieaa
