import Derived.Test.YtdhmommfmmiieaaThr
set_option linter.unusedVariables false
set_option linter.unusedSimpArgs false
namespace Go.Proofs.Ytdhmommfmmiieaa
open Go.RowKit Go.Maps
namespace U
/-- a policy in rows of one's own; its rules' actions may be those that came in -/
structure Rs2 (w0 : World) (B : Nat) (J : Pf) (V : World) : Prop where
  a : S.RowI B J.a.1 J.a.2.1 J.a.2.2 V
  s : T.RowI B J.s.1 J.s.2.1 J.s.2.2 V
  r : S.RowI B J.r.1 J.r.2.1 J.r.2.2 V
  o : S.RowI B J.o.1 J.o.2.1 J.o.2.2 V
  g : S.RowI B J.g.1 J.g.2.1 J.g.2.2 V
  m : Q.RowI B J.m.1 J.m.2.1 J.m.2.2 V
  i : Q.RowI B J.i.1 J.i.2.1 J.i.2.2 V
  p : Q.RowI B J.p.1 J.p.2.1 J.p.2.2 V
  w : Q.RowI B J.w.1 J.w.2.1 J.w.2.2 V
  ur : ∀ R ∈ J.u.2.2, (S.RowI B R.ro R.rc R.rl V ∨ Ok3 S.Ints (R.ro, R.rc, R.rl) w0) ∧ (∃ b, R.d = .bool b) ∧ R.rl.length ≤ 1048576
  x : X.RowI B J.x.1 J.x.2.1 J.x.2.2 V
theorem Rest.rs2 {w0 : World} {B : Nat} {J : Pf} {V : World} (h : Rest B J V) : Rs2 w0 B J V := ⟨h.a, h.s, h.r, h.o, h.g, h.m, h.i, h.p, h.w, fun R hR => ⟨.inl (h.ur R hR).1, (h.ur R hR).2⟩, h.x⟩
theorem Rs2.turn {w0 : World} {B : Nat} {J : Pf} {V V' : World} {Z : Nat → Prop} (h : Rs2 w0 B J V) (t : Turn Z V V') (hT : Soft2 Z V) : Rs2 w0 B J V' :=
  ⟨srow_soft h.a t hT, trow_soft h.s t hT, srow_soft h.r t hT, srow_soft h.o t hT, srow_soft h.g t hT, qrow_soft h.m t hT, qrow_soft h.i t hT, qrow_soft h.p t hT, qrow_soft h.w t hT, fun R hR => ⟨(h.ur R hR).1.imp (fun q => srow_soft q t hT) id, (h.ur R hR).2⟩, xrow_soft h.x t hT⟩
theorem Rs2.below {w0 : World} {B : Nat} {J : Pf} {V V' : World} (h : Rs2 w0 B J V) (t : Below V.heap.size V V') : Rs2 w0 B J V' := h.turn (turn_below (S := fun _ => False) t) (fun _ q => q.elim)
theorem Rs2.pin {w0 : World} {B : Nat} {J : Pf} {V : World} (h : Rs2 w0 B J V) (hu : URow B J V) (b : Below w0.heap.size w0 V) : J.In V where
  a := ⟨h.a.ints, row_ok h.a.form⟩
  s := ⟨h.s.subs, row_ok h.s.form⟩
  r := ⟨h.r.ints, row_ok h.r.form⟩
  o := ⟨h.o.ints, row_ok h.o.form⟩
  g := ⟨h.g.ints, row_ok h.g.form⟩
  m := ⟨h.m.ints, row_ok h.m.form⟩
  i := ⟨h.i.ints, row_ok h.i.form⟩
  p := ⟨h.p.ints, row_ok h.p.form⟩
  w := ⟨h.w.ints, row_ok h.w.form⟩
  u := by
    have q := row_ok hu.form
    rw [List.length_map] at q
    exact ⟨⟨lies_row hu (cells6 _), fun R hR => ⟨by
      rcases (h.ur R hR).1 with z | z
      · exact ⟨z.ints, row_ok z.form⟩
      · exact ⟨z.1.below b, z.2⟩, (h.ur R hR).2⟩⟩, q⟩
  x := ⟨h.x.ints, row_ok h.x.form⟩
/-- .. in a block -/
structure Pq (w0 : World) (B q : Nat) (J : Pf) (V : World) : Prop where
  h : V.heap[q]? = some (.cells J.arr 34 (0, 0))
  l : B ≤ q
  rs : Rs2 w0 B J V
  u : URow B J V
theorem Ps.pq {w0 : World} {B q : Nat} {J : Pf} {V : World} (p : Ps B q J V) : Pq w0 B q J V := ⟨p.h, p.l, p.rs.rs2, p.u⟩
theorem Pq.below {w0 : World} {B q : Nat} {J : Pf} {V V' : World} (p : Pq w0 B q J V) (t : Below V.heap.size V V') : Pq w0 B q J V' := ⟨(t.block _ (lt_of_heap p.h)).trans p.h, p.l, p.rs.below t, p.u.below t⟩
theorem Pq.pin {w0 : World} {B q : Nat} {J : Pf} {V : World} (p : Pq w0 B q J V) (b : Below w0.heap.size w0 V) : J.In V := p.rs.pin p.u b
theorem Pq.c {w0 : World} {B q : Nat} {J : Pf} {V : World} (p : Pq w0 B q J V) (i : Nat) : V.cell? ⟨q, i, none⟩ = J.arr[i]? := by rw [Lib.cell_of_heap p.h]
theorem Pq.f {w0 : World} {B q : Nat} {J : Pf} {V : World} (p : Pq w0 B q J V) (i : Nat) : V.frozen? ⟨q, i, none⟩ = false := Lib.frozen_of_heap p.h i
theorem Pq.put {w0 : World} {B q : Nat} {J' : Pf} {V : World} {A : Array Value} (h : V.heap[q]? = some (.cells A 34 (0, 0))) (l : B ≤ q) (i : Nat) (v : Value) (e : A.setIfInBounds i v = J'.arr) (rs : Rs2 w0 B J' V) (u : URow B J' V) : Pq w0 B q J' (V.setCell ⟨q, i, none⟩ v) := by
  have t : Turn (fun j => j = q) V (V.setCell ⟨q, i, none⟩ v) := set_turn q i v V
  have hT : Soft2 (fun j => j = q) V := fun j e => by
    have e' : j = q := e
    subst e'
    exact ⟨_, 34, h, .inl rfl⟩
  exact ⟨by rw [heap_set h, e], l, rs.turn t hT, u.turn t (fun j a e => by obtain ⟨cur, k⟩ := kindG u a; rw [e] at k; exact cells_ne k h (by decide) rfl)⟩
/-- a rule is appended -/
theorem Pq.appu {w0 : World} {B q : Nat} {J : Pf} {V V' : World} {g cap : Nat} {R : Ru} (p : Pq w0 B q J V) (t : Turn (G.At J.u.1) V V') (r : G.RowI 27 6 B (some ⟨g, 0, none⟩) cap (J.u.2.2.map Ru.cells ++ [R.cells]) V') (hR : (S.RowI B R.ro R.rc R.rl V ∨ Ok3 S.Ints (R.ro, R.rc, R.rl) w0) ∧ (∃ b, R.d = .bool b) ∧ R.rl.length ≤ 1048576) :
    Pq w0 B q { J with u := (some ⟨g, 0, none⟩, cap, J.u.2.2 ++ [R]) } (V'.setCell ⟨q, 9, none⟩ (.slice (some ⟨g, 0, none⟩) (J.u.2.2.length + 1) cap)) ∧ V'.heap[q]? = some (.cells J.arr 34 (0, 0)) := by
  have hT : Soft2 (G.At J.u.1) V := fun j a => by obtain ⟨cur, k⟩ := kindG p.u a; exact ⟨cur, 27, k, .inr rfl⟩
  have h' := (t.block q (lt_of_heap p.h) (fun z => by obtain ⟨c, k⟩ := kindG p.u z; exact cells_ne p.h k (by decide) rfl)).trans p.h
  have rs := p.rs.turn t hT
  refine ⟨Pq.put h' p.l 9 _ (by show _ = Pf.arr _; simp [Pf.arr]) ⟨rs.a, rs.s, rs.r, rs.o, rs.g, rs.m, rs.i, rs.p, rs.w, fun R' hR' => ?_, rs.x⟩ ?_, h'⟩
  · rcases List.mem_append.1 hR' with z | z
    · exact rs.ur R' z
    · rw [List.mem_singleton] at z; subst z; exact ⟨hR.1.imp (fun q => srow_soft q t hT) id, hR.2⟩
  · show G.RowI 27 6 _ _ _ ((J.u.2.2 ++ [R]).map Ru.cells) V'
    rw [List.map_append]; exact r
theorem mtc_call (F : Pf) (N : Nat) (R : Ru) (bv : Bool) (ts to ta : ByteArray) (w : World) (h : F.In w) (f : Fine F N) (hb : R.d = .bool bv) (hr : Ok3 S.Ints (R.ro, R.rc, R.rl) w) (hz : ts.size ≤ 1048576 ∧ to.size ≤ 1048576 ∧ R.who.size ≤ 1048576 ∧ R.what.size ≤ 1048576 ∧ R.rl.length ≤ 1048576) :
    Calls Try.prog 19 #[.agg F.arr, .agg #[.bool bv, .string R.who, .string R.what, .slice R.ro R.rl.length R.rc, .int .i8 R.cd, .float .f64 R.lv], .agg #[.string ts, .string to, .string ta]] w fun e w' => e = .returned (.bool (mtc F.po R ts to ta)) ∧ Below w.heap.size w w' := by
  have q := matches_any F.po R ts to ta w h.po f.po hr.1 hr.2.1 hz
  unfold Ru.val at q
  rw [hb] at q
  exact q
theorem tru_no {sl : List Sb} {z : ByteArray} (h : isIn (sl.map (·.1)) z = false) : tru sl z = none := by
  unfold tru
  rw [List.find?_eq_none.2 (fun u hu => ?_)]
  · rfl
  · simp only [decide_eq_true_eq]
    intro e
    rw [isIn_yes (List.mem_map.2 ⟨u, hu, e⟩)] at h
    cases h
theorem mtc_thr {F : Pf} {t : X.K3} (h : thr F t = false) (R : Ru) : mtc F.po R t.1 t.2.1 t.2.2 = false := by
  unfold thr at h
  unfold mtc
  show (isIn F.a.2.2 t.2.2 && _ && (match tru F.s.2.2 t.1 with | some t' => _ | none => false) && _) = false
  cases h1 : isIn (F.s.2.2.map (·.1)) t.1 with
  | false => rw [tru_no h1]; simp
  | true =>
    rw [h1] at h
    cases h2 : isIn F.a.2.2 t.2.2 with
    | false => simp
    | true =>
      rw [h2] at h
      have h3 : isIn F.o.2.2 t.2.1 = false := by simpa using h
      show (_ && (isIn F.o.2.2 t.2.1 && _)) = false
      rw [h3]
      simp
theorem alw_thr {F : Pf} {t : X.K3} (h : thr F t = false) : alw F t.1 t.2.1 t.2.2 = false := by
  have e : rany F t.1 t.2.1 t.2.2 false F.u.2.2 = false := by
    unfold rany
    rw [List.any_eq_false]
    intro R _
    unfold rsay
    rw [mtc_thr h]
    simp
  unfold alw
  rw [e]
  rfl
theorem rel_thr {F : Pf} {t : X.K3} (h : thr F t = false) : isIn (rel F) t = false := by
  refine isIn_no (fun q => ?_)
  rw [rel_trs, List.mem_filter] at q
  have := q.2
  unfold alt at this
  rw [alw_thr h] at this
  cases this
theorem thr_nm {F J : Pf} (h : Nm F J) (t : X.K3) : thr J t = thr F t := by unfold thr; rw [h.a, h.s, h.o]
end U
end Go.Proofs.Ytdhmommfmmiieaa
