import Derived.Test.YtmcdifmbblbhgaaFrame
import Derived.Test.YtmcdifmbblbhgaaGvw
import Derived.Deep.Slices
import Derived.ChangeMaps
set_option linter.unusedVariables false
set_option linter.unusedSimpArgs false
namespace Go.Proofs.Ytmcdifmbblbhgaa
namespace graphValid
open Go.ChangeShapes Go.WideShapes Go.ChangeAt Go.RowKit Go.Deep
theorem add_off (b off n : Nat) : (⟨b, off, none⟩ : Addr).add n = ⟨b, off + n, none⟩ := by
  unfold Addr.add
  split <;> simp_all
set_option maxRecDepth 100000 in
/-- a slice that came in, of things of one cell each -/
theorem rows_in {α : Type} (dflt : α) (cl : α → Value) (Pr : α → Prop) {t e : Nat} (hu : Try.prog.underlying t = some (.slice e)) (hsz : Try.prog.cellsOf e = 1) {H : Type} {enc : TypeId × Value → H} {W : World}
    (dec : ∀ (base : Nat) (spare : Nat → Bool) (held : Bool) (n : Nat) (v : Value) (x : DataW H × List MemPlace), DataW.trod enc Try.prog W base spare held n e [v] = some x → ∃ q, v = cl q ∧ Pr q)
    {base : Nat} {spare : Nat → Bool} {held : Bool} {n : Nat} {v : Value} {x : DataW H × List MemPlace} (hf : DataW.trod enc Try.prog W base spare held n t [v] = some x) :
    ∃ X : D.X3 α, v = .slice X.1 X.2.2.length X.2.1 ∧ D.Ok cl X W ∧ (∀ q ∈ X.2.2, Pr q) ∧ (X.1 = none → X.2.1 = 0) := by
  rcases DataW.trod_slice hu hf with ⟨hcs, _⟩ | ⟨y, len, c, elems, rest, m, _, hcs, hx, hb, hl, hm, hel, hi, _, _⟩
  · simp at hcs
    subst hcs
    exact ⟨(none, 0, []), rfl, ⟨.inl rfl, Nat.le_refl _, by show ((0 : Nat) : Int) ≤ _; decide⟩, (fun p hp => by cases hp), fun _ => rfl⟩
  · simp at hcs
    subst hcs
    have hm' : (len : Int) ≤ 9223372036854775807 := by unfold maxLen at hm; omega
    by_cases hz : len = 0
    · subst hz
      exact ⟨(some y, c, []), rfl, ⟨.inl rfl, Nat.zero_le _, by show ((0 : Nat) : Int) ≤ _; decide⟩, (fun p hp => by cases hp), fun q => by cases q⟩
    have each : ∀ i, i < len → ∃ q : α, W.cell? ((y.add i).add 0) = some (cl q) ∧ Pr q := by
      intro i hi'
      have hh := hi i hi'
      have hie : i < elems.length := by omega
      rw [List.getElem?_eq_getElem hie, Option.bind_eq_some_iff, hsz, Nat.mul_one] at hh
      obtain ⟨cs', h1, h2⟩ := hh
      obtain ⟨_, hlen, hcell⟩ := World.cells?_some h1
      match cs', hlen with
      | [u], _ =>
        obtain ⟨q, rfl, h5⟩ := dec _ _ _ _ u _ h2
        have := hcell 0 (by omega)
        refine ⟨q, ?_, h5⟩
        simpa using this
    haveI : Inhabited α := ⟨dflt⟩
    obtain ⟨op, hop⟩ := Go.Deep.choose_lt each
    have hc0 := (hop 0 (by omega)).1
    obtain ⟨b, off, spot⟩ := y
    have hspot : spot = none := by simpa [Addr.add] using World.cell?_spot hc0
    subst hspot
    have hbl : b < W.heap.size := World.block_lt_of_cell? W _ (by simpa [Addr.add] using hc0)
    refine ⟨(some ⟨b, off, none⟩, c, (List.range len).map op), by simp, ⟨.inr ⟨b, off, rfl, hbl, fun i r k u hi' hr => ?_⟩, by simpa using hl, by simpa using hm'⟩, fun q hq => ?_, fun q => by cases q⟩
    · rw [List.getElem?_map, List.getElem?_map] at hi'
      by_cases q : i < len
      · rw [List.getElem?_range q] at hi'
        simp at hi'
        subst hi'
        cases r with
        | zero =>
          simp at hr
          subst hr
          have := (hop i q).1
          rw [add_off, add_off, Nat.add_zero] at this
          rw [Nat.mul_one, Nat.add_zero]
          exact this
        | succ r => simp at hr
      · rw [List.getElem?_eq_none (by simp; omega)] at hi'; cases hi'
    · obtain ⟨j, hj, rfl⟩ := List.mem_map.1 hq
      exact (hop j (List.mem_range.1 hj)).2
theorem wf_bd {n : Int} (h : (Lit.int .i64 n).wf = true) : -9223372036854775808 ≤ n ∧ n ≤ 9223372036854775807 := by
  simp [Lit.wf, IntKind.min, IntKind.max, IntKind.bits, IntKind.signed] at h
  omega
theorem wf_u16 {n : Int} (h : (Lit.int .u16 n).wf = true) : ∃ m : Nat, n = (m : Int) ∧ m < 65536 := by
  simp [Lit.wf, IntKind.min, IntKind.max, IntKind.bits, IntKind.signed] at h
  exact ⟨n.toNat, by omega, by omega⟩
variable {H : Type} {enc : TypeId × Value → H} {W : World}
theorem dec9 (base : Nat) (spare : Nat → Bool) (held : Bool) (n : Nat) (v : Value) (x : DataW H × List MemPlace) (h : DataW.trod enc Try.prog W base spare held n 9 [v] = some x) : ∃ q : ByteArray, v = .string q ∧ S.okk q := by
  obtain ⟨s, hv, _, hw⟩ := DataW.trod_string Try.underlying9 h
  exact ⟨s, by simpa using hv, hw⟩
theorem dec3 (base : Nat) (spare : Nat → Bool) (held : Bool) (n : Nat) (v : Value) (x : DataW H × List MemPlace) (h : DataW.trod enc Try.prog W base spare held n 3 [v] = some x) : ∃ q : Int, v = .int .i64 q ∧ (-9223372036854775808 ≤ q ∧ q ≤ 9223372036854775807) := by
  obtain ⟨z, hv, _, hw⟩ := DataW.trod_int Try.underlying3 h
  exact ⟨z, by simpa using hv, wf_bd hw⟩
theorem dec24 (base : Nat) (spare : Nat → Bool) (held : Bool) (n : Nat) (v : Value) (x : DataW H × List MemPlace) (h : DataW.trod enc Try.prog W base spare held n 24 [v] = some x) : ∃ q : Nat, v = .int .u16 (q : Int) ∧ q < 65536 := by
  obtain ⟨z, hv, _, hw⟩ := DataW.trod_int Try.underlying24 h
  obtain ⟨m, rfl, hm⟩ := wf_u16 hw
  exact ⟨m, by simpa using hv, hm⟩
theorem cells9 : Try.prog.cellsOf 9 = 1 := by kernel_rfl
theorem cells3 : Try.prog.cellsOf 3 = 1 := by kernel_rfl
theorem cells24 : Try.prog.cellsOf 24 = 1 := by kernel_rfl
theorem cells25 : Try.prog.cellsOf 25 = 1 := by kernel_rfl
theorem cells22 : Try.prog.cellsOf 22 = 1 := by kernel_rfl
theorem cells23 : Try.prog.cellsOf 23 = 1 := by kernel_rfl
theorem cells26 : Try.prog.cellsOf 26 = 1 := by kernel_rfl
theorem cells28 : Try.prog.cellsOf 28 = 6 := by kernel_rfl
theorem cells32 : Try.prog.cellsOf 32 = 3 := by kernel_rfl
theorem dec25 (base : Nat) (spare : Nat → Bool) (held : Bool) (n : Nat) (v : Value) (x : DataW H × List MemPlace) (h : DataW.trod enc Try.prog W base spare held n 25 [v] = some x) : ∃ r : D.Mr, v = r.cell ∧ (D.Ok (fun z : Nat => Value.int .u16 (z : Int)) (r.ro, r.rc, r.l) W ∧ ∀ z ∈ r.l, z < 65536) := by
  obtain ⟨X, hv, hX, hp, _⟩ := rows_in (0 : Nat) (fun z : Nat => Value.int .u16 (z : Int)) (fun z => z < 65536) Try.underlying25 cells24 dec24 h
  exact ⟨⟨X.1, X.2.1, X.2.2⟩, hv, hX, hp⟩
theorem fields28 : ∃ f0 f1 f2 f3 f4 f5 : Field, Try.prog.underlying 28 = some (.struct #[f0, f1, f2, f3, f4, f5]) ∧ (f0.offset = 0 ∧ f1.offset = 1 ∧ f2.offset = 2 ∧ f3.offset = 3 ∧ f4.offset = 4 ∧ f5.offset = 5) ∧ (f0.type = 22 ∧ f1.type = 22 ∧ f2.type = 22 ∧ f3.type = 23 ∧ f4.type = 23 ∧ f5.type = 26) := ⟨_, _, _, _, _, _, Try.underlying28, ⟨rfl, rfl, rfl, rfl, rfl, rfl⟩, ⟨rfl, rfl, rfl, rfl, rfl, rfl⟩⟩
theorem fields32 : ∃ f0 f1 f2 : Field, Try.prog.underlying 32 = some (.struct #[f0, f1, f2]) ∧ (f0.offset = 0 ∧ f1.offset = 1 ∧ f2.offset = 2) ∧ (f0.type = 9 ∧ f1.type = 9 ∧ f2.type = 9) := ⟨_, _, _, Try.underlying32, ⟨rfl, rfl, rfl⟩, ⟨rfl, rfl, rfl⟩⟩
set_option maxRecDepth 100000 in
theorem graph_in {v : Value} {d : DataW H} {ps : List MemPlace} {base b : Nat} {spare : Nat → Bool} {held : Bool} (hv : Value.okWide Try.prog W .any b 28 v)
    (h : DataW.Trod enc Try.prog W base spare held 28 v d ps) : ∃ G : D.Gf, v = .agg #[.slice G.a.1 G.a.2.2.length G.a.2.1, .slice G.s.1 G.s.2.2.length G.s.2.1, .slice G.o.1 G.o.2.2.length G.o.2.1, .slice G.f.1 G.f.2.2.length G.f.2.1, .slice G.n.1 G.n.2.2.length G.n.2.1, .slice G.m.1 G.m.2.2.length G.m.2.1] ∧ G.In W ∧ (G.f.1 = none → G.f.2.1 = 0) ∧ (G.n.1 = none → G.n.2.1 = 0) ∧ (∀ z ∈ G.a.2.2, S.okk z) ∧ (∀ z ∈ G.s.2.2, S.okk z) ∧ (∀ z ∈ G.o.2.2, S.okk z) := by
  obtain ⟨f0, f1, f2, f3, f4, f5, he, ⟨o0, o1, o2, o3, o4, o5⟩, ⟨t0, t1, t2, t3, t4, t5⟩⟩ := fields28
  obtain ⟨cs, rfl, hsz⟩ := okWide_struct he hv
  rw [cells28] at hsz
  obtain ⟨fuel, hf⟩ := h
  obtain ⟨xs, k, hk, hxy, _, hxl, hff⟩ := DataW.trod_struct he hf
  obtain ⟨cl⟩ := cs
  match cl, hsz with
  | [c0, c1, c2, c3, c4, c5], _ =>
    match xs, hxl with
    | [y0, y1, y2, y3, y4, y5], _ =>
      have g0 := hff 0 f0 rfl
      have g1 := hff 1 f1 rfl
      have g2 := hff 2 f2 rfl
      have g3 := hff 3 f3 rfl
      have g4 := hff 4 f4 rfl
      have g5 := hff 5 f5 rfl
      simp [o0, o1, o2, o3, o4, o5, t0, t1, t2, t3, t4, t5, cells22, cells23, cells26, Value.cells] at g0 g1 g2 g3 g4 g5
      obtain ⟨A, rfl, hA, kA, _⟩ := rows_in ByteArray.empty Value.string S.okk Try.underlying22 cells9 dec9 g0
      obtain ⟨Sx, rfl, hS, kS, _⟩ := rows_in ByteArray.empty Value.string S.okk Try.underlying22 cells9 dec9 g1
      obtain ⟨O, rfl, hO, kO, _⟩ := rows_in ByteArray.empty Value.string S.okk Try.underlying22 cells9 dec9 g2
      obtain ⟨F, rfl, hF, pF, nF⟩ := rows_in (0 : Int) (Value.int .i64) (fun q => -9223372036854775808 ≤ q ∧ q ≤ 9223372036854775807) Try.underlying23 cells3 dec3 g3
      obtain ⟨N, rfl, hN, pN, nN⟩ := rows_in (0 : Int) (Value.int .i64) (fun q => -9223372036854775808 ≤ q ∧ q ≤ 9223372036854775807) Try.underlying23 cells3 dec3 g4
      obtain ⟨M, rfl, hM, pM, _⟩ := rows_in D.mr0 D.Mr.cell (fun r => D.Ok (fun z : Nat => Value.int .u16 (z : Int)) (r.ro, r.rc, r.l) W ∧ ∀ z ∈ r.l, z < 65536) Try.underlying26 cells25 dec25 g5
      exact ⟨⟨A, Sx, O, F, N, M⟩, rfl, ⟨hA, hS, hO, hF, hN, hM, pM, pF, pN⟩, nF, nN, kA, kS, kO⟩
set_option maxRecDepth 100000 in
theorem lifted (os : Os) (started : os.Started) (H : Type) (enc : TypeId × Value → H) :
    ReturnsInHanded {} Try.checked os 5 .any (Rows.graphValidSpec.pre6 enc Try.prog Try.f5 Rows.graphValidRow.domain false) (Rows.graphValidSpec.post enc Try.prog Try.f5 false true false false) := by
  refine returnsInHanded_of_change (C := Try.checked) own started (by kernel_rfl) Try.func5
    (ChangeSpec.witness6 (enc := enc) (C := Try.checked) false ⟨#[], #[.agg #[.slice none 0 0, .slice none 0 0, .slice none 0 0, .slice none 0 0, .slice none 0 0, .slice none 0 0]], []⟩ 8 (by kernel_rfl) (by kernel_rfl) (by kernel_rfl) (by kernel_rfl)) ?_
  intro W base args ds gs before hval0 hW hcnd _
  have hval : ∀ (j : Nat) t v, Try.f5.params[j]? = some t → args[j]? = some v → Value.okWide Try.prog W .any base t v := hval0
  have hW' := hW
  obtain ⟨p, q, hA0, hV, rfl, hfz, hnd⟩ := hW
  have hA : DataW.TrodAll enc Try.prog W 0 (fun _ => true) true Try.f5.params.toList args.toList ds p := hA0
  rw [Try.params5] at hA hval
  obtain ⟨v0, vs0, d0, ds0, p0, q0, hargs, rfl, rfl, h0, r0⟩ := trodAll_cons hA
  obtain ⟨rfl, rfl, rfl⟩ := trodAll_nil r0
  obtain rfl : args = #[v0] := by cases args; simp_all
  obtain ⟨rfl, rfl⟩ := trodVars_none hV
  have k0 := h0
  have lt0 : ∀ x ∈ p0, x.block < W.heap.size := by obtain ⟨m, hm⟩ := k0; exact DataW.trod_lt m _ _ _ hm
  obtain ⟨G, rfl, hG, nf, nn, ka, ks, ko⟩ := graph_in (hval 0 28 v0 rfl rfl) h0
  clear hA0 hval0
  refine (V.graphValid_walk G W hG nf nn ka ks ko).mono fun e W' ⟨he, bel⟩ => ?_
  subst he
  exact ⟨_, rfl, _, _, _, [], _, [], hW', trodAll_mk1 (shut_bool Try.underlying4 _), (trodAll_cons_mk (Below.trod laidOut (by kernel_rfl) (of_decide_eq_true (by kernel_rfl)) k0 bel lt0) trodAll_mk0), rfl, bel.frame _, fun h => by cases h⟩

theorem over : Rows.graphValidRow.holds Try.pinned (OpenSpec.ofChange Rows.graphValidSpec) :=
  OpenClaim.holds_of_wide 5 Try.f5 rfl rfl rfl rfl rfl rfl rfl ⟨rfl, rfl, rfl, rfl, rfl⟩ rfl rfl rfl rfl rfl (by kernel_rfl) Try.func5 (by kernel_rfl)
    (of_decide_eq_true (by kernel_rfl)) (by unfold Func.isWrapper; first | (rw [if_pos (by decide +kernel)]; kernel_rfl) | (rw [if_neg (by decide +kernel)]; exact ⟨rfl, rfl⟩))
    (fun os started H enc _ => lifted os started H enc)
end graphValid

theorem graphValid_holds : Rows.GraphValidSaid := graphValid.over
#print axioms graphValid_holds
end Go.Proofs.Ytmcdifmbblbhgaa
