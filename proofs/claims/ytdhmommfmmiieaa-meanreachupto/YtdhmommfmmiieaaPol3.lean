import Derived.Test.YtdhmommfmmiieaaKE
import Derived.Test.YtdhmommfmmiieaaKL
set_option linter.unusedVariables false
set_option linter.unusedSimpArgs false
namespace Go.Proofs.Ytdhmommfmmiieaa
namespace Pin
open Go.ChangeShapes Go.WideShapes Go.ChangeAt Go.RowKit
open Go.ChangeMaps (open_string shut_string)
theorem bulk_mul {H : Type} (c : Nat) : ∀ ds : List (DataW H), (∀ d ∈ ds, c ≤ Rows.uptoBulk d) → c * ds.length ≤ Rows.uptoBulkAll ds := by
  intro ds
  induction ds with
  | nil => intro _; simp
  | cons d r ih =>
    intro h
    have h1 := h d (by simp)
    have h2 := ih (fun e he => h e (by simp [he]))
    simp only [List.length_cons, Rows.uptoBulkAll, Nat.mul_add, Nat.mul_one]
    omega
theorem big_agg {H : Type} {enc : TypeId × Value → H} {W : World} {fs : Array Field} {t : Nat} (hu : Try.prog.underlying t = some (.struct fs)) (hp : 0 < fs.size) (base : Nat) (spare : Nat → Bool) (held : Bool) (n : Nat) (cs : List Value) (x : DataW H × List MemPlace) (h : DataW.trod enc Try.prog W base spare held n t cs = some x) : 2 ≤ Rows.uptoBulk x.1 := by
  obtain ⟨xs, k, hk, hxy, _, hxl, hff⟩ := DataW.trod_struct hu h
  rw [hxy]
  simp only [Rows.uptoBulk]
  have := bulk_len (xs.map (·.1))
  rw [List.length_map] at this
  omega
theorem big98 {H : Type} {enc : TypeId × Value → H} {W : World} (base : Nat) (spare : Nat → Bool) (held : Bool) (n : Nat) (cs : List Value) (x : DataW H × List MemPlace) (h : DataW.trod enc Try.prog W base spare held n 98 cs = some x) : 2 ≤ Rows.uptoBulk x.1 := big_agg Try.underlying98 (by decide) base spare held n cs x h
theorem big36 {H : Type} {enc : TypeId × Value → H} {W : World} (base : Nat) (spare : Nat → Bool) (held : Bool) (n : Nat) (cs : List Value) (x : DataW H × List MemPlace) (h : DataW.trod enc Try.prog W base spare held n 36 cs = some x) : 2 ≤ Rows.uptoBulk x.1 := big_agg Try.underlying36 (by decide) base spare held n cs x h
theorem big27 {H : Type} {enc : TypeId × Value → H} {W : World} (base : Nat) (spare : Nat → Bool) (held : Bool) (n : Nat) (cs : List Value) (x : DataW H × List MemPlace) (h : DataW.trod enc Try.prog W base spare held n 27 cs = some x) : 2 ≤ Rows.uptoBulk x.1 := big_agg Try.underlying27 (by decide) base spare held n cs x h
set_option maxRecDepth 100000 in
/-- a slice that came in -/
theorem rows_in2 {α : Type} (dflt : α) (cl : α → List Value) (mu : α → Nat) (Pr : α → Prop) {t e sz cm : Nat} (hu : Try.prog.underlying t = some (.slice e)) (hsz : Try.prog.cellsOf e = sz) (h0 : 0 < sz) {H : Type} {enc : TypeId × Value → H} {W : World}
    (dec : ∀ (base : Nat) (spare : Nat → Bool) (held : Bool) (n : Nat) (cs : List Value) (x : DataW H × List MemPlace), cs.length = sz → DataW.trod enc Try.prog W base spare held n e cs = some x → ∃ q, cs = cl q ∧ mu q ≤ Rows.uptoBulk x.1 ∧ Pr q) (hcm : ∀ (base : Nat) (spare : Nat → Bool) (held : Bool) (n : Nat) (cs : List Value) (x : DataW H × List MemPlace), DataW.trod enc Try.prog W base spare held n e cs = some x → cm ≤ Rows.uptoBulk x.1)
    {base : Nat} {spare : Nat → Bool} {held : Bool} {n : Nat} {v : Value} {x : DataW H × List MemPlace} (hf : DataW.trod enc Try.prog W base spare held n t [v] = some x) :
    ∃ (a : Option Addr) (cap : Nat) (l : List α), v = .slice a l.length cap ∧ U.Lies sz a (l.map cl) W ∧ l.length ≤ cap ∧ (a = none → cap = 0) ∧ cm * l.length ≤ Rows.uptoBulk x.1 ∧ ∀ q ∈ l, mu q ≤ Rows.uptoBulk x.1 ∧ Pr q := by
  rcases DataW.trod_slice hu hf with ⟨hcs, _⟩ | ⟨y, len, c, elems, rest, m, _, hcs, hx, hb, hl, hm, hel, hi, _, _⟩
  · simp at hcs
    subst hcs
    exact ⟨none, 0, [], rfl, .inl rfl, Nat.le_refl _, fun _ => rfl, by simp, fun p hp => by cases hp⟩
  · simp at hcs
    subst hcs
    have hd : x.1 = DataW.slice (elems.map (·.1)) (rest.map (·.1)) := by rw [hx]
    have hbk : Rows.uptoBulk x.1 = Rows.uptoBulkAll (elems.map (·.1)) + Rows.uptoBulkAll (rest.map (·.1)) + 1 := by rw [hd]; simp only [Rows.uptoBulk]
    by_cases hz : len = 0
    · subst hz
      exact ⟨some y, c, [], rfl, .inl rfl, Nat.zero_le _, fun q => (by cases q), by simp, fun p hp => by cases hp⟩
    have each : ∀ i, i < len → ∃ q : α, (∀ r u, (cl q)[r]? = some u → W.cell? ((y.add (i * sz)).add r) = some u) ∧ (cl q).length = sz ∧ mu q ≤ Rows.uptoBulkAll (elems.map (·.1)) ∧ Pr q := by
      intro i hi'
      have hh := hi i hi'
      have hie : i < elems.length := by omega
      rw [List.getElem?_eq_getElem hie, Option.bind_eq_some_iff, hsz] at hh
      obtain ⟨cs', h1, h2⟩ := hh
      obtain ⟨_, hlen, hcell⟩ := World.cells?_some h1
      obtain ⟨q, rfl, h4, h5⟩ := dec _ _ _ _ cs' _ hlen h2
      have hm := bulk_mem (elems.map (·.1)) elems[i].1 (List.mem_map_of_mem (List.getElem_mem hie))
      refine ⟨q, fun r u hr => ?_, hlen, Nat.le_trans h4 hm, h5⟩
      have hr' := (List.getElem?_eq_some_iff.1 hr).1
      rw [hlen] at hr'
      have := hcell r hr'
      rw [this]
      simpa using hr
    haveI : Inhabited α := ⟨dflt⟩
    obtain ⟨op, hop⟩ := Go.Deep.choose_lt each
    have hc0 := (hop 0 (by omega)).1 0 ((cl (op 0))[0]'(by rw [(hop 0 (by omega)).2.1]; exact h0)) (List.getElem?_eq_getElem _)
    obtain ⟨b, off, spot⟩ := y
    have hspot : spot = none := by simpa [Addr.add] using World.cell?_spot hc0
    subst hspot
    have hbl : b < W.heap.size := World.block_lt_of_cell? W _ (by simpa [Addr.add] using hc0)
    have hlen := bulk_mul cm (elems.map (·.1)) (fun d hd => by
      obtain ⟨e0, he0, rfl⟩ := List.mem_map.1 hd
      obtain ⟨i, hie, hie2⟩ := List.mem_iff_getElem.1 he0
      have hh := hi i (by omega)
      rw [List.getElem?_eq_getElem hie, Option.bind_eq_some_iff, hie2] at hh
      obtain ⟨cs', _, h2⟩ := hh
      exact hcm _ _ _ _ cs' _ h2)
    rw [List.length_map, hel] at hlen
    refine ⟨some ⟨b, off, none⟩, c, (List.range len).map op, by simp, .inr ⟨b, off, rfl, hbl, fun i r k u hi' hr => ?_⟩, by simpa using hl, fun q => (by cases q), by rw [hbk]; simp; omega, fun q hq => ?_⟩
    · rw [List.getElem?_map, List.getElem?_map] at hi'
      by_cases q : i < len
      · rw [List.getElem?_range q] at hi'
        simp at hi'
        subst hi'
        have := (hop i q).1 r u hr
        rw [add_off, add_off] at this
        exact this
      · rw [List.getElem?_eq_none (by simp; omega)] at hi'; cases hi'
    · obtain ⟨j, hj, rfl⟩ := List.mem_map.1 hq
      have h5 := (hop j (List.mem_range.1 hj)).2.2
      exact ⟨by rw [hbk]; omega, h5.2⟩
set_option maxRecDepth 100000 in
set_option maxHeartbeats 2000000 in
/-- a policy that came in -/
theorem pol_in3 {H : Type} {enc : TypeId × Value → H} {W : World} {base : Nat} {spare : Nat → Bool} {held : Bool} {n : Nat} {cs : List Value} {x : DataW H × List MemPlace} (hl : cs.length = 11) (h : DataW.trod enc Try.prog W base spare held n 34 cs = some x) (hB : Rows.uptoBulk x.1 ≤ 1048576) : ∃ F : U.Pf, cs.toArray = F.arr ∧ F.In W ∧ U.Fine F (Rows.uptoBulk x.1) ∧ 2 * (F.m.2.2.length + F.i.2.2.length) ≤ Rows.uptoBulk x.1 ∧ 2 * (F.p.2.2.length + F.w.2.2.length) ≤ Rows.uptoBulk x.1 ∧ 2 * F.u.2.2.length ≤ Rows.uptoBulk x.1 ∧ 2 * F.x.2.2.length ≤ Rows.uptoBulk x.1 ∧ ∀ R ∈ F.u.2.2, R.rl.length ≤ Rows.uptoBulk x.1 := by
  obtain ⟨f0, f1, f2, f3, f4, f5, f6, f7, f8, f9, f10, he, ⟨o0, o1, o2, o3, o4, o5, o6, o7, o8, o9, o10⟩, ⟨t0, t1, t2, t3, t4, t5, t6, t7, t8, t9, t10⟩⟩ := fields34
  obtain ⟨xs, k, hk, hxy, _, hxl, hff⟩ := DataW.trod_struct he h
  match xs, hxl, cs, hl with
  | [y0, y1, y2, y3, y4, y5, y6, y7, y8, y9, y10], _, [v0, v1, v2, v3, v4, v5, v6, v7, v8, v9, v10], _ =>
    have g0 := hff 0 f0 rfl
    have g1 := hff 1 f1 rfl
    have g2 := hff 2 f2 rfl
    have g3 := hff 3 f3 rfl
    have g4 := hff 4 f4 rfl
    have g5 := hff 5 f5 rfl
    have g6 := hff 6 f6 rfl
    have g7 := hff 7 f7 rfl
    have g8 := hff 8 f8 rfl
    have g9 := hff 9 f9 rfl
    have g10 := hff 10 f10 rfl
    simp [o0, o1, o2, o3, o4, o5, o6, o7, o8, o9, o10, t0, t1, t2, t3, t4, t5, t6, t7, t8, t9, t10, cells25, cells29, cells30, cells31, cells32] at g0 g1 g2 g3 g4 g5 g6 g7 g8 g9 g10
    obtain ⟨a0, c0, l0, e0, i0, h0, n0, b0, q0⟩ := rows_in ByteArray.empty (fun s => [Value.string s]) (fun s => s.size) (fun _ => True) Try.underlying25 cells9 (by decide) dec9 g0
    obtain ⟨a1, c1, l1, e1, i1, h1, n1, b1, q1⟩ := rows_in (ByteArray.empty, 0) T.cells (fun q => q.1.size) (fun _ => True) Try.underlying29 cells50 (by decide) dec50 g1
    obtain ⟨a2, c2, l2, e2, i2, h2, n2, b2, q2⟩ := rows_in ByteArray.empty (fun s => [Value.string s]) (fun s => s.size) (fun _ => True) Try.underlying25 cells9 (by decide) dec9 g2
    obtain ⟨a3, c3, l3, e3, i3, h3, n3, b3, q3⟩ := rows_in ByteArray.empty (fun s => [Value.string s]) (fun s => s.size) (fun _ => True) Try.underlying25 cells9 (by decide) dec9 g3
    obtain ⟨a4, c4, l4, e4, i4, h4, n4, b4, q4⟩ := rows_in ByteArray.empty (fun s => [Value.string s]) (fun s => s.size) (fun _ => True) Try.underlying25 cells9 (by decide) dec9 g4
    obtain ⟨a5, c5, l5, e5, i5, h5, n5, b5, q5⟩ := rows_in2 (cm := 2) (ByteArray.empty, ByteArray.empty) Q.cells (fun q => q.1.size + q.2.size) (fun _ => True) Try.underlying30 cells98 (by decide) dec98 big98 g5
    obtain ⟨a6, c6, l6, e6, i6, h6, n6, b6, q6⟩ := rows_in2 (cm := 2) (ByteArray.empty, ByteArray.empty) Q.cells (fun q => q.1.size + q.2.size) (fun _ => True) Try.underlying30 cells98 (by decide) dec98 big98 g6
    obtain ⟨a7, c7, l7, e7, i7, h7, n7, b7, q7⟩ := rows_in2 (cm := 2) (ByteArray.empty, ByteArray.empty) Q.cells (fun q => q.1.size + q.2.size) (fun _ => True) Try.underlying30 cells98 (by decide) dec98 big98 g7
    obtain ⟨a8, c8, l8, e8, i8, h8, n8, b8, q8⟩ := rows_in2 (cm := 2) (ByteArray.empty, ByteArray.empty) Q.cells (fun q => q.1.size + q.2.size) (fun _ => True) Try.underlying30 cells98 (by decide) dec98 big98 g8
    obtain ⟨a9, c9, l9, e9, i9, h9, n9, b9, q9⟩ := rows_in2 (cm := 2) U.usharp U.Ru.cells rmv (RuOk W) Try.underlying31 cells27 (by decide) dec27s big27 g9
    obtain ⟨a10, c10, l10, e10, i10, h10, n10, b10, q10⟩ := rows_in2 (cm := 2) (ByteArray.empty, ByteArray.empty, ByteArray.empty) X.cells (fun q => q.1.size + q.2.1.size + q.2.2.size) (fun _ => True) Try.underlying32 cells36 (by decide) dec36 big36 g10
    have hS : Rows.uptoBulk y0.1 + Rows.uptoBulk y1.1 + Rows.uptoBulk y2.1 + Rows.uptoBulk y3.1 + Rows.uptoBulk y4.1 + Rows.uptoBulk y5.1 + Rows.uptoBulk y6.1 + Rows.uptoBulk y7.1 + Rows.uptoBulk y8.1 + Rows.uptoBulk y9.1 + Rows.uptoBulk y10.1 ≤ Rows.uptoBulk x.1 := by
      rw [hxy]
      simp only [List.map_cons, List.map_nil, Rows.uptoBulk, Rows.uptoBulkAll]
      omega
    generalize Rows.uptoBulk x.1 = B at *
    subst e0 e1 e2 e3 e4 e5 e6 e7 e8 e9 e10
    refine ⟨⟨(a0, c0, l0), (a1, c1, l1), (a2, c2, l2), (a3, c3, l3), (a4, c4, l4), (a5, c5, l5), (a6, c6, l6), (a7, c7, l7), (a8, c8, l8), (a9, c9, l9), (a10, c10, l10)⟩, rfl, ⟨⟨ints_of i0, h0, n0⟩, ⟨subs_of i1, h1, n1⟩, ⟨ints_of i2, h2, n2⟩, ⟨ints_of i3, h3, n3⟩, ⟨ints_of i4, h4, n4⟩, ⟨qints_of i5, h5, n5⟩, ⟨qints_of i6, h6, n6⟩, ⟨qints_of i7, h7, n7⟩, ⟨qints_of i8, h8, n8⟩, ⟨⟨i9, fun R hR => ⟨(q9 R hR).2.1, (q9 R hR).2.2, ?_⟩⟩, h9, n9⟩, ⟨xints_of i10, h10, n10⟩⟩, ⟨hB, ?_, ?_, ?_, ?_, ?_, ?_, ?_, ?_, ?_, fun a ha => ?_, fun s hs => ?_, fun o ho => ?_, fun q hq => ?_, fun q hq => ?_, fun R hR => ?_, fun t ht => ?_⟩, ?_, ?_, ?_, ?_, fun R hR => ?_⟩
    · have := (rmv_le (q9 R hR).1).2.2.1; omega
    · show l0.length ≤ _; omega
    · show l1.length ≤ _; omega
    · show l2.length ≤ _; omega
    · show l3.length ≤ _; omega
    · show l4.length ≤ _; omega
    · show l5.length + l6.length ≤ _; omega
    · show l7.length + l8.length ≤ _; omega
    · show l9.length ≤ _; omega
    · show l10.length ≤ _; omega
    · have := (q0 a ha).1; omega
    · have := (q1 s hs).1; omega
    · have := (q3 o ho).1; omega
    · rcases List.mem_append.1 hq with h | h
      · have := (q5 q h).1; exact ⟨by omega, by omega⟩
      · have := (q6 q h).1; exact ⟨by omega, by omega⟩
    · rcases List.mem_append.1 hq with h | h
      · have := (q7 q h).1; exact ⟨by omega, by omega⟩
      · have := (q8 q h).1; exact ⟨by omega, by omega⟩
    · obtain ⟨r1, r2, _, r4⟩ := rmv_le (q9 R hR).1
      exact ⟨by omega, by omega, fun a ha => by have := r4 a ha; omega⟩
    · have := (q10 t ht).1; exact ⟨by omega, by omega, by omega⟩
    · show 2 * (l5.length + l6.length) ≤ _; omega
    · show 2 * (l7.length + l8.length) ≤ _; omega
    · show 2 * l9.length ≤ _; omega
    · show 2 * l10.length ≤ _; omega
    · have := (rmv_le (q9 R hR).1).2.2.1; omega
set_option maxRecDepth 100000 in
/-- a triple that came in -/
theorem tri_in {H : Type} {enc : TypeId × Value → H} {W : World} {base : Nat} {spare : Nat → Bool} {held : Bool} {n : Nat} {cs : List Value} {x : DataW H × List MemPlace} (hl : cs.length = 3) (h : DataW.trod enc Try.prog W base spare held n 36 cs = some x) : ∃ q : X.K3, cs = X.cells q ∧ q.1.size + q.2.1.size + q.2.2.size < Rows.uptoBulk x.1 := by
  obtain ⟨f0, f1, f2, he, ⟨o0, o1, o2⟩, ⟨t0, t1, t2⟩⟩ := fields36
  obtain ⟨xs, k, hk, hxy, _, hxl, hff⟩ := DataW.trod_struct he h
  match xs, hxl, cs, hl with
  | [y0, y1, y2], _, [v0, v1, v2], _ =>
    have g0 := hff 0 f0 rfl
    have g1 := hff 1 f1 rfl
    have g2 := hff 2 f2 rfl
    simp [o0, o1, o2, t0, t1, t2, cells9] at g0 g1 g2
    obtain ⟨s0, hv0, hy0, _⟩ := DataW.trod_string Try.underlying9 g0
    obtain ⟨s1, hv1, hy1, _⟩ := DataW.trod_string Try.underlying9 g1
    obtain ⟨s2, hv2, hy2, _⟩ := DataW.trod_string Try.underlying9 g2
    simp at hv0 hv1 hv2
    subst hv0 hv1 hv2
    refine ⟨(s0, s1, s2), rfl, ?_⟩
    rw [hxy, hy0, hy1, hy2]
    simp only [List.map_cons, List.map_nil, Rows.uptoBulk, Rows.uptoBulkAll]
    have := ssz s0
    have := ssz s1
    have := ssz s2
    omega
end Pin
end Go.Proofs.Ytdhmommfmmiieaa
