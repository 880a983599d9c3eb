import Derived.Test.YtollaamlnddhcaaDE
import Derived.Deep.RegionHeld3
set_option linter.unusedVariables false
set_option linter.unusedSimpArgs false
namespace Go.Proofs.Ytollaamlnddhcaa
open Go.RowKit Go.Maps
namespace U
def thr (F : Pf) (t : X.K3) : Bool := isIn (F.s.2.2.map (·.1)) t.1 && isIn F.o.2.2 t.2.1 && isIn F.a.2.2 t.2.2
theorem tru_no {sl : List Sb} {z : ByteArray} (h : isIn (sl.map (·.1)) z = false) : tru sl z = none := by
  unfold tru
  rw [List.find?_eq_none.2 (fun u hu => ?_)]
  · rfl
  · simp only [decide_eq_true_eq]
    intro e
    rw [isIn_yes (List.mem_map.2 ⟨u, hu, e⟩)] at h
    cases h
theorem mtc_thr {F : Pf} {t : X.K3} (h : thr F t = false) (R : Ru) : mtc F.po R t.1 t.2.1 t.2.2 = false := by
  unfold thr at h
  unfold mtc
  show (isIn F.a.2.2 t.2.2 && _ && (match tru F.s.2.2 t.1 with | some t' => _ | none => false) && _) = false
  cases h1 : isIn (F.s.2.2.map (·.1)) t.1 with
  | false => rw [tru_no h1]; simp
  | true =>
    rw [h1] at h
    cases h2 : isIn F.a.2.2 t.2.2 with
    | false => simp
    | true =>
      rw [h2] at h
      have h3 : isIn F.o.2.2 t.2.1 = false := by simpa using h
      show (_ && (isIn F.o.2.2 t.2.1 && _)) = false
      rw [h3]
      simp
theorem alw_thr {F : Pf} {t : X.K3} (h : thr F t = false) : alw F t.1 t.2.1 t.2.2 = false := by
  have e : rany F t.1 t.2.1 t.2.2 false F.u.2.2 = false := by
    unfold rany
    rw [List.any_eq_false]
    intro R _
    unfold rsay
    rw [mtc_thr h]
    simp
  unfold alw
  rw [e]
  rfl
theorem rel_thr {F : Pf} {t : X.K3} (h : thr F t = false) : isIn (rel F) t = false := by
  refine isIn_no (fun q => ?_)
  rw [rel_trs, List.mem_filter] at q
  have := q.2
  unfold alt at this
  rw [alw_thr h] at this
  cases this
theorem fo_back (ys : List ByteArray) {y : ByteArray} (h : y ∈ ys) : y ∈ fo ys := by
  suffices hs : ∀ n, y ∈ ys.take n → y ∈ fo (ys.take n) by
    have := hs ys.length (by rw [List.take_length]; exact h)
    rwa [List.take_length] at this
  intro n
  induction n with
  | zero => intro q; simp at q
  | succ n ih =>
    intro q
    cases hn : ys[n]? with
    | none =>
      have e1 : ys.take (n + 1) = ys.take n := by rw [List.take_add_one, hn]; simp
      rw [e1] at q ⊢; exact ih q
    | some s =>
      rw [fo_take hn]
      rw [List.take_add_one, hn] at q
      rcases List.mem_append.1 q with q | q
      · split
        · exact ih q
        · exact List.mem_append.2 (.inl (ih q))
      · simp at q
        subst q
        split
        · rename_i r; exact isIn_mem.1 r
        · exact List.mem_append.2 (.inr (by simp))
/-- what is allowed is in the relation, and nothing else -/
theorem rel_alw (F : Pf) (t : X.K3) : isIn (rel F) t = alw F t.1 t.2.1 t.2.2 := by
  cases h : thr F t with
  | false => rw [rel_thr h, alw_thr h]
  | true =>
    unfold thr at h
    simp only [Bool.and_eq_true, isIn_mem] at h
    rw [Bool.eq_iff_iff, isIn_mem, rel_trs, List.mem_filter]
    exact ⟨fun q => q.2, fun q => ⟨mem_trs.2 ⟨fo_back _ h.1.1, fo_back _ h.1.2, fo_back _ h.2⟩, q⟩⟩
end U
namespace D
open U (Pf Fine rel fo fos Tw)
theorem cnt_none {zs : List Ch} {c : Ch} (hc : c ∉ zs) : cnt zs c = 0 := by
  unfold cnt
  rw [List.length_eq_zero_iff, List.filter_eq_nil_iff]
  intro z hz
  simp
  rintro rfl
  exact hc hz
theorem lost_in {ts us : List X.K3} {t : X.K3} : (t, false) ∈ chg ts us ↔ (t ∈ ts ∧ t ∉ us) := by
  unfold chg wo
  simp [isIn]
theorem gained_in {ts us : List X.K3} {t : X.K3} : (t, true) ∈ chg ts us ↔ (t ∈ us ∧ t ∉ ts) := by
  unfold chg wo
  simp [isIn]
/-- what is told of a triple, as a number -/
def tl (a b : Bool) : Nat := if a && !b then 1 else 0
theorem cnt_lost {F G : Pf} (t : X.K3) : cnt (chg (rel F) (rel G)) (t, false) = tl (isIn (rel F) t) (isIn (rel G) t) := by
  unfold tl
  by_cases h : (t, false) ∈ chg (rel F) (rel G)
  · rw [cnt_one (chg_nodup (rel_nodup F) (rel_nodup G)) h]
    obtain ⟨h1, h2⟩ := lost_in.1 h
    rw [isIn_yes h1, isIn_no h2]; rfl
  · rw [cnt_none h]
    cases h1 : isIn (rel F) t <;> cases h2 : isIn (rel G) t <;> try rfl
    exact absurd (lost_in.2 ⟨U.isIn_mem.1 h1, fun q => by rw [isIn_yes q] at h2; cases h2⟩) h
theorem cnt_gained {F G : Pf} (t : X.K3) : cnt (chg (rel F) (rel G)) (t, true) = tl (isIn (rel G) t) (isIn (rel F) t) := by
  unfold tl
  by_cases h : (t, true) ∈ chg (rel F) (rel G)
  · rw [cnt_one (chg_nodup (rel_nodup F) (rel_nodup G)) h]
    obtain ⟨h1, h2⟩ := gained_in.1 h
    rw [isIn_yes h1, isIn_no h2]; rfl
  · rw [cnt_none h]
    cases h1 : isIn (rel G) t <;> cases h2 : isIn (rel F) t <;> try rfl
    exact absurd (gained_in.2 ⟨U.isIn_mem.1 h1, fun q => by rw [isIn_yes q] at h2; cases h2⟩) h
end D
end Go.Proofs.Ytollaamlnddhcaa
set_option linter.unusedVariables false
set_option linter.unusedSimpArgs false
namespace Go.Proofs.Ytollaamlnddhcaa
open Go.RowKit Go.Maps
namespace X
/-- append of a slice of triples onto a row -/
theorem wpList_appR (w : World) {ops : Array Oper} {rest : List Oper} {o : Oper} {a : Act} {Q : Exit → Act → World → Prop} (hw : Region.wanted o (yielded ops a.tmps) = true) (s x : Operand)
    (ho : o.op = .call { callee := .builtin .append, args := #[s, x], argTypes := #[26, 26] }) (B : Nat) (ao : Option Addr) (cap : Nat) (zs : List K3) (hs : a.eval s = .slice ao zs.length cap) (hrow : RowI B ao cap zs w) (ro : Option Addr) (rc : Nat) (row : List K3) (hx : a.eval x = .slice ro row.length rc) (hI : Ints ro row w) (hn : ro = none → rc = 0) (hb : Hid (zs.length + row.length < 1099511627776)) (hB : B ≤ w.heap.size)
    (h : ∀ o' c w', RowI B o' c (zs ++ row) w' → Below B w w' → wpList Try.prog ops Q rest (a.put o.dst (.slice o' (zs.length + row.length) c)) w') :
    wpList Try.prog ops Q (o :: rest) a w := by
  obtain ⟨i0, hi, hz0, hz1, hz2⟩ := info_parts infoE
  refine wpList_append_src hw s x 26 ho B 42 i0 (.agg #[.string ByteArray.empty, .string ByteArray.empty, .string ByteArray.empty]) 3 48 Try.underlying26 hi hz0 hz1 hz2 rfl (by decide) (.slice ao zs.length cap) zs.length (zs.flatMap cells) hs hrow ro row.length rc (row.flatMap cells) hx (fun q => ?_) (by rw [flat_len]) (fun ad q j u hj => ?_) (cells_one row) (by have := hb.out; unfold maxLen; omega) (by have := hb.out; omega) hB ?_
  · refine ⟨?_, hn q⟩
    rcases hI with rfl | ⟨b, off, e, _⟩
    · rfl
    · rw [q] at e; cases e
  · have hjl := (List.getElem?_eq_some_iff.1 hj).1
    rw [flat_len] at hjl
    obtain ⟨k, hk⟩ : ∃ k, row[j / 3]? = some k := ⟨_, List.getElem?_eq_getElem (by omega)⟩
    obtain ⟨b, off, e, _, hc1, hc2, hc3⟩ := hI.at hk
    obtain ⟨f1, f2, f3⟩ := flat_at row (j / 3) hk
    rw [q] at e; cases e
    have hm : j % 3 = 0 ∨ j % 3 = 1 ∨ j % 3 = 2 := by omega
    rcases hm with hm | hm | hm
    · have hj2 : j = j / 3 * 3 := by omega
      rw [← hj2] at f1 hc1
      rw [add_off, hc1, ← f1]; exact hj
    · have hj2 : j = j / 3 * 3 + 1 := by omega
      rw [← hj2] at f2
      rw [Nat.add_assoc, ← hj2] at hc2
      rw [add_off, hc2, ← f2]; exact hj
    · have hj2 : j = j / 3 * 3 + 2 := by omega
      rw [← hj2] at f3
      rw [Nat.add_assoc, ← hj2] at hc3
      rw [add_off, hc3, ← f3]; exact hj
  · intro v' w' hr hg hat
    have hf : ∃ o' c, v' = .slice o' (zs.length + row.length) c := by
      rcases hr.2 with ⟨hv, h0⟩ | ⟨g, cap', cur, hv, _⟩
      · exact ⟨none, 0, by rw [h0]; exact hv⟩
      · exact ⟨_, _, hv⟩
    obtain ⟨o', c, rfl⟩ := hf
    refine h o' c w' (by unfold RowI; rw [List.length_append, List.flatMap_append]; exact hr) ⟨hg.os, hg.tape, hg.output, hg.size, fun k hk => hg.block k (by omega) (fun e => ?_)⟩
    cases ao with
    | none => cases e
    | some ad =>
      have := (hrow.lt ad.block ⟨ad, rfl, rfl⟩).1
      simp only [Value.ownBlock, Option.some.injEq] at e
      omega
/-- a row of one triple, laid anew -/
theorem row_one (V : World) (t : K3) : RowI V.heap.size (some ⟨V.heap.size, 0, none⟩) 1 [t] (V.alloc (.cells #[.string t.1, .string t.2.1, .string t.2.2] 42)) :=
  ⟨rfl, .inr ⟨V.heap.size, 1, _, rfl, Nat.le_refl _, heap_alloc_new _ _, Nat.le_refl _, by unfold maxLen; omega, rfl, rfl⟩⟩
end X
namespace D
open U (Pf Fine rel fo fos Tw vst)
theorem stay_appT {P : Program} {ops : Array Oper} {rest : List Oper} {o : Oper} {a : Act} {Q : Exit → Act → World → Prop} {w : World} (s x : Operand) (t : TypeId) (ho : o.op = .call { callee := .builtin .append, args := #[s, x], argTypes := #[t, t] }) (h : U.Stay (wpList P ops Q (o :: rest) a w)) : wpList P ops Q (o :: rest) a w := h
set_option maxRecDepth 100000 in
set_option maxHeartbeats 8000000 in
theorem diffTurns_walk (A B : Pf) (t : X.K3) (N N' : Nat) (w : World) (hA : A.In w) (hB : B.In w) (fA : Fine A N) (fB : Fine B N') (hz : t.1.size ≤ 1048576 ∧ t.2.1.size ≤ 1048576 ∧ t.2.2.size ≤ 1048576) : Calls Try.prog 6 #[.agg A.arr, .agg B.arr, .agg #[.string t.1, .string t.2.1, .string t.2.2]] w fun e w' => e = .returned (.bool true) ∧ Below w.heap.size w w' := by
  have HA := hide' (And.intro hA fA)
  have HB := hide' (And.intro hB fB)
  have HZ := hide' hz
  clear hA hB fA fB hz
  go_enter Try.func6, Try.ntmps6
  go_wp2_with fail
  have B0 : Hid (Below w.heap.size w (((w.alloc (.cells A.arr 28)).alloc (.cells B.arr 28)).alloc (.cells #[.string t.1, .string t.2.1, .string t.2.2] 42)) ∧ (((w.alloc (.cells A.arr 28)).alloc (.cells B.arr 28)).alloc (.cells #[.string t.1, .string t.2.1, .string t.2.2] 42)).heap[w.heap.size]? = some (.cells A.arr 28 (0, 0)) ∧ (((w.alloc (.cells A.arr 28)).alloc (.cells B.arr 28)).alloc (.cells #[.string t.1, .string t.2.1, .string t.2.2] 42)).heap[w.heap.size + 1]? = some (.cells B.arr 28 (0, 0)) ∧ (((w.alloc (.cells A.arr 28)).alloc (.cells B.arr 28)).alloc (.cells #[.string t.1, .string t.2.1, .string t.2.2] 42)).heap[w.heap.size + 2]? = some (.cells #[.string t.1, .string t.2.1, .string t.2.2] 42 (0, 0))) := ⟨(((Below.refl _ _).alloc (Nat.le_refl _) _).alloc (by simp) _).alloc (by simp; omega) _, (Below.heap_alloc _ _ _ (by simp; omega)).trans ((Below.heap_alloc _ _ _ (by simp)).trans (heap_alloc_new w _)), (Below.heap_alloc _ _ _ (by simp)).trans (by have := heap_alloc_new (w.alloc (.cells A.arr 28)) (.cells B.arr 28); rwa [World.size_alloc] at this), by have := heap_alloc_new ((w.alloc (.cells A.arr 28)).alloc (.cells B.arr 28)) (.cells #[.string t.1, .string t.2.1, .string t.2.2] 42); rwa [World.size_alloc, World.size_alloc] at this⟩
  generalize (((w.alloc (.cells A.arr 28)).alloc (.cells B.arr 28)).alloc (.cells #[.string t.1, .string t.2.1, .string t.2.2] 42)) = V at *
  obtain ⟨q2, hq2⟩ : ∃ q2, q2 = w.heap.size := ⟨_, rfl⟩
  obtain ⟨q3, hq3⟩ : ∃ q3, q3 = w.heap.size + 1 := ⟨_, rfl⟩
  obtain ⟨q4, hq4⟩ : ∃ q4, q4 = w.heap.size + 2 := ⟨_, rfl⟩
  rw [← hq4, ← hq3, ← hq2]
  have B1 : Hid (Below w.heap.size w V ∧ V.heap[q2]? = some (.cells A.arr 28 (0, 0)) ∧ V.heap[q3]? = some (.cells B.arr 28 (0, 0)) ∧ V.heap[q4]? = some (.cells #[.string t.1, .string t.2.1, .string t.2.2] 42 (0, 0))) := by rw [hq2, hq3, hq4]; exact B0
  clear hq2 hq3 hq4 B0
  have BW : Hid (∀ (V V' : World), (Below w.heap.size w V ∧ V.heap[q2]? = some (.cells A.arr 28 (0, 0)) ∧ V.heap[q3]? = some (.cells B.arr 28 (0, 0)) ∧ V.heap[q4]? = some (.cells #[.string t.1, .string t.2.1, .string t.2.2] 42 (0, 0))) → Below V.heap.size V V' → (Below w.heap.size w V' ∧ V'.heap[q2]? = some (.cells A.arr 28 (0, 0)) ∧ V'.heap[q3]? = some (.cells B.arr 28 (0, 0)) ∧ V'.heap[q4]? = some (.cells #[.string t.1, .string t.2.1, .string t.2.2] 42 (0, 0)))) := fun V V' p b => ⟨p.1.trans (b.mono p.1.size), (b.block _ (lt_of_heap p.2.1)).trans p.2.1, (b.block _ (lt_of_heap p.2.2.1)).trans p.2.2.1, (b.block _ (lt_of_heap p.2.2.2)).trans p.2.2.2⟩
  refine (alive_any V).mono ?_
  rintro e V1 ⟨rfl, b1⟩
  have B2 := hide' (BW.out _ _ B1.out b1)
  clear B1 b1 V
  go_wp2_with (with_reducible refine U.stay_load 28 _ rfl ?_)
  unfold U.Stay
  refine wpList_load_row rfl 28 _ rfl q2 rfl 28 #[.slice A.a.1 A.a.2.2.length A.a.2.1, .slice A.s.1 A.s.2.2.length A.s.2.1, .slice A.r.1 A.r.2.2.length A.r.2.1, .slice A.o.1 A.o.2.2.length A.o.2.1, .slice A.g.1 A.g.2.2.length A.g.2.1, .slice A.m.1 A.m.2.2.length A.m.2.1, .slice A.i.1 A.i.2.2.length A.i.2.1, .slice A.p.1 A.p.2.2.length A.p.2.1, .slice A.w.1 A.w.2.2.length A.w.2.1, .slice A.u.1 A.u.2.2.length A.u.2.1, .slice A.x.1 A.x.2.2.length A.x.2.1] (0, 0) _ B2.out.2.1 Try.underlying28 rfl (U.size_arr A) ?_
  go_wp2_with (with_reducible refine U.stay_load 28 _ rfl ?_)
  unfold U.Stay
  refine wpList_load_row rfl 28 _ rfl q3 rfl 28 #[.slice B.a.1 B.a.2.2.length B.a.2.1, .slice B.s.1 B.s.2.2.length B.s.2.1, .slice B.r.1 B.r.2.2.length B.r.2.1, .slice B.o.1 B.o.2.2.length B.o.2.1, .slice B.g.1 B.g.2.2.length B.g.2.1, .slice B.m.1 B.m.2.2.length B.m.2.1, .slice B.i.1 B.i.2.2.length B.i.2.1, .slice B.p.1 B.p.2.2.length B.p.2.1, .slice B.w.1 B.w.2.2.length B.w.2.1, .slice B.u.1 B.u.2.2.length B.u.2.1, .slice B.x.1 B.x.2.2.length B.x.2.1] (0, 0) _ B2.out.2.2.1 Try.underlying28 rfl (U.size_arr B) ?_
  go_wp2_with fail
  have b2 : Below V1.heap.size V1 (V1.alloc (.cells #[.slice A.a.1 A.a.2.2.length A.a.2.1, .slice A.s.1 A.s.2.2.length A.s.2.1, .slice A.r.1 A.r.2.2.length A.r.2.1, .slice A.o.1 A.o.2.2.length A.o.2.1, .slice A.g.1 A.g.2.2.length A.g.2.1, .slice A.m.1 A.m.2.2.length A.m.2.1, .slice A.i.1 A.i.2.2.length A.i.2.1, .slice A.p.1 A.p.2.2.length A.p.2.1, .slice A.w.1 A.w.2.2.length A.w.2.1, .slice A.u.1 A.u.2.2.length A.u.2.1, .slice A.x.1 A.x.2.2.length A.x.2.1, .slice B.a.1 B.a.2.2.length B.a.2.1, .slice B.s.1 B.s.2.2.length B.s.2.1, .slice B.r.1 B.r.2.2.length B.r.2.1, .slice B.o.1 B.o.2.2.length B.o.2.1, .slice B.g.1 B.g.2.2.length B.g.2.1, .slice B.m.1 B.m.2.2.length B.m.2.1, .slice B.i.1 B.i.2.2.length B.i.2.1, .slice B.p.1 B.p.2.2.length B.p.2.1, .slice B.w.1 B.w.2.2.length B.w.2.1, .slice B.u.1 B.u.2.2.length B.u.2.1, .slice B.x.1 B.x.2.2.length B.x.2.1] 28)) := (Below.refl _ _).alloc (Nat.le_refl _) _
  refine (vast_any [A, B] (some ⟨V1.heap.size, 0, none⟩) 2 _ (VI_two A B V1) (by simp) (by simp) (fun F hF => by simp only [List.mem_cons, List.mem_nil_iff, or_false] at hF; rcases hF with rfl | rfl; exact HA.out.2.small; exact HB.out.2.small)).mono ?_
  rintro e V2 ⟨rfl, b3⟩
  have B3 := hide' (BW.out _ _ (BW.out _ _ B2.out b2) b3)
  clear B2 b2 b3
  cases hv : [A, B].any vs with
  | true =>
    clear hv
    go_wp2_with fail
    go_ret
    exact ⟨rfl, B3.out.1⟩
  | false =>
  have vA : Hid (few A) := vs_few (by simp at hv; exact hv.1)
  have vB : Hid (few B) := vs_few (by simp at hv; exact hv.2)
  clear hv
  have TA : Hid (∀ V, (Below w.heap.size w V ∧ V.heap[q2]? = some (.cells A.arr 28 (0, 0)) ∧ V.heap[q3]? = some (.cells B.arr 28 (0, 0)) ∧ V.heap[q4]? = some (.cells #[.string t.1, .string t.2.1, .string t.2.2] 42 (0, 0))) → Calls Try.prog 11 #[.agg A.arr] V fun e w' => TwC A N V e w') := fun V b => twin_call A N V (HA.out.1.below b.1) HA.out.2 vA.out
  have TB : Hid (∀ V, (Below w.heap.size w V ∧ V.heap[q2]? = some (.cells A.arr 28 (0, 0)) ∧ V.heap[q3]? = some (.cells B.arr 28 (0, 0)) ∧ V.heap[q4]? = some (.cells #[.string t.1, .string t.2.1, .string t.2.2] 42 (0, 0))) → Calls Try.prog 11 #[.agg B.arr] V fun e w' => TwC B N' V e w') := fun V b => twin_call B N' V (HB.out.1.below b.1) HB.out.2 vB.out
  obtain ⟨n, hn⟩ : ∃ n, n = (chg (rel A) (rel B)).length := ⟨_, rfl⟩
  obtain ⟨la, hla⟩ : ∃ la, la = (rel A).length := ⟨_, rfl⟩
  obtain ⟨lb, hlb⟩ : ∃ lb, lb = (rel B).length := ⟨_, rfl⟩
  have HN := hide' hn
  have HLA := hide' hla
  have HLB := hide' hlb
  have hla64 : (la : Int) ≤ 65536 := by have := rel_few vA.out; omega
  have hlb64 : (lb : Int) ≤ 65536 := by have := rel_few vB.out; omega
  have hn64 : (n : Int) ≤ (la : Int) + (lb : Int) := by have := HN.out; rw [chg_len] at this; have := wo_le (rel A) (rel B); have := wo_le (rel B) (rel A); omega
  clear hn hla hlb
  have RA : Hid (∀ (J : Pf) (V : World), rel J = rel A → J.In V → Fine J N → few J → Calls Try.prog 23 #[.agg J.arr] V fun e w' => ∃ to tc, e = .returned (.slice to la tc) ∧ X.RowI V.heap.size to tc (rel A) w' ∧ Below V.heap.size V w') := fun J V e1 i1 f1 v1 => by
    refine (U.rel_call J N V i1 f1 v1).mono ?_
    rintro e w' ⟨to, tc, rfl, r, b⟩
    rw [e1] at r
    rw [e1, ← HLA.out]
    exact ⟨to, tc, rfl, r, b⟩
  have RB : Hid (∀ (J : Pf) (V : World), rel J = rel B → J.In V → Fine J N' → few J → Calls Try.prog 23 #[.agg J.arr] V fun e w' => ∃ to tc, e = .returned (.slice to lb tc) ∧ X.RowI V.heap.size to tc (rel B) w' ∧ Below V.heap.size V w') := fun J V e1 i1 f1 v1 => by
    refine (U.rel_call J N' V i1 f1 v1).mono ?_
    rintro e w' ⟨to, tc, rfl, r, b⟩
    rw [e1] at r
    rw [e1, ← HLB.out]
    exact ⟨to, tc, rfl, r, b⟩
  have LA : Hid (∀ (J K : Pf) (V : World), rel J = rel A → rel K = rel B → J.In V → K.In V → Fine J N → Fine K N' → few J → few K → Calls Try.prog 12 #[.agg J.arr, .agg K.arr] V fun e w' => ∃ o c, e = .returned (.slice o n c) ∧ Cr V.heap.size o c (chg (rel A) (rel B)) w' ∧ Below V.heap.size V w') := fun J K V e1 e2 i1 i2 f1 f2 v1 v2 => by
    refine (list_call J K N N' V i1 i2 f1 f2 v1 v2).mono ?_
    rintro e w' ⟨o, c, rfl, r, b⟩
    rw [e1, e2] at r
    rw [e1, e2, ← HN.out]
    exact ⟨o, c, rfl, r, b⟩
  obtain ⟨sb, hsb⟩ : ∃ sb : Bool, sb = (n == 0) := ⟨_, rfl⟩
  have HSB := hide' hsb
  clear hsb
  have SA : Hid (∀ (J K : Pf) (V : World), rel J = rel A → rel K = rel B → J.In V → K.In V → Fine J N → Fine K N' → few J → few K → Calls Try.prog 15 #[.agg J.arr, .agg K.arr] V fun e w' => e = .returned (.bool sb) ∧ Below V.heap.size V w') := fun J K V e1 e2 i1 i2 f1 f2 v1 v2 => by
    refine (same_call J K N N' V i1 i2 f1 f2 v1 v2).mono ?_
    rintro e w' ⟨rfl, b⟩
    rw [e1, e2, ← HN.out, ← HSB.out]
    exact ⟨rfl, b⟩
  have WA : Hid (∀ (J : Pf) (V : World), rel J = rel A → J.In V → Fine J N → Calls Try.prog 26 #[.agg J.arr, .agg #[.string t.1, .string t.2.1, .string t.2.2]] V fun e w' => e = .returned (.bool (isIn (rel A) t)) ∧ Below V.heap.size V w') := fun J V e1 i1 f1 => by
    refine (U.alw_call J N t.1 t.2.1 t.2.2 V i1 f1 HZ.out).mono ?_
    rintro e w' ⟨rfl, b⟩
    rw [← U.rel_alw, e1]
    exact ⟨rfl, b⟩
  go_wp2_with (with_reducible refine U.stay_load 28 _ rfl ?_)
  unfold U.Stay
  refine wpList_load_row rfl 28 _ rfl q2 rfl 28 #[.slice A.a.1 A.a.2.2.length A.a.2.1, .slice A.s.1 A.s.2.2.length A.s.2.1, .slice A.r.1 A.r.2.2.length A.r.2.1, .slice A.o.1 A.o.2.2.length A.o.2.1, .slice A.g.1 A.g.2.2.length A.g.2.1, .slice A.m.1 A.m.2.2.length A.m.2.1, .slice A.i.1 A.i.2.2.length A.i.2.1, .slice A.p.1 A.p.2.2.length A.p.2.1, .slice A.w.1 A.w.2.2.length A.w.2.1, .slice A.u.1 A.u.2.2.length A.u.2.1, .slice A.x.1 A.x.2.2.length A.x.2.1] (0, 0) _ B3.out.2.1 Try.underlying28 rfl (U.size_arr A) ?_
  go_wp2_with fail
  refine (TA.out _ B3.out).mono ?_
  rintro e V3 ⟨J1, rfl, e1, i1, f1, v1, b⟩
  have B4 := hide' (BW.out _ _ B3.out b)
  have HR := hide' (RA.out J1 V3 e1 i1 f1 v1)
  clear B3 b e1 i1 f1 v1
  go_wp2_with fail
  refine HR.out.mono ?_
  rintro e V4 ⟨to1, tc1, rfl, r1, b⟩
  have B5 := hide' (BW.out _ _ B4.out b)
  have O1 := hide' r1
  clear HR r1 b B4
  go_wp2_with (with_reducible refine U.stay_load 28 _ rfl ?_)
  unfold U.Stay
  refine wpList_load_row rfl 28 _ rfl q3 rfl 28 #[.slice B.a.1 B.a.2.2.length B.a.2.1, .slice B.s.1 B.s.2.2.length B.s.2.1, .slice B.r.1 B.r.2.2.length B.r.2.1, .slice B.o.1 B.o.2.2.length B.o.2.1, .slice B.g.1 B.g.2.2.length B.g.2.1, .slice B.m.1 B.m.2.2.length B.m.2.1, .slice B.i.1 B.i.2.2.length B.i.2.1, .slice B.p.1 B.p.2.2.length B.p.2.1, .slice B.w.1 B.w.2.2.length B.w.2.1, .slice B.u.1 B.u.2.2.length B.u.2.1, .slice B.x.1 B.x.2.2.length B.x.2.1] (0, 0) _ B5.out.2.2.1 Try.underlying28 rfl (U.size_arr B) ?_
  go_wp2_with fail
  refine (TB.out _ B5.out).mono ?_
  rintro e V5 ⟨J2, rfl, e1, i1, f1, v1, b⟩
  have B6 := hide' (BW.out _ _ B5.out b)
  have O1b := hide' (O1.out.below b)
  have HR := hide' (RB.out J2 V5 e1 i1 f1 v1)
  clear B5 b e1 i1 f1 v1 O1
  go_wp2_with fail
  refine HR.out.mono ?_
  rintro e V6 ⟨to2, tc2, rfl, r2, b⟩
  have B7 := hide' (BW.out _ _ B6.out b)
  have P1 : Hid (X.RowI 0 to1 tc1 (rel A) V6) := (O1b.out.below b).mono (Nat.zero_le _)
  have P2 : Hid (X.RowI 0 to2 tc2 (rel B) V6) := r2.mono (Nat.zero_le _)
  clear HR r2 b B6 O1b
  go_wp2_with fail
  have d0 : Below V6.heap.size V6 V6.drew := ⟨rfl, rfl, rfl, Nat.le_refl _, fun _ _ => rfl⟩
  have xB0 := hide' (BW.out _ _ B7.out d0)
  refine wp_region_held_drew (S := (fun V => V.heap[q2]? = some (.cells A.arr 28 (0, 0)) ∧ V.heap[q3]? = some (.cells B.arr 28 (0, 0)) ∧ V.heap[q4]? = some (.cells #[.string t.1, .string t.2.1, .string t.2.2] 42 (0, 0)))) (by kernel_rfl) ⟨xB0.out.2.1, xB0.out.2.2.1, xB0.out.2.2.2⟩ (fun hHeld => ?_)
  refine wpAnyH_take (i := 0) (oi := { dst := some 32, op := Op.load 28 (Operand.tmp 3), type := 28, pos := "outright.go:72", after := #[], guard := none }) (v := .agg A.arr) rfl (by kernel_rfl) (by kernel_rfl) (by kernel_rfl) (fun _ _ _ h => h) (Or.inl ⟨by kernel_rfl, fun w hSw => ?_⟩) (by assumption) ?_
  · exact U.ex_row 28 _ rfl q2 rfl 28 _ (0, 0) _ hSw.1 Try.underlying28 rfl (U.size_arr _)
  (try simp only [Act.put, List.setIfInBounds_toArray, List.set_cons_zero, List.set_cons_succ])
  refine wpAnyH_take (i := 2) (oi := { dst := some 34, op := Op.load 28 (Operand.tmp 4), type := 28, pos := "outright.go:72", after := #[], guard := none }) (v := .agg B.arr) rfl (by kernel_rfl) (by kernel_rfl) (by kernel_rfl) (fun _ _ _ h => h) (Or.inl ⟨by kernel_rfl, fun w hSw => ?_⟩) (by assumption) ?_
  · exact U.ex_row 28 _ rfl q3 rfl 28 _ (0, 0) _ hSw.2.1 Try.underlying28 rfl (U.size_arr _)
  (try simp only [Act.put, List.setIfInBounds_toArray, List.set_cons_zero, List.set_cons_succ])
  refine wpAnyH_ready (rs := [1]) (by kernel_rfl) (by simp) ?_
  refine AllReadyH.cons (o := { dst := some 33, op := Op.call { callee := Callee.value (Operand.func 11), args := #[Operand.tmp 32], argTypes := #[28] }, type := 28, pos := "outright.go:72", after := #[{ on := 0, ground := Ground.data }], guard := none }) rfl (fun K hK => ?_) AllReadyH.nil
  go_simp
  refine (TA.out _ xB0.out).mono ?_
  rintro e x1 ⟨Jx, rfl, ex1, nx1, fx1, vx1, b⟩
  have xB1 := hide' (BW.out _ _ xB0.out b)
  have xD1 : Hid (Below V6.heap.size V6 x1) := d0.trans (b.mono d0.size)
  have xT1 := hide' (And.intro ex1 (And.intro nx1 (And.intro fx1 vx1)))
  clear ex1 nx1 fx1 vx1 b
  (try dsimp only)
  refine hK.out _ _ (⟨xB1.out.2.1, xB1.out.2.2.1, xB1.out.2.2.2⟩) (fun hHeld => ?_)
  clear hK K
  (try simp only [Act.put, List.setIfInBounds_toArray, List.set_cons_zero, List.set_cons_succ])
  refine wpAnyH_ready (rs := [3]) (by kernel_rfl) (by simp) ?_
  refine AllReadyH.cons (o := { dst := some 35, op := Op.call { callee := Callee.value (Operand.func 11), args := #[Operand.tmp 34], argTypes := #[28] }, type := 28, pos := "outright.go:72", after := #[{ on := 2, ground := Ground.data }, { on := 1, ground := Ground.chain }], guard := none }) rfl (fun K hK => ?_) AllReadyH.nil
  go_simp
  refine (TB.out _ xB1.out).mono ?_
  rintro e x2 ⟨Kx, rfl, ex2, nx2, fx2, vx2, b⟩
  have xB2 := hide' (BW.out _ _ xB1.out b)
  have xD2 : Hid (Below V6.heap.size V6 x2) := xD1.out.trans (b.mono xD1.out.size)
  have xT2 := hide' (And.intro (And.intro xT1.out.1 (And.intro (xT1.out.2.1.below b) xT1.out.2.2)) (And.intro ex2 (And.intro nx2 (And.intro fx2 vx2))))
  clear ex2 nx2 fx2 vx2 b xT1 xB1
  (try dsimp only)
  refine hK.out _ _ (⟨xB2.out.2.1, xB2.out.2.2.1, xB2.out.2.2.2⟩) (fun hHeld => ?_)
  clear hK K
  (try simp only [Act.put, List.setIfInBounds_toArray, List.set_cons_zero, List.set_cons_succ])
  refine wpAnyH_ready (rs := [4]) (by kernel_rfl) (by simp) ?_
  refine AllReadyH.cons (o := { dst := some 36, op := Op.call { callee := Callee.value (Operand.func 12), args := #[Operand.tmp 33, Operand.tmp 35], argTypes := #[28, 28] }, type := 30, pos := "outright.go:72", after := #[{ on := 1, ground := Ground.data }, { on := 3, ground := Ground.data }, { on := 3, ground := Ground.chain }], guard := none }) rfl (fun K hK => ?_) AllReadyH.nil
  go_simp
  refine (LA.out Jx Kx _ xT2.out.1.1 xT2.out.2.1 xT2.out.1.2.1 xT2.out.2.2.1 xT2.out.1.2.2.1 xT2.out.2.2.2.1 xT2.out.1.2.2.2 xT2.out.2.2.2.2).mono ?_
  rintro e x3 ⟨o1, c1, rfl, r1, b⟩
  have xB3 := hide' (BW.out _ _ xB2.out b)
  have xD3 : Hid (Below V6.heap.size V6 x3) := xD2.out.trans (b.mono xD2.out.size)
  have CR : Hid (Cr 0 o1 c1 (chg (rel A) (rel B)) x3) := r1.down (Nat.zero_le _)
  clear r1 b xT2 xB2
  (try dsimp only)
  refine hK.out _ _ (⟨xB3.out.2.1, xB3.out.2.2.1, xB3.out.2.2.2⟩) (fun hHeld => ?_)
  clear hK K
  (try simp only [Act.put, List.setIfInBounds_toArray, List.set_cons_zero, List.set_cons_succ])
  refine wpAnyH_take (i := 5) (oi := { dst := some 11, op := Op.assign (Operand.tmp 36), type := 30, pos := "outright.go:72", after := #[{ on := 4, ground := Ground.data }, { on := 4, ground := Ground.chain }, { on := 0, ground := Ground.phase }, { on := 1, ground := Ground.phase }, { on := 2, ground := Ground.phase }, { on := 3, ground := Ground.phase }, { on := 4, ground := Ground.phase }], guard := none }) (v := .slice o1 n c1) rfl (by kernel_rfl) (by kernel_rfl) (by kernel_rfl) (fun _ _ _ h => h) (Or.inl ⟨by kernel_rfl, fun w hSw => ?_⟩) (by assumption) ?_
  · clear hSw; go_simp
  (try simp only [Act.put, List.setIfInBounds_toArray, List.set_cons_zero, List.set_cons_succ])
  refine wpAnyH_done (by kernel_rfl) ?_ _
  have Q1 := hide' (P1.out.below xD3.out)
  have Q2 := hide' (P2.out.below xD3.out)
  clear d0 xB0 B7 P1 P2
  simp only [Exit.then]
  have hc1 : n ≤ c1 := by have q := CR.out.cap; rw [← HN.out] at q; exact q
  have hwl : wrap64 ((la : Int) + (lb : Int)) = (la : Int) + (lb : Int) := by unfold wrap64; omega
  have hgt : ¬ ((la : Int) + (lb : Int) < (n : Int)) := by omega
  by_cases h2k : 2000 < (la : Int) + (lb : Int)
  · have hB := xB3.out.1
    go_wp2
    go_ret
    exact ⟨rfl, hB⟩
  have hsm : la + lb ≤ 2000 := by omega
  have hcap1 : la ≤ tc1 := by have q := Q1.out.cap; rw [← HLA.out] at q; exact q
  have hcap2 : lb ≤ tc2 := by have q := Q2.out.cap; rw [← HLB.out] at q; exact q
  have g0 : x3.cell? ⟨q4, 0, none⟩ = some (.string t.1) := by rw [Lib.cell_of_heap xB3.out.2.2.2]; rfl
  have g1 : x3.cell? ⟨q4, 1, none⟩ = some (.string t.2.1) := by rw [Lib.cell_of_heap xB3.out.2.2.2]; rfl
  have g2 : x3.cell? ⟨q4, 2, none⟩ = some (.string t.2.2) := by rw [Lib.cell_of_heap xB3.out.2.2.2]; rfl
  have U0 := hide' (X.row_one x3 t)
  have ba : Below x3.heap.size x3 (x3.alloc (.cells #[.string t.1, .string t.2.1, .string t.2.2] 42)) := (Below.refl _ _).alloc (Nat.le_refl _) _
  have R1 := hide' (Q1.out.below ba)
  have R2 := hide' (Q2.out.below ba)
  have hn1 : Hid (to1 = none → tc1 = 0) := fun q => by rcases Q1.out.form with ⟨_, _, h⟩ | ⟨g, h, _⟩; exact h; rw [q] at h; cases h
  have hn2 : Hid (to2 = none → tc2 = 0) := fun q => by rcases Q2.out.form with ⟨_, _, h⟩ | ⟨g, h, _⟩; exact h; rw [q] at h; cases h
  have BA := hide' ba
  clear ba
  go_wp2_with (at_builtin; refine stay_appT _ _ _ rfl ?_)
  unfold U.Stay
  refine X.wpList_appR _ rfl _ _ rfl x3.heap.size (some ⟨x3.heap.size, 0, none⟩) 1 [t] rfl U0.out to1 tc1 (rel A) (by rw [← HLA.out]; rfl) R1.out.ints hn1.out (by have := HLA.out; show ([t]).length + _ < _; simp; omega) (by simp) ?_
  intro o5 c5 w5 r5 b5
  obtain ⟨Z1, hZ1⟩ : ∃ Z1, Z1 = [t] ++ rel A := ⟨_, rfl⟩
  rw [show [t].length + (rel A).length = Z1.length by rw [hZ1, List.length_append]]
  rw [← hZ1] at r5
  have hZl1 : Hid (Z1.length = 1 + la) := by rw [hZ1, List.length_append, ← HLA.out]; rfl
  have D5 := hide' (BA.out.trans b5)
  have U5 := hide' r5
  clear hZ1 r5 b5 U0 R1 g0 g1 g2
  have S1 := hide' (Q1.out.below D5.out)
  have S2 := hide' (Q2.out.below D5.out)
  clear R2
  go_wp2_with (at_builtin; refine stay_appT _ _ _ rfl ?_)
  unfold U.Stay
  refine X.wpList_appR _ rfl _ _ rfl x3.heap.size o5 c5 Z1 rfl U5.out to2 tc2 (rel B) (by rw [← HLB.out]; rfl) S2.out.ints hn2.out (by have := HLB.out; have := hZl1.out; show _ < _; omega) D5.out.size ?_
  intro o6 c6 w6 r6 b6
  obtain ⟨Z2, hZ2⟩ : ∃ Z2, Z2 = Z1 ++ rel B := ⟨_, rfl⟩
  rw [show Z1.length + (rel B).length = Z2.length by rw [hZ2, List.length_append]]
  rw [← hZ2] at r6
  have hZl2 : Hid (Z2.length ≤ 2001) := by rw [hZ2, List.length_append, ← HLB.out, hZl1.out]; show _ ≤ _; omega
  have D6 := hide' (D5.out.trans b6)
  have U6 := hide' r6
  clear hZ2 r6 b6 U5 S1 S2 hZl1 BA
  go_wp2_with fail
  go_loopw [12, 13] (fun l iv wx => ∃ (i : Nat) (Z : List X.K3) (o : Option Addr) (c : Nat), iv = .int .i64 (i : Int) ∧ i ≤ n ∧ l = .slice o Z.length c ∧ Hid (Z.length ≤ 2001 + i) ∧ Hid (X.RowI x3.heap.size o c Z wx) ∧ Hid (Below x3.heap.size x3 wx)) (fun _ iv _ => n - (intOf iv).toNat)
  case atStart => exact ⟨0, Z2, o6, c6, rfl, Nat.zero_le _, rfl, hZl2, U6, D6⟩
  case round =>
    obtain ⟨i, Z, o, c, rfl, hi, rfl, hZ, hU, hD⟩ := hrel
    by_cases hlt : i < n
    · have hx : (chg (rel A) (rel B))[i]? = some ((chg (rel A) (rel B))[i]'(by rw [← HN.out]; exact hlt)) := List.getElem?_eq_getElem _
      generalize (chg (rel A) (rel B))[i]'(by rw [← HN.out]; exact hlt) = ch at hx
      obtain ⟨gg, rfl, hgl, k0, k1, k2, k3⟩ := CR.out.at hx
      have c0 := (hD.out.cell (p := ⟨gg, i * 4, none⟩) hgl).trans k0
      have c1' := (hD.out.cell (p := ⟨gg, i * 4 + 1, none⟩) hgl).trans k1
      have c2' := (hD.out.cell (p := ⟨gg, i * 4 + 2, none⟩) hgl).trans k2
      clear hx k0 k1 k2 k3
      go_wp2_with (at_builtin; refine stay_appT _ _ _ rfl ?_)
      unfold U.Stay
      refine X.wpList_app1 wr rfl _ _ rfl x3.heap.size o c Z ch.1 42 _ rfl hU.out rfl (by have := hZ.out; show _ < _; omega) hD.out.size ?_
      intro g' cap' w7 r7 t7 hg7 hl7
      have b7 : Below x3.heap.size wr w7 := t7.below (fun j hj => (hU.out.lt j hj).1) hD.out.size
      go_wp2_with fail
      exact ⟨⟨i + 1, Z ++ [ch.1], some ⟨g', 0, none⟩, cap', by go_num, by omega, by rw [List.length_append]; rfl, (by rw [List.length_append]; have := hZ.out; show _ ≤ _; simp; omega), r7, hD.out.trans b7⟩, by simp [intOf]; omega⟩
    · have hlt' : ¬ (i : Int) < (n : Int) := by omega
      have hzl : (Z.length : Int) ≤ 4100 := by have := hZ.out; omega
      have hzc : Z.length ≤ c := hU.out.cap
      have HS : Hid (∀ (z : X.K3) (V : World), Below x3.heap.size x3 V → (Calls Try.prog 24 #[.slice to1 la tc1, .agg #[.string z.1, .string z.2.1, .string z.2.2]] V fun e w' => e = .returned (.bool (isIn (rel A) z)) ∧ Below V.heap.size V w') ∧ (Calls Try.prog 24 #[.slice to2 lb tc2, .agg #[.string z.1, .string z.2.1, .string z.2.2]] V fun e w' => e = .returned (.bool (isIn (rel B) z)) ∧ Below V.heap.size V w')) := fun z V b => by
        have k1 := lhas_any to1 tc1 (rel A) z V (Q1.out.below b).ints (by rw [← HLA.out]; exact hcap1) (by rw [← HLA.out]; omega)
        have k2 := lhas_any to2 tc2 (rel B) z V (Q2.out.below b).ints (by rw [← HLB.out]; exact hcap2) (by rw [← HLB.out]; omega)
        rw [← HLA.out] at k1
        rw [← HLB.out] at k2
        exact ⟨k1, k2⟩
      have TD : Hid (∀ (z : X.K3) (V : World), Below x3.heap.size x3 V → (Calls Try.prog 25 #[.slice o1 n c1, .agg #[.string z.1, .string z.2.1, .string z.2.2, .bool false]] V fun e w' => e = .returned (.int .i64 (tl (isIn (rel A) z) (isIn (rel B) z))) ∧ Below V.heap.size V w') ∧ (Calls Try.prog 25 #[.slice o1 n c1, .agg #[.string z.1, .string z.2.1, .string z.2.2, .bool true]] V fun e w' => e = .returned (.int .i64 (tl (isIn (rel B) z) (isIn (rel A) z))) ∧ Below V.heap.size V w')) := fun z V b => by
        have k1 := told_any o1 c1 (chg (rel A) (rel B)) z.1 z.2.1 z.2.2 false V (CR.out.below b) (by rw [← HN.out]; omega)
        have k2 := told_any o1 c1 (chg (rel A) (rel B)) z.1 z.2.1 z.2.2 true V (CR.out.below b) (by rw [← HN.out]; omega)
        rw [← HN.out] at k1 k2
        rw [show (((z.1, z.2.1, z.2.2), false) : Ch) = (z, false) from rfl, cnt_lost] at k1
        rw [show (((z.1, z.2.1, z.2.2), true) : Ch) = (z, true) from rfl, cnt_gained] at k2
        exact ⟨k1, k2⟩
      go_wp2_with fail
      clear D5 D6 U6 hZl2 Q1 Q2 CR hn1 hn2
      go_loopw [14] (fun iv wx => ∃ j : Nat, iv = .int .i64 (j : Int) ∧ j ≤ Z.length ∧ Hid (X.RowI x3.heap.size o c Z wx) ∧ Hid (Below x3.heap.size x3 wx)) (fun iv _ => Z.length - (intOf iv).toNat)
      case atStart => exact ⟨0, rfl, Nat.zero_le _, hU, hD⟩
      case round =>
        clear hU hD
        obtain ⟨j, rfl, hj, hU, hD⟩ := hrel
        by_cases hjl : j < Z.length
        · have hjl' : (j : Int) < (Z.length : Int) := by omega
          obtain ⟨z, hz⟩ : ∃ z, Z[j]? = some z := ⟨_, List.getElem?_eq_getElem hjl⟩
          obtain ⟨gb, off, rfl, hyl, d1, d2, d3⟩ := hU.out.ints.at hz
          clear hz
          obtain ⟨z1, z2, z3⟩ := z
          simp only at d1 d2 d3
          obtain ⟨ba, hba⟩ : ∃ ba, ba = isIn (rel A) (z1, z2, z3) := ⟨_, rfl⟩
          obtain ⟨bb, hbb⟩ : ∃ bb, bb = isIn (rel B) (z1, z2, z3) := ⟨_, rfl⟩
          obtain ⟨li, hli⟩ : ∃ li : Int, li = (tl ba bb : Nat) := ⟨_, rfl⟩
          obtain ⟨gi, hgi⟩ : ∃ gi : Int, gi = (tl bb ba : Nat) := ⟨_, rfl⟩
          have hcs : Hid ((ba = false ∧ bb = false ∧ li = 0 ∧ gi = 0) ∨ (ba = false ∧ bb = true ∧ li = 0 ∧ gi = 1) ∨ (ba = true ∧ bb = false ∧ li = 1 ∧ gi = 0) ∨ (ba = true ∧ bb = true ∧ li = 0 ∧ gi = 0)) := by
            cases ba <;> cases bb <;> rw [hli, hgi] <;> simp [tl] <;> exact trivial
          have HS' := hide' (HS.out (z1, z2, z3))
          have TD' := hide' (TD.out (z1, z2, z3))
          rw [← hba, ← hbb] at HS' TD'
          rw [← hli, ← hgi] at TD'
          clear hba hbb hli hgi
          have da := d1
          have db := d2
          have dc := d3
          clear d1 d2 d3
          go_wp2_with fail
          refine (HS'.out wr hD.out).1.mono ?_
          rintro e y1 ⟨rfl, b⟩
          have da1 := (b.cell (p := ⟨gb, off + j * 3, none⟩) hyl).trans da
          have db1 := (b.cell (p := ⟨gb, off + j * 3 + 1, none⟩) hyl).trans db
          have dc1 := (b.cell (p := ⟨gb, off + j * 3 + 2, none⟩) hyl).trans dc
          have hyl1 := Nat.lt_of_lt_of_le hyl b.size
          have hU1 := hide' (hU.out.below b)
          have hD1 : Hid (Below x3.heap.size x3 y1) := hD.out.trans (b.mono hD.out.size)
          clear da db dc hyl hU hD b
          go_wp2_with fail
          refine (HS'.out y1 hD1.out).2.mono ?_
          rintro e y2 ⟨rfl, b⟩
          have da2 := (b.cell (p := ⟨gb, off + j * 3, none⟩) hyl1).trans da1
          have db2 := (b.cell (p := ⟨gb, off + j * 3 + 1, none⟩) hyl1).trans db1
          have dc2 := (b.cell (p := ⟨gb, off + j * 3 + 2, none⟩) hyl1).trans dc1
          have hyl2 := Nat.lt_of_lt_of_le hyl1 b.size
          have hU2 := hide' (hU1.out.below b)
          have hD2 : Hid (Below x3.heap.size x3 y2) := hD1.out.trans (b.mono hD1.out.size)
          clear da1 db1 dc1 hyl1 hU1 hD1 b
          go_wp2_with fail
          refine (TD'.out y2 hD2.out).1.mono ?_
          rintro e y3 ⟨rfl, b⟩
          have da3 := (b.cell (p := ⟨gb, off + j * 3, none⟩) hyl2).trans da2
          have db3 := (b.cell (p := ⟨gb, off + j * 3 + 1, none⟩) hyl2).trans db2
          have dc3 := (b.cell (p := ⟨gb, off + j * 3 + 2, none⟩) hyl2).trans dc2
          have hyl3 := Nat.lt_of_lt_of_le hyl2 b.size
          have hU3 := hide' (hU2.out.below b)
          have hD3 : Hid (Below x3.heap.size x3 y3) := hD2.out.trans (b.mono hD2.out.size)
          clear da2 db2 dc2 hyl2 hU2 hD2 b
          go_wp2_with fail
          refine (TD'.out y3 hD3.out).2.mono ?_
          rintro e y4 ⟨rfl, b⟩
          have hU4 := hide' (hU3.out.below b)
          have hD4 : Hid (Below x3.heap.size x3 y4) := hD3.out.trans (b.mono hD3.out.size)
          clear da3 db3 dc3 hyl3 hU3 hD3 b
          have hnx : ∀ y : Nat, y < Z.length → Z.length - (y + 1) < Z.length - y := fun y q => by omega
          clear HS' TD'
          have ex : ∀ u, u = Value.int .i64 ((j + 1 : Nat) : Int) → (∃ j : Nat, u = .int .i64 (j : Int) ∧ j ≤ Z.length ∧ Hid (X.RowI x3.heap.size (some ⟨gb, off, none⟩) c Z y4) ∧ Hid (Below x3.heap.size x3 y4)) := fun u e => ⟨j + 1, e, by omega, hU4, hD4⟩
          rcases hcs.out with ⟨rfl, rfl, rfl, rfl⟩ | ⟨rfl, rfl, rfl, rfl⟩ | ⟨rfl, rfl, rfl, rfl⟩ | ⟨rfl, rfl, rfl, rfl⟩
          all_goals
            clear hcs
            go_wp2_with fail
            exact ⟨ex _ (by go_num), by simp [intOf]; omega⟩
        · have hjl' : ¬ (j : Int) < (Z.length : Int) := by omega
          go_wp2_with fail
          clear hU hZ TD
          obtain ⟨bt, hbt⟩ : ∃ bt, bt = isIn (rel A) t := ⟨_, rfl⟩
          rw [← hbt] at WA
          have HS' : Hid (∀ V : World, Below x3.heap.size x3 V → Calls Try.prog 24 #[.slice to1 la tc1, .agg #[.string t.1, .string t.2.1, .string t.2.2]] V fun e w' => e = .returned (.bool bt) ∧ Below V.heap.size V w') := fun V b => by rw [hbt]; exact (HS.out t V b).1
          clear hbt HS
          have zF := hide' (BW.out _ _ xB3.out hD.out)
          have d0 : Below wr.heap.size wr wr.drew := ⟨rfl, rfl, rfl, Nat.le_refl _, fun _ _ => rfl⟩
          have zB0 := hide' (BW.out _ _ zF.out d0)
          have hsb2 : ((n : Int) == 0) = sb := by rw [HSB.out, Bool.eq_iff_iff, beq_iff_eq, beq_iff_eq]; omega
          clear xB3 zF
          refine wp_region_held_drew (S := (fun V => V.heap[q2]? = some (.cells A.arr 28 (0, 0)) ∧ V.heap[q3]? = some (.cells B.arr 28 (0, 0)) ∧ V.heap[q4]? = some (.cells #[.string t.1, .string t.2.1, .string t.2.2] 42 (0, 0)))) (by kernel_rfl) ⟨zB0.out.2.1, zB0.out.2.2.1, zB0.out.2.2.2⟩ (fun hHeld => ?_)
          refine wpAnyH_take (i := 0) (oi := { dst := some 135, op := Op.load 28 (Operand.tmp 3), type := 28, pos := "outright.go:94", after := #[], guard := none }) (v := .agg A.arr) rfl (by kernel_rfl) (by kernel_rfl) (by kernel_rfl) (fun _ _ _ h => h) (Or.inl ⟨by kernel_rfl, fun w hSw => ?_⟩) (by assumption) ?_
          · exact U.ex_row 28 _ rfl q2 rfl 28 _ (0, 0) _ hSw.1 Try.underlying28 rfl (U.size_arr _)
          (try simp only [Act.put, List.setIfInBounds_toArray, List.set_cons_zero, List.set_cons_succ])
          refine wpAnyH_take (i := 2) (oi := { dst := some 137, op := Op.load 42 (Operand.tmp 5), type := 42, pos := "outright.go:94", after := #[], guard := none }) (v := .agg #[.string t.1, .string t.2.1, .string t.2.2]) rfl (by kernel_rfl) (by kernel_rfl) (by kernel_rfl) (fun _ _ _ h => h) (Or.inl ⟨by kernel_rfl, fun w hSw => ?_⟩) (by assumption) ?_
          · exact U.ex_row 42 _ rfl q4 rfl 42 _ (0, 0) _ hSw.2.2 Try.underlying42 rfl (by kernel_rfl)
          (try simp only [Act.put, List.setIfInBounds_toArray, List.set_cons_zero, List.set_cons_succ])
          refine wpAnyH_take (i := 4) (oi := { dst := some 139, op := Op.move (Operand.tmp 9), type := 26, pos := "outright.go:94", after := #[], guard := none }) (v := .slice to1 la tc1) rfl (by kernel_rfl) (by kernel_rfl) (by kernel_rfl) (fun _ _ _ h => h) (Or.inl ⟨by kernel_rfl, fun w hSw => ?_⟩) (by assumption) ?_
          · clear hSw; go_simp
          (try simp only [Act.put, List.setIfInBounds_toArray, List.set_cons_zero, List.set_cons_succ])
          refine wpAnyH_take (i := 5) (oi := { dst := some 140, op := Op.load 42 (Operand.tmp 5), type := 42, pos := "outright.go:94", after := #[], guard := none }) (v := .agg #[.string t.1, .string t.2.1, .string t.2.2]) rfl (by kernel_rfl) (by kernel_rfl) (by kernel_rfl) (fun _ _ _ h => h) (Or.inl ⟨by kernel_rfl, fun w hSw => ?_⟩) (by assumption) ?_
          · exact U.ex_row 42 _ rfl q4 rfl 42 _ (0, 0) _ hSw.2.2 Try.underlying42 rfl (by kernel_rfl)
          (try simp only [Act.put, List.setIfInBounds_toArray, List.set_cons_zero, List.set_cons_succ])
          refine wpAnyH_ready (rs := [1]) (by kernel_rfl) (by simp) ?_
          refine AllReadyH.cons (o := { dst := some 136, op := Op.call { callee := Callee.value (Operand.func 11), args := #[Operand.tmp 135], argTypes := #[28] }, type := 28, pos := "outright.go:94", after := #[{ on := 0, ground := Ground.data }], guard := none }) rfl (fun K hK => ?_) AllReadyH.nil
          go_simp
          refine (TA.out _ zB0.out).mono ?_
          rintro e z1 ⟨Jz, rfl, ez, nz, fz, vz, b⟩
          have zB1 := hide' (BW.out _ _ zB0.out b)
          have zD1 : Hid (Below wr.heap.size wr z1) := d0.trans (b.mono d0.size)
          have WA' := hide' (WA.out Jz z1 ez nz fz)
          clear ez nz fz vz b WA
          (try dsimp only)
          refine hK.out _ _ (⟨zB1.out.2.1, zB1.out.2.2.1, zB1.out.2.2.2⟩) (fun hHeld => ?_)
          clear hK K
          (try simp only [Act.put, List.setIfInBounds_toArray, List.set_cons_zero, List.set_cons_succ])
          refine wpAnyH_ready (rs := [3]) (by kernel_rfl) (by simp) ?_
          refine AllReadyH.cons (o := { dst := some 138, op := Op.call { callee := Callee.value (Operand.func 26), args := #[Operand.tmp 136, Operand.tmp 137], argTypes := #[28, 42] }, type := 4, pos := "outright.go:94", after := #[{ on := 1, ground := Ground.data }, { on := 2, ground := Ground.data }, { on := 1, ground := Ground.chain }], guard := none }) rfl (fun K hK => ?_) AllReadyH.nil
          go_simp
          refine WA'.out.mono ?_
          rintro e z2 ⟨rfl, b⟩
          have zB2 := hide' (BW.out _ _ zB1.out b)
          have zD2 : Hid (Below wr.heap.size wr z2) := zD1.out.trans (b.mono zD1.out.size)
          clear b WA'
          (try dsimp only)
          refine hK.out _ _ (⟨zB2.out.2.1, zB2.out.2.2.1, zB2.out.2.2.2⟩) (fun hHeld => ?_)
          clear hK K
          (try simp only [Act.put, List.setIfInBounds_toArray, List.set_cons_zero, List.set_cons_succ])
          refine wpAnyH_ready (rs := [6]) (by kernel_rfl) (by simp) ?_
          refine AllReadyH.cons (o := { dst := some 141, op := Op.call { callee := Callee.value (Operand.func 24), args := #[Operand.tmp 139, Operand.tmp 140], argTypes := #[26, 42] }, type := 4, pos := "outright.go:94", after := #[{ on := 4, ground := Ground.data }, { on := 5, ground := Ground.data }, { on := 3, ground := Ground.chain }], guard := none }) rfl (fun K hK => ?_) AllReadyH.nil
          go_simp
          refine (HS'.out z2 (hD.out.trans (zD2.out.mono hD.out.size))).mono ?_
          rintro e z3 ⟨rfl, b⟩
          have zB3 := hide' (BW.out _ _ zB2.out b)
          have zD3 : Hid (Below wr.heap.size wr z3) := zD2.out.trans (b.mono zD2.out.size)
          clear b HS'
          (try dsimp only)
          refine hK.out _ _ (⟨zB3.out.2.1, zB3.out.2.2.1, zB3.out.2.2.2⟩) (fun hHeld => ?_)
          clear hK K
          (try simp only [Act.put, List.setIfInBounds_toArray, List.set_cons_zero, List.set_cons_succ])
          refine wpAnyH_take (i := 7) (oi := { dst := some 142, op := Op.binOp BinOp.eql 4 (Operand.tmp 138) (Operand.tmp 141) 4, type := 4, pos := "outright.go:94", after := #[{ on := 3, ground := Ground.data }, { on := 6, ground := Ground.data }], guard := none }) (v := .bool true) rfl (by kernel_rfl) (by kernel_rfl) (by kernel_rfl) (fun _ _ _ h => h) (Or.inl ⟨by kernel_rfl, fun w hSw => ?_⟩) (by assumption) ?_
          · clear hSw; go_simp
          (try simp only [Act.put, List.setIfInBounds_toArray, List.set_cons_zero, List.set_cons_succ])
          refine wpAnyH_take (i := 8) (oi := { dst := some 143, op := Op.move (Operand.tmp 142), type := 4, pos := "outright.go:94", after := #[{ on := 7, ground := Ground.data }, { on := 6, ground := Ground.chain }], guard := none }) (v := .bool true) rfl (by kernel_rfl) (by kernel_rfl) (by kernel_rfl) (fun _ _ _ h => h) (Or.inl ⟨by kernel_rfl, fun w hSw => ?_⟩) (by assumption) ?_
          · clear hSw; go_simp
          (try simp only [Act.put, List.setIfInBounds_toArray, List.set_cons_zero, List.set_cons_succ])
          refine wpAnyH_take (i := 9) (oi := { dst := some 144, op := Op.load 28 (Operand.tmp 3), type := 28, pos := "outright.go:94", after := #[{ on := 8, ground := Ground.guard }], guard := some (8, true) }) (v := .agg A.arr) rfl (by kernel_rfl) (by kernel_rfl) (by kernel_rfl) (fun _ _ _ h => h) (Or.inl ⟨by kernel_rfl, fun w hSw => ?_⟩) (by assumption) ?_
          · exact U.ex_row 28 _ rfl q2 rfl 28 _ (0, 0) _ hSw.1 Try.underlying28 rfl (U.size_arr _)
          (try simp only [Act.put, List.setIfInBounds_toArray, List.set_cons_zero, List.set_cons_succ])
          refine wpAnyH_take (i := 11) (oi := { dst := some 146, op := Op.load 28 (Operand.tmp 4), type := 28, pos := "outright.go:94", after := #[{ on := 8, ground := Ground.guard }], guard := some (8, true) }) (v := .agg B.arr) rfl (by kernel_rfl) (by kernel_rfl) (by kernel_rfl) (fun _ _ _ h => h) (Or.inl ⟨by kernel_rfl, fun w hSw => ?_⟩) (by assumption) ?_
          · exact U.ex_row 28 _ rfl q3 rfl 28 _ (0, 0) _ hSw.2.1 Try.underlying28 rfl (U.size_arr _)
          (try simp only [Act.put, List.setIfInBounds_toArray, List.set_cons_zero, List.set_cons_succ])
          refine wpAnyH_take (i := 14) (oi := { dst := some 149, op := Op.move (Operand.tmp 11), type := 30, pos := "outright.go:94", after := #[{ on := 8, ground := Ground.guard }], guard := some (8, true) }) (v := .slice o1 n c1) rfl (by kernel_rfl) (by kernel_rfl) (by kernel_rfl) (fun _ _ _ h => h) (Or.inl ⟨by kernel_rfl, fun w hSw => ?_⟩) (by assumption) ?_
          · clear hSw; go_simp
          (try simp only [Act.put, List.setIfInBounds_toArray, List.set_cons_zero, List.set_cons_succ])
          refine wpAnyH_take (i := 15) (oi := { dst := some 150, op := Op.call { callee := Callee.builtin Builtin.len, args := #[Operand.tmp 149], argTypes := #[30] }, type := 3, pos := "outright.go:94", after := #[{ on := 14, ground := Ground.data }, { on := 8, ground := Ground.guard }], guard := some (8, true) }) (v := .int .i64 (n : Int)) rfl (by kernel_rfl) (by kernel_rfl) (by kernel_rfl) (fun _ _ _ h => h) (Or.inl ⟨by kernel_rfl, fun w hSw => ?_⟩) (by assumption) ?_
          · clear hSw; go_simp
          (try simp only [Act.put, List.setIfInBounds_toArray, List.set_cons_zero, List.set_cons_succ])
          refine wpAnyH_take (i := 16) (oi := { dst := some 151, op := Op.binOp BinOp.eql 3 (Operand.tmp 150) (Operand.const (Value.int IntKind.i64 0)) 3, type := 4, pos := "outright.go:94", after := #[{ on := 15, ground := Ground.data }, { on := 8, ground := Ground.guard }], guard := some (8, true) }) (v := .bool sb) rfl (by kernel_rfl) (by kernel_rfl) (by kernel_rfl) (fun _ _ _ h => h) (Or.inl ⟨by kernel_rfl, fun w hSw => ?_⟩) (by assumption) ?_
          · clear hSw; go_simp
          (try simp only [Act.put, List.setIfInBounds_toArray, List.set_cons_zero, List.set_cons_succ])
          refine wpAnyH_ready (rs := [10]) (by kernel_rfl) (by simp) ?_
          refine AllReadyH.cons (o := { dst := some 145, op := Op.call { callee := Callee.value (Operand.func 11), args := #[Operand.tmp 144], argTypes := #[28] }, type := 28, pos := "outright.go:94", after := #[{ on := 9, ground := Ground.data }, { on := 8, ground := Ground.chain }, { on := 8, ground := Ground.guard }], guard := some (8, true) }) rfl (fun K hK => ?_) AllReadyH.nil
          go_simp
          refine (TA.out _ zB3.out).mono ?_
          rintro e u1 ⟨Ju, rfl, eu1, nu1, fu1, vu1, b⟩
          have uB1 := hide' (BW.out _ _ zB3.out b)
          have uD1 : Hid (Below wr.heap.size wr u1) := zD3.out.trans (b.mono zD3.out.size)
          have uT1 := hide' (And.intro eu1 (And.intro nu1 (And.intro fu1 vu1)))
          clear eu1 nu1 fu1 vu1 b
          (try dsimp only)
          refine hK.out _ _ (⟨uB1.out.2.1, uB1.out.2.2.1, uB1.out.2.2.2⟩) (fun hHeld => ?_)
          clear hK K
          (try simp only [Act.put, List.setIfInBounds_toArray, List.set_cons_zero, List.set_cons_succ])
          refine wpAnyH_ready (rs := [12]) (by kernel_rfl) (by simp) ?_
          refine AllReadyH.cons (o := { dst := some 147, op := Op.call { callee := Callee.value (Operand.func 11), args := #[Operand.tmp 146], argTypes := #[28] }, type := 28, pos := "outright.go:94", after := #[{ on := 11, ground := Ground.data }, { on := 10, ground := Ground.chain }, { on := 8, ground := Ground.guard }], guard := some (8, true) }) rfl (fun K hK => ?_) AllReadyH.nil
          go_simp
          refine (TB.out _ uB1.out).mono ?_
          rintro e u2 ⟨Ku, rfl, eu2, nu2, fu2, vu2, b⟩
          have uB2 := hide' (BW.out _ _ uB1.out b)
          have uD2 : Hid (Below wr.heap.size wr u2) := uD1.out.trans (b.mono uD1.out.size)
          have uT2 := hide' (And.intro (And.intro uT1.out.1 (And.intro (uT1.out.2.1.below b) uT1.out.2.2)) (And.intro eu2 (And.intro nu2 (And.intro fu2 vu2))))
          clear eu2 nu2 fu2 vu2 b uT1 uB1
          (try dsimp only)
          refine hK.out _ _ (⟨uB2.out.2.1, uB2.out.2.2.1, uB2.out.2.2.2⟩) (fun hHeld => ?_)
          clear hK K
          (try simp only [Act.put, List.setIfInBounds_toArray, List.set_cons_zero, List.set_cons_succ])
          refine wpAnyH_ready (rs := [13]) (by kernel_rfl) (by simp) ?_
          refine AllReadyH.cons (o := { dst := some 148, op := Op.call { callee := Callee.value (Operand.func 15), args := #[Operand.tmp 145, Operand.tmp 147], argTypes := #[28, 28] }, type := 4, pos := "outright.go:94", after := #[{ on := 10, ground := Ground.data }, { on := 12, ground := Ground.data }, { on := 12, ground := Ground.chain }, { on := 8, ground := Ground.guard }], guard := some (8, true) }) rfl (fun K hK => ?_) AllReadyH.nil
          go_simp
          refine (SA.out Ju Ku _ uT2.out.1.1 uT2.out.2.1 uT2.out.1.2.1 uT2.out.2.2.1 uT2.out.1.2.2.1 uT2.out.2.2.2.1 uT2.out.1.2.2.2 uT2.out.2.2.2.2).mono ?_
          rintro e u3 ⟨rfl, b⟩
          have uB3 := hide' (BW.out _ _ uB2.out b)
          clear b uT2
          (try dsimp only)
          refine hK.out _ _ (⟨uB3.out.2.1, uB3.out.2.2.1, uB3.out.2.2.2⟩) (fun hHeld => ?_)
          clear hK K
          (try simp only [Act.put, List.setIfInBounds_toArray, List.set_cons_zero, List.set_cons_succ])
          refine wpAnyH_take (i := 17) (oi := { dst := some 152, op := Op.binOp BinOp.eql 4 (Operand.tmp 148) (Operand.tmp 151) 4, type := 4, pos := "outright.go:94", after := #[{ on := 13, ground := Ground.data }, { on := 16, ground := Ground.data }, { on := 8, ground := Ground.guard }], guard := some (8, true) }) (v := .bool true) rfl (by kernel_rfl) (by kernel_rfl) (by kernel_rfl) (fun _ _ _ h => h) (Or.inl ⟨by kernel_rfl, fun w hSw => ?_⟩) (by assumption) ?_
          · clear hSw; go_simp
          (try simp only [Act.put, List.setIfInBounds_toArray, List.set_cons_zero, List.set_cons_succ])
          refine wpAnyH_take (i := 18) (oi := { dst := some 153, op := Op.pick (Operand.tmp 143) (Operand.tmp 152) (Operand.const (Value.bool false)), type := 4, pos := "outright.go:94", after := #[{ on := 8, ground := Ground.data }, { on := 17, ground := Ground.data }], guard := none }) (v := .bool true) rfl (by kernel_rfl) (by kernel_rfl) (by kernel_rfl) (fun _ _ _ h => h) (Or.inl ⟨by kernel_rfl, fun w hSw => ?_⟩) (by assumption) ?_
          · clear hSw; go_simp
          (try simp only [Act.put, List.setIfInBounds_toArray, List.set_cons_zero, List.set_cons_succ])
          refine wpAnyH_take (i := 19) (oi := { dst := some 6, op := Op.assign (Operand.tmp 153), type := 4, pos := "outright.go:94", after := #[{ on := 18, ground := Ground.data }, { on := 13, ground := Ground.chain }, { on := 0, ground := Ground.phase }, { on := 1, ground := Ground.phase }, { on := 2, ground := Ground.phase }, { on := 3, ground := Ground.phase }, { on := 4, ground := Ground.phase }, { on := 5, ground := Ground.phase }, { on := 6, ground := Ground.phase }, { on := 7, ground := Ground.phase }, { on := 8, ground := Ground.phase }, { on := 9, ground := Ground.phase }, { on := 10, ground := Ground.phase }, { on := 11, ground := Ground.phase }, { on := 12, ground := Ground.phase }, { on := 13, ground := Ground.phase }, { on := 14, ground := Ground.phase }, { on := 15, ground := Ground.phase }, { on := 16, ground := Ground.phase }, { on := 17, ground := Ground.phase }, { on := 18, ground := Ground.phase }], guard := none }) (v := .bool true) rfl (by kernel_rfl) (by kernel_rfl) (by kernel_rfl) (fun _ _ _ h => h) (Or.inl ⟨by kernel_rfl, fun w hSw => ?_⟩) (by assumption) ?_
          · clear hSw; go_simp
          (try simp only [Act.put, List.setIfInBounds_toArray, List.set_cons_zero, List.set_cons_succ])
          refine wpAnyH_done (by kernel_rfl) ?_ _
          simp only [Exit.then]
          go_wp2_with fail
          go_ret
          exact ⟨rfl, uB3.out.1⟩
end D
end Go.Proofs.Ytollaamlnddhcaa
