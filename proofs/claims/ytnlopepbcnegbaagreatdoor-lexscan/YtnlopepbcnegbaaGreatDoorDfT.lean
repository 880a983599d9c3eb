import Derived.Test.YtnlopepbcnegbaaGreatDoorJD
import Derived.Test.YtnlopepbcnegbaaGreatDoorEsP
set_option linter.unusedVariables false
set_option linter.unusedSimpArgs false
namespace Go.Proofs.YtnlopepbcnegbaaGreatDoor
open Go.RowKit
theorem info39 : (Tryz.prog.info? 39).map (fun i => (i.zero, i.size, i.bytes)) = some (some (.agg #[.slice none 0 0, .int .i64 0, .int .i64 0, .int .i64 0, .string ByteArray.empty, .bool false]), 6, 72) := by kernel_rfl
def zt0 : Tkn := (0, ByteArray.empty, 0, 0)
/-- what was gone over -/
def wentV (tv : Value) (f : Option Flw) (odd : Bool) : Value :=
  match f with
  | none => .agg #[tv, .int .i64 0, .int .i64 0, .int .i64 0, .string ⟨#[]⟩, .bool odd]
  | some f => .agg #[tv, .int .i64 f.1, .int .i64 f.2.1, .int .i64 f.2.2.1, .string f.2.2.2, .bool odd]
theorem loadW (w : World) (g : Nat) (a b c d e f : Value) (t : TypeId) (h : w.heap[g]? = some (.cells #[a, b, c, d, e, f] t (0, 0))) : (loadVar 39 ⟨g, 0, none⟩).run Tryz.prog w = .ok (.agg #[a, b, c, d, e, f]) w := by
  have hu := Tryz.underlying39
  obtain ⟨c0, c1, c2, c3, c4, c5, _⟩ := six_cells h
  have hl : (loadCells ⟨g, 0, none⟩ [a, b, c, d, e, f].length).run Tryz.prog w = .ok [a, b, c, d, e, f].toArray w :=
    run_loadCells_list (P := Tryz.prog) w ⟨g, 0, none⟩ [a, b, c, d, e, f] (fun j v hv => by
      have hadd : (⟨g, 0, none⟩ : Addr).add j = ⟨g, j, none⟩ := by unfold Addr.add; split <;> simp_all
      rw [hadd]
      match j, hv with
      | 0, hv => simp at hv; subst hv; exact c0
      | 1, hv => simp at hv; subst hv; exact c1
      | 2, hv => simp at hv; subst hv; exact c2
      | 3, hv => simp at hv; subst hv; exact c3
      | 4, hv => simp at hv; subst hv; exact c4
      | 5, hv => simp at hv; subst hv; exact c5
      | _ + 6, hv => simp at hv)
  have hi : (Tryz.prog.info? 39).map (·.size) = some 6 := by kernel_rfl
  cases hq : Tryz.prog.info? 39 with
  | none => simp [hq] at hi
  | some i =>
    have hs : i.size = 6 := by simpa [hq] using hi
    have hagg : (isAgg 39).run Tryz.prog w = .ok true w := by
      unfold isAgg
      rw [Sem.run_bind, run_underlying hu w]
      rfl
    simp only [List.length_cons, List.length_nil] at hl
    simp [loadVar, Sem.run_bind, hagg, sizeOf, typeInfo, hq, hs, hl]
theorem resultsW {fn : Func} {p : Tmp} (h : fn.results = #[.cell p 39]) (tmps : Array Value) (w : World) (g : Nat) (a b c d e f : Value) (t : TypeId) (hp : tmps.getD p undef = .pointer (some ⟨g, 0, none⟩)) (hb : w.heap[g]? = some (.cells #[a, b, c, d, e, f] t (0, 0))) :
    (results fn tmps).run Tryz.prog w = .ok (.agg #[a, b, c, d, e, f]) w := by
  have hp' : tmps[p]?.getD undef = .pointer (some ⟨g, 0, none⟩) := by simpa using hp
  simp [results, h, hp', asAddr, Result.andThen, loadW w g a b c d e f t hb]
theorem three_new (w : World) (x y z : Obj) :
    ((w.alloc x).alloc y).alloc z = ((w.alloc x).alloc y).alloc z ∧ (((w.alloc x).alloc y).alloc z).heap[w.heap.size]? = some x ∧ (((w.alloc x).alloc y).alloc z).heap[w.heap.size + 1]? = some y ∧ (((w.alloc x).alloc y).alloc z).heap[w.heap.size + 1 + 1]? = some z ∧ (((w.alloc x).alloc y).alloc z).heap.size = w.heap.size + 3 ∧ (∀ S, Turn S w (((w.alloc x).alloc y).alloc z)) := by
  refine ⟨rfl, ?_, ?_, ?_, by simp, fun S => (((Turn.refl S w).alloc _).alloc _).alloc _⟩
  · exact (Below.heap_alloc _ _ _ (by simp; omega)).trans ((Below.heap_alloc _ _ _ (by simp)).trans (heap_alloc_new _ _))
  · have h := heap_alloc_new (w.alloc x) y
    have e : (w.alloc x).heap.size = w.heap.size + 1 := by simp
    rw [e] at h
    exact (Below.heap_alloc _ _ _ (by simp)).trans h
  · have := heap_alloc_new ((w.alloc x).alloc y) z
    simpa using this
set_option maxRecDepth 100000 in
set_option maxHeartbeats 2000000 in
/-- a token more -/
theorem with_tok (tv : Value) (acc : List Tkn) (x : Tkn) (B : Nat) (w : World) (hrow : w.ownsRow B 52 4 tv acc.length (acc.flatMap cells4)) (hB : B ≤ w.heap.size) (hl : acc.length ≤ 70000) :
    Calls Tryz.prog 25 #[wentV tv none false, .agg (cells4 x).toArray, .nilIface] w fun e w' => ∃ nv, e = .returned (wentV nv none false) ∧ w'.ownsRow B 52 4 nv (acc.length + 1) (acc.flatMap cells4 ++ cells4 x) ∧
      Turn (fun k => tv.ownBlock = some k) w w' ∧ (∀ q, nv.ownBlock = some q → tv.ownBlock = some q ∨ w.heap.size ≤ q) := by
  obtain ⟨i0, hi, hz0, hz1, hz2⟩ := info_parts info29
  obtain ⟨k, t, l, c⟩ := x
  have n1 : Hid (acc.length + 1 ≤ maxLen) := (show acc.length + 1 ≤ maxLen by unfold maxLen; omega)
  have n2 : Hid ((acc.length + 1) * 40 ≤ 140737488355328) := (show (acc.length + 1) * 40 ≤ 140737488355328 by omega)
  have H := hide' (And.intro hrow hB)
  clear hrow hB hl
  unfold wentV
  simp only
  have hc4 : (cells4 (k, t, l, c)).toArray = #[.int .i8 k, .string t, .int .i64 l, .int .i64 c] := rfl
  rw [hc4]
  go_enter Tryz.func25, Tryz.ntmps25
  go_upto_region 4 with fail
  obtain ⟨_, P1, P0, P2, P3, P4⟩ := three_new w (.cells #[tv, .int .i64 0, .int .i64 0, .int .i64 0, .string ⟨#[]⟩, .bool false] 39) (.cells #[.int .i8 k, .string t, .int .i64 l, .int .i64 c] 52) (.cells #[.slice none 0 0, .int .i64 0, .int .i64 0, .int .i64 0, .string ⟨#[]⟩, .bool false] 39)
  generalize ((w.alloc (.cells #[tv, .int .i64 0, .int .i64 0, .int .i64 0, .string ⟨#[]⟩, .bool false] 39)).alloc (.cells #[.int .i8 k, .string t, .int .i64 l, .int .i64 c] 52)).alloc (.cells #[.slice none 0 0, .int .i64 0, .int .i64 0, .int .i64 0, .string ⟨#[]⟩, .bool false] 39) = W at *
  obtain ⟨b0, hb0⟩ : ∃ b, b = w.heap.size := ⟨_, rfl⟩
  obtain ⟨b2, hb2⟩ : ∃ b, b = w.heap.size + 1 + 1 := ⟨_, rfl⟩
  have hne : b0 ≠ b2 := by omega
  have hne' := hne.symm
  rw [← hb2, ← hb0]
  rw [← hb0] at P1 P0
  rw [← hb2] at P2
  obtain ⟨x0, x1, x2, x3, _⟩ := Tk.of_cells P0
  have hq : ∀ q, tv.ownBlock = some q → b0 ≠ q ∧ b2 ≠ q := fun q e => by have := (H.out.1.lt q e).2; omega
  have hs : b0 < W.heap.size ∧ b2 < W.heap.size := by omega
  have Hb := hide' (And.intro hb0 (And.intro hb2 (And.intro P1 (And.intro P2 (And.intro P3 (And.intro P4 (And.intro hq hs)))))))
  have hrow : W.ownsRow B 52 4 tv acc.length (acc.flatMap cells4) := (P4 (fun _ => False)).row H.out.1 (fun _ _ q => q)
  have Hrow := hide' hrow
  have hsB : Hid (B ≤ W.heap.size) := (show B ≤ W.heap.size by have := H.out.2; omega)
  obtain ⟨y0, y1, y2, y3, y4, y5, _⟩ := six_cells P1
  clear P0 P1 P2 P3 P4 hq hs hb0 hb2 hrow
  go_upto_region 5 with (at_builtin; refine wpList_append_lies _ rfl _ _ 22 rfl B 52 i0 _ 4 40 Tryz.underlying22 hi hz0 hz1 hz2 rfl (by decide) _ acc.length (acc.flatMap cells4) rfl (Hrow.out.alloc _) ⟨W.heap.size, 0, none⟩ 1 1 [.int .i8 k, .string t, .int .i64 l, .int .i64 c] rfl rfl (four_new _ _ _ _ _ _) (by simp [Value.oneCell']) (by decide) n1.out n2.out (by have := hsB.out; simp; omega) (W.heap.size + 1) (by simp) ?_; intro gg rc w3 hrow3 hgrow3 hat3 hlt3; have hk3 : ∀ k, k < W.heap.size → (∀ q, tv.ownBlock = some q → k ≠ q) → w3.heap[k]? = W.heap[k]? := (fun k hk hne => (hgrow3.block k (by simp; omega) (fun e => hne k e.symm rfl)).trans (Below.heap_alloc _ _ _ hk)); have z0 := (hk3 b0 Hb.out.2.2.2.2.2.2.2.1 (fun q e => (Hb.out.2.2.2.2.2.2.1 q e).1)).trans Hb.out.2.2.1; have z2 := (hk3 b2 Hb.out.2.2.2.2.2.2.2.2 (fun q e => (Hb.out.2.2.2.2.2.2.1 q e).2)).trans Hb.out.2.2.2.1; obtain ⟨v0, v1, v2, v3, v4, v5, v6, _⟩ := six_cells z0; have T3 := hide' (And.intro hrow3 (And.intro (((Hb.out.2.2.2.2.2.1 (fun k => tv.ownBlock = some k)).alloc _).grown hgrow3 (fun k hk _ => hk)) (And.intro hat3 (And.intro z0 z2)))); clear z0 z2 hk3 hrow3 hgrow3 hat3 hlt3)
  obtain ⟨r1, r2, r3, r4, r5⟩ := T3.out
  obtain ⟨nv, hnv⟩ : ∃ v, v = Value.slice (some ⟨gg, 0, none⟩) (acc.length + 1) rc := ⟨_, rfl⟩
  rw [← hnv] at r1 ⊢
  have s0 : (w3.setCell ⟨b0, 0, none⟩ nv).heap[b0]? = some (.cells #[nv, .int .i64 0, .int .i64 0, .int .i64 0, .string ⟨#[]⟩, .bool false] 39 (0, 0)) := by simpa using heap_setCell_same w3 b0 0 _ 39 nv r4
  have s2 : (w3.setCell ⟨b0, 0, none⟩ nv).heap[b2]? = some (.cells #[.slice none 0 0, .int .i64 0, .int .i64 0, .int .i64 0, .string ⟨#[]⟩, .bool false] 39 (0, 0)) := (Below.heap_setCell _ _ _ _ hne').trans r5
  have hg : nv.ownBlock = some gg := by rw [hnv]; rfl
  have hgq : tv.ownBlock = some gg ∨ gg = W.heap.size + 1 := r3
  have hgn : gg ≠ b0 ∧ gg ≠ b2 := by
    rcases hgq with q | q
    · exact ⟨fun e => (Hb.out.2.2.2.2.2.2.1 gg q).1 e.symm, fun e => (Hb.out.2.2.2.2.2.2.1 gg q).2 e.symm⟩
    · have := Hb.out.2.2.2.2.2.2.2; omega
  have t4 : Turn (fun k => tv.ownBlock = some k) w (w3.setCell ⟨b0, 0, none⟩ nv) := r2.setCell (p := ⟨b0, 0, none⟩) (fun h => by have := Hb.out.1; simp at h; omega) _
  have row4 : (w3.setCell ⟨b0, 0, none⟩ nv).ownsRow B 52 4 nv (acc.length + 1) (acc.flatMap cells4 ++ [.int .i8 k, .string t, .int .i64 l, .int .i64 c]) :=
    ((Turn.refl (fun k => k = b0) w3).setCell (p := ⟨b0, 0, none⟩) (fun _ => rfl) _).row r1 (fun q e h => by rw [hg] at e; injection e with e; exact hgn.1 (e.trans h))
  obtain ⟨u0, u1, u2, u3, u4, u5, _⟩ := six_cells s0
  obtain ⟨d0, d1, d2, d3, d4, d5, f0, f1, f2, f3, f4, f5⟩ := six_cells s2
  have HH := hide' (And.intro s2 (And.intro hg (And.intro hgq (And.intro hgn (And.intro t4 row4)))))
  generalize w3.setCell ⟨b0, 0, none⟩ nv = W4 at *
  clear r1 r2 r3 r4 r5 v0 v1 v2 v3 v4 v5 v6 x0 x1 x2 x3 y0 y1 y2 y3 y4 y5 s0 s2 hg hgq hgn t4 row4 T3
  subst hnv
  go_wp2_with fail
  have hb := set6_heap W4 b2 _ _ _ _ _ _ (.slice (some ⟨gg, 0, none⟩) (acc.length + 1) rc) (.int .i64 0) (.int .i64 0) (.int .i64 0) (.string ⟨#[]⟩) (.bool false) 39 HH.out.1
  refine bodyPost_ret_by (resultsW rfl _ _ b2 _ _ _ _ _ _ 39 rfl hb) rfl ?_
  refine ⟨_, rfl, ?_, ?_, fun q e => ?_⟩
  · refine Turn.row (S := fun k => k = b2) ?_ HH.out.2.2.2.2.2 (fun q e h => by rw [HH.out.2.1] at e; injection e with e; exact HH.out.2.2.2.1.2 (e.trans h))
    exact ((((((Turn.refl (fun k => k = b2) W4).setCell (p := ⟨b2, 0, none⟩) (fun _ => rfl) _).setCell (p := ⟨b2, 1, none⟩) (fun _ => rfl) _).setCell (p := ⟨b2, 2, none⟩) (fun _ => rfl) _).setCell (p := ⟨b2, 3, none⟩) (fun _ => rfl) _).setCell (p := ⟨b2, 4, none⟩) (fun _ => rfl) _).setCell (p := ⟨b2, 5, none⟩) (fun _ => rfl) _
  · have hx : ∀ j, b2 < w.heap.size → tv.ownBlock = some j := fun j h => by have := Hb.out.2.1; omega
    exact (((((HH.out.2.2.2.2.1.setCell (p := ⟨b2, 0, none⟩) (hx _) _).setCell (p := ⟨b2, 1, none⟩) (hx _) _).setCell (p := ⟨b2, 2, none⟩) (hx _) _).setCell (p := ⟨b2, 3, none⟩) (hx _) _).setCell (p := ⟨b2, 4, none⟩) (hx _) _).setCell (p := ⟨b2, 5, none⟩) (hx _) _
  · rw [HH.out.2.1] at e
    injection e with e
    rcases HH.out.2.2.1 with q' | q'
    · exact .inl (e ▸ q')
    · refine .inr ?_
      have := Hb.out.2.2.2.2.1
      omega
set_option maxRecDepth 100000 in
set_option maxHeartbeats 2000000 in
/-- the fault -/
theorem with_flt (tv : Value) (fb : Nat) (code l c : Int) (word : ByteArray) (w : World) (hF : Flt fb code l c word w) (hg : w.cell? ⟨0, 0, none⟩ = some (ty 29)) (hc : code ≠ 0) (hv : ∃ ao n cap, tv = .slice ao n cap) :
    Calls Tryz.prog 25 #[wentV tv none false, .agg #[.int .i8 0, .string ByteArray.empty, .int .i64 0, .int .i64 0], .iface 58 (.pointer (some ⟨fb, 0, none⟩))] w fun e w' => e = .returned (wentV tv (some (code, l, c, word)) false) ∧ Below w.heap.size w w' := by
  have hc1 : (code == 0) = false := beq_eq_false_iff_ne.2 hc
  have H := hide' (And.intro hF hg)
  clear hF hg hc
  obtain ⟨ao, n, cap, rfl⟩ := hv
  unfold wentV
  simp only
  go_enter Tryz.func25, Tryz.ntmps25
  go_upto_region 6 with fail
  obtain ⟨_, P1, P0, P2, P3, P4⟩ := three_new w (.cells #[.slice ao n cap, .int .i64 0, .int .i64 0, .int .i64 0, .string ⟨#[]⟩, .bool false] 39) (.cells #[.int .i8 0, .string ByteArray.empty, .int .i64 0, .int .i64 0] 52) (.cells #[.slice none 0 0, .int .i64 0, .int .i64 0, .int .i64 0, .string ⟨#[]⟩, .bool false] 39)
  generalize ((w.alloc (.cells #[.slice ao n cap, .int .i64 0, .int .i64 0, .int .i64 0, .string ⟨#[]⟩, .bool false] 39)).alloc (.cells #[.int .i8 0, .string ByteArray.empty, .int .i64 0, .int .i64 0] 52)).alloc (.cells #[.slice none 0 0, .int .i64 0, .int .i64 0, .int .i64 0, .string ⟨#[]⟩, .bool false] 39) = W at *
  obtain ⟨b0, hb0⟩ : ∃ b, b = w.heap.size := ⟨_, rfl⟩
  obtain ⟨b1, hb1⟩ : ∃ b, b = w.heap.size + 1 := ⟨_, rfl⟩
  obtain ⟨b2, hb2⟩ : ∃ b, b = w.heap.size + 1 + 1 := ⟨_, rfl⟩
  have hne : b0 ≠ b2 := by omega
  have hne' := hne.symm
  have hne1 : b0 ≠ b1 := by omega
  have hne1' := hne1.symm
  rw [← hb2, ← hb1, ← hb0]
  rw [← hb0] at P1
  rw [← hb1] at P0
  rw [← hb2] at P2
  have hF : Flt fb code l c word W := ((P4 (fun _ => False)).block fb (Array.getElem?_eq_some_iff.1 H.out.1).1 (fun q => q)).trans H.out.1
  have hg : W.cell? ⟨0, 0, none⟩ = some (ty 29) := ((P4 (fun _ => False)).cell (p := ⟨0, 0, none⟩) (lt_of_cell H.out.2) (fun q => q)).trans H.out.2
  have DT := hide' (told_flt fb code l c word W hF hg)
  have hbel : Below w.heap.size w W := (P4 (fun _ => False)).below (fun _ q => q.elim) (Nat.le_refl _)
  have Hb := hide' (And.intro hb0 (And.intro hb1 (And.intro hb2 (And.intro P0 (And.intro P1 (And.intro P2 (And.intro P3 hbel)))))))
  clear hF hg hbel P0 P1 P2 P3 P4 hb0 hb1 hb2
  go_upto_region 7 with (go_at_call 10; refine DT.out.mono ?_; rintro e w3 ⟨rfl, b3⟩)
  obtain ⟨h0, h1, h2, p0, p1, p2, p3, hbel⟩ := Hb.out
  have t3 : Below W.heap.size W (w3.alloc (.cells #[.int .i64 code, .int .i64 l, .int .i64 c, .string word] 25)) := b3.alloc b3.size _
  have k7 := Tk.of_cells (heap_alloc_new w3 (.cells #[.int .i64 code, .int .i64 l, .int .i64 c, .string word] 25))
  have s0 := (t3.block b0 (by omega)).trans p1
  have s1 := (t3.block b1 (by omega)).trans p0
  have s2 := (t3.block b2 (by omega)).trans p2
  have hn7 : b0 ≠ w3.heap.size := by have := b3.size; omega
  have hn7' := hn7.symm
  obtain ⟨u0, u1, u2, u3, u4, u5, e0, e1, e2, e3, e4, e5⟩ := six_cells s0
  obtain ⟨x0, x1, x2, x3, _⟩ := Tk.of_cells s1
  obtain ⟨d0, d1, d2, d3, d4, d5, f0, f1, f2, f3, f4, f5⟩ := six_cells s2
  obtain ⟨y0, y1, y2, y3, _⟩ := k7
  have HH := hide' (And.intro s0 (And.intro s2 (And.intro (show w.heap.size ≤ b0 ∧ w.heap.size ≤ b2 by omega) (hbel.trans (t3.mono (by omega))))))
  generalize w3.alloc (.cells #[.int .i64 code, .int .i64 l, .int .i64 c, .string word] 25) = W4 at *
  generalize w3.heap.size = b7 at *
  clear h0 h1 h2 p0 p1 p2 p3 hbel t3 s0 s1 s2 b3 Hb
  go_wp2_with fail
  have q1 : ((((W4.setCell ⟨b0, 1, none⟩ (.int .i64 code)).setCell ⟨b0, 2, none⟩ (.int .i64 l)).setCell ⟨b0, 3, none⟩ (.int .i64 c)).setCell ⟨b0, 4, none⟩ (.string word)).heap[b2]? = some (.cells #[.slice none 0 0, .int .i64 0, .int .i64 0, .int .i64 0, .string ⟨#[]⟩, .bool false] 39 (0, 0)) :=
    (Below.heap_setCell _ _ _ _ hne').trans ((Below.heap_setCell _ _ _ _ hne').trans ((Below.heap_setCell _ _ _ _ hne').trans ((Below.heap_setCell _ _ _ _ hne').trans HH.out.2.1)))
  have hb := set6_heap _ b2 _ _ _ _ _ _ (.slice ao n cap) (.int .i64 code) (.int .i64 l) (.int .i64 c) (.string word) (.bool false) 39 q1
  refine bodyPost_ret_by (resultsW rfl _ _ b2 _ _ _ _ _ _ 39 rfl hb) rfl ?_
  have l0 := HH.out.2.2.1.1
  have l2 := HH.out.2.2.1.2
  exact ⟨rfl, (((((((((HH.out.2.2.2.setCell (p := ⟨b0, 1, none⟩) l0 _).setCell (p := ⟨b0, 2, none⟩) l0 _).setCell (p := ⟨b0, 3, none⟩) l0 _).setCell (p := ⟨b0, 4, none⟩) l0 _).setCell (p := ⟨b2, 0, none⟩) l2 _).setCell (p := ⟨b2, 1, none⟩) l2 _).setCell (p := ⟨b2, 2, none⟩) l2 _).setCell (p := ⟨b2, 3, none⟩) l2 _).setCell (p := ⟨b2, 4, none⟩) l2 _).setCell (p := ⟨b2, 5, none⟩) l2 _⟩
end Go.Proofs.YtnlopepbcnegbaaGreatDoor
